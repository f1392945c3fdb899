package tests

import (
	"testing"

	"loop.example/s02098/impl"
)

func memoryDisks() []namedDisk {
	rows := append(validDisks(), invalidDisks()...)
	small := rows[:0:0]
	for _, r := range rows {
		if len(r.disk.Cache) < 100 {
			small = append(small, r)
		}
	}
	for _, fuel := range []int64{-1, 0, 3} {
		d := impl.Disk{Files: []impl.File{fileOf("a", 1, 2), fileOf("b", 3)}, Cap: 9, Fuel: fuel}
		small = append(small, namedDisk{"files alone", d})
		d.Cache = []impl.Pend{pendOf("a", 0, 4), pendOf("c", 0, 5), pendOf("a", 2, 6)}
		small = append(small, namedDisk{"files and a cache", d})
	}
	r := newDice(5)
	for range 100 {
		small = append(small, namedDisk{"random", r.disk()}, namedDisk{"spoilt", r.spoilt(r.disk())})
	}
	return small
}

func TestDiskMemory(t *testing.T) {
	page := pageOf(9)
	for _, r := range memoryDisks() {
		callCleanly(t, "ValidDisk at "+r.what, impl.ValidDisk, r.disk)
		callCleanly(t, "PageCount at "+r.what, impl.PageCount, r.disk, "a")
		callCleanly(t, "ReadPage at "+r.what, impl.ReadPage, r.disk, "a", int64(0))
		callCleanly(t, "WritePage at "+r.what, impl.WritePage, r.disk, "a", int64(0), page)
		callCleanly(t, "WritePage of short data at "+r.what, impl.WritePage, r.disk, "a", int64(0), page[:9])
		callCleanly(t, "SyncDisk at "+r.what, impl.SyncDisk, r.disk)
		callCleanly(t, "RenameFile at "+r.what, impl.RenameFile, r.disk, "a", "b")
		callCleanly(t, "RenameFile anew at "+r.what, impl.RenameFile, r.disk, "a", "z")
		callCleanly(t, "RemoveFile at "+r.what, impl.RemoveFile, r.disk, "a")
		callCleanly(t, "CrashDisk at "+r.what, impl.CrashDisk, r.disk, impl.Crash{Tear: -1})
		callCleanly(t, "CrashDisk with writes at "+r.what, impl.CrashDisk, r.disk, impl.Crash{Keep: []bool{true, true}, Tear: 2, At: 5})
	}
}
