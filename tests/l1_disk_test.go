package tests

import (
	"bytes"
	"fmt"
	"math"
	"testing"

	"loop.example/s02098/impl"
)

func TestDiskNew(t *testing.T) {
	for _, c := range []int64{0, 1, 500, impl.CapMax} {
		wantDisk(t, fmt.Sprint("cap ", c), impl.DiskNew(c), impl.Disk{Cap: c, Fuel: -1})
	}
	for _, c := range []int64{-1, impl.CapMax + 1, math.MinInt64, math.MaxInt64} {
		wantDisk(t, fmt.Sprint("cap ", c), impl.DiskNew(c), impl.Disk{})
	}
}

func TestValidDisk(t *testing.T) {
	for _, r := range validDisks() {
		if !impl.ValidDisk(r.disk) {
			t.Errorf("%s: is valid", r.what)
		}
	}
	for _, r := range invalidDisks() {
		if impl.ValidDisk(r.disk) {
			t.Errorf("%s: is not valid", r.what)
		}
	}
}

func TestInvalidDiskIsNeitherReadNorChanged(t *testing.T) {
	for _, r := range invalidDisks() {
		if n := impl.PageCount(r.disk, "a"); n != -1 {
			t.Errorf("%s: PageCount %d", r.what, n)
		}
		if b := impl.ReadPage(r.disk, "a", 0); len(b) != 0 {
			t.Errorf("%s: ReadPage has %d bytes", r.what, len(b))
		}
		for _, s := range steps {
			wantRes(t, s.what+" at "+r.what, s.do(r.disk), impl.DiskBad, r.disk)
		}
		wantDisk(t, "CrashDisk at "+r.what, impl.CrashDisk(r.disk, impl.Crash{Keep: []bool{true}, Tear: -1}), impl.Disk{})
	}
}

func TestReadingSeesTheCache(t *testing.T) {
	d := impl.Disk{
		Files: []impl.File{fileOf("a", 1, 2), fileOf("b", 3)},
		Cache: []impl.Pend{pendOf("a", 1, 4), pendOf("a", 2, 5), pendOf("c", 0, 6), pendOf("a", 1, 7), pendOf("c", 1, 8)},
		Cap:   6,
	}
	for _, dead := range []bool{false, true} {
		d.Dead = dead
		for name, pages := range map[string][]byte{"a": {1, 7, 5}, "b": {3}, "c": {6, 8}} {
			if n := impl.PageCount(d, name); n != int64(len(pages)) {
				t.Errorf("PageCount of %s: %d", name, n)
			}
			for i, b := range pages {
				if got := impl.ReadPage(d, name, int64(i)); !bytes.Equal(got, pageOf(b)) {
					t.Errorf("page %d of %s: %v, want %d", i, name, got, b)
				}
			}
			for _, i := range []int64{-1, int64(len(pages)), math.MaxInt64, math.MinInt64} {
				if got := impl.ReadPage(d, name, i); len(got) != 0 {
					t.Errorf("page %d of %s: %v", i, name, got)
				}
			}
		}
		for _, name := range append([]string{"d", "ab"}, noNames...) {
			if impl.PageCount(d, name) != -1 || len(impl.ReadPage(d, name, 0)) != 0 {
				t.Errorf("there is no file %q", name)
			}
		}
	}
}

func TestWriteAddsToTheCache(t *testing.T) {
	d := impl.Disk{Files: []impl.File{fileOf("b", 1)}, Cache: []impl.Pend{pendOf("b", 1, 2)}, Cap: 9, Fuel: 5}
	for _, p := range []impl.Pend{pendOf("b", 0, 3), pendOf("b", 1, 4), pendOf("b", 2, 5), pendOf("a", 0, 6), pendOf("abcdefgh", 0, 7), pendOf("z", 0, 8)} {
		want := d
		want.Cache = []impl.Pend{pendOf("b", 1, 2), p}
		want.Fuel = 4
		wantRes(t, fmt.Sprint(p.Name, p.Page), impl.WritePage(d, p.Name, p.Page, p.Data), impl.DiskOk, want)
	}
}

func TestWriteKeepsEveryByte(t *testing.T) {
	data := make([]byte, impl.PageBytes)
	for i := range data {
		data[i] = byte(255 - i)
	}
	d := impl.WritePage(impl.DiskNew(1), "a", 0, data).Disk
	if !bytes.Equal(impl.ReadPage(d, "a", 0), data) {
		t.Errorf("cached: %v", impl.ReadPage(d, "a", 0))
	}
	d = impl.SyncDisk(d).Disk
	if !bytes.Equal(impl.ReadPage(d, "a", 0), data) || !bytes.Equal(d.Files[0].Data, data) {
		t.Errorf("synced: %v", d.Files[0].Data)
	}
}

func TestWriteRefusals(t *testing.T) {
	seen := impl.Disk{Files: []impl.File{fileOf("a", 1)}, Cache: []impl.Pend{pendOf("a", 1, 2), pendOf("b", 0, 3)}, Cap: 3}
	twelve := impl.Disk{Files: manyFiles(11), Cache: []impl.Pend{pendOf("y", 0, 1)}, Cap: 90}
	cached := impl.Disk{Files: []impl.File{fileOf("a", 1)}, Cache: rewrites("a", impl.CacheMax), Cap: 9}
	room := impl.Disk{Files: []impl.File{fileOf("a", 1)}, Cap: 9}
	page := pageOf(9)
	rows := []struct {
		what string
		disk impl.Disk
		name string
		page int64
		data []byte
		err  int64
	}{
		{"no room as seen, behind the end", seen, "a", 2, page, impl.DiskFull},
		{"no room as seen, a new file", seen, "c", 0, page, impl.DiskFull},
		{"no room needed", seen, "a", 1, page, impl.DiskLost},
		{"bad page before full", seen, "a", 3, page, impl.DiskBad},
		{"bad page of a new file before full", seen, "c", 1, page, impl.DiskBad},
		{"bad data before full", seen, "a", 2, page[1:], impl.DiskBad},
		{"bad name before full", seen, "C", 0, page, impl.DiskBad},
		{"a 13th file", twelve, "z", 0, page, impl.DiskFull},
		{"a page more of a 12th file", twelve, "y", 1, page, impl.DiskLost},
		{"the cache is full", cached, "a", 0, page, impl.DiskFull},
		{"the cache is full, bad page", cached, "a", 2, page, impl.DiskBad},
		{"Cap 0", impl.Disk{}, "a", 0, page, impl.DiskFull},
		{"Cap 0, bad page", impl.Disk{}, "a", 1, page, impl.DiskBad},
		{"page -1", room, "a", -1, page, impl.DiskBad},
		{"lowest page", room, "a", math.MinInt64, page, impl.DiskBad},
		{"largest page", room, "a", math.MaxInt64, page, impl.DiskBad},
		{"just behind the end", room, "a", 1, page, impl.DiskLost},
		{"two behind the last page", room, "a", 2, page, impl.DiskBad},
		{"page 1 of no file", room, "b", 1, page, impl.DiskBad},
		{"no data", room, "a", 0, nil, impl.DiskBad},
		{"127 bytes", room, "a", 0, page[:127], impl.DiskBad},
		{"129 bytes", room, "a", 0, append(pageOf(9), 9), impl.DiskBad},
		{"256 bytes", room, "a", 0, append(pageOf(9), page...), impl.DiskBad},
	}
	for _, r := range rows {
		// The fuel is 0: what is in the way goes before the loss of power.
		want := r.disk
		want.Dead = r.err == impl.DiskLost
		wantRes(t, r.what, impl.WritePage(r.disk, r.name, r.page, r.data), r.err, want)
		if r.err != impl.DiskLost {
			fed := r.disk
			fed.Fuel = 4
			wantRes(t, r.what+", with fuel", impl.WritePage(fed, r.name, r.page, r.data), r.err, fed)
		}
	}
	for _, name := range noNames {
		wantRes(t, fmt.Sprintf("name %q", name), impl.WritePage(room, name, 0, page), impl.DiskBad, room)
	}
}

func TestCacheAndDiskAreFilledToTheBrim(t *testing.T) {
	d := impl.Disk{Files: []impl.File{fileOf("a", 1)}, Cache: rewrites("a", impl.CacheMax-1), Cap: 1, Fuel: -1}
	last := impl.WritePage(d, "a", 0, pageOf(3))
	if last.Err != impl.DiskOk || len(last.Disk.Cache) != impl.CacheMax {
		t.Fatalf("write %d: %d", impl.CacheMax, last.Err)
	}
	wantRes(t, "one more", impl.WritePage(last.Disk, "a", 0, pageOf(3)), impl.DiskFull, last.Disk)
	pages := make([]byte, impl.CapMax-1)
	d = impl.Disk{Files: []impl.File{fileOf("a", pages...)}, Cap: impl.CapMax, Fuel: -1}
	brim := impl.WritePage(d, "b", 0, pageOf(3))
	if brim.Err != impl.DiskOk {
		t.Fatalf("page %d: %d", impl.CapMax, brim.Err)
	}
	for name, page := range map[string]int64{"a": 999, "b": 1, "c": 0} {
		wantRes(t, "one more of "+name, impl.WritePage(brim.Disk, name, page, pageOf(3)), impl.DiskFull, brim.Disk)
	}
	d = impl.Disk{Files: manyFiles(impl.FileMax - 1), Cap: 90, Fuel: -1}
	twelve := impl.WritePage(d, "z", 0, pageOf(3))
	if twelve.Err != impl.DiskOk {
		t.Fatalf("file %d: %d", impl.FileMax, twelve.Err)
	}
	wantRes(t, "one more file", impl.WritePage(twelve.Disk, "y", 0, pageOf(3)), impl.DiskFull, twelve.Disk)
}

func TestSyncMakesTheSeenDurable(t *testing.T) {
	d := impl.Disk{
		Files: []impl.File{fileOf("b", 1, 2)},
		Cache: []impl.Pend{pendOf("c", 0, 3), pendOf("b", 0, 4), pendOf("a", 0, 5), pendOf("b", 2, 6), pendOf("c", 0, 7), pendOf("a", 1, 8)},
		Cap:   6, Fuel: 1,
	}
	want := impl.Disk{Files: []impl.File{fileOf("a", 5, 8), fileOf("b", 4, 2, 6), fileOf("c", 7)}, Cap: 6}
	wantRes(t, "sync", impl.SyncDisk(d), impl.DiskOk, want)
	d = impl.Disk{Files: manyFiles(3), Cap: 3, Fuel: -1}
	wantRes(t, "nothing cached", impl.SyncDisk(d), impl.DiskOk, d)
	wantRes(t, "nothing at all", impl.SyncDisk(impl.DiskNew(0)), impl.DiskOk, impl.DiskNew(0))
}

func TestSyncOfALongFileKeepsThePagesInOrder(t *testing.T) {
	d := impl.DiskNew(impl.CapMax)
	d.Files = []impl.File{fileOf("a", make([]byte, 500)...)}
	for i := range int64(500) {
		data := pageOf(byte(i))
		data[0] = byte(i >> 8)
		d.Cache = append(d.Cache, impl.Pend{Name: "a", Page: 500 + i, Data: data})
	}
	r := impl.SyncDisk(d)
	if r.Err != impl.DiskOk || len(r.Disk.Files) != 1 || len(r.Disk.Files[0].Data) != impl.CapMax*impl.PageBytes {
		t.Fatalf("sync: %d", r.Err)
	}
	for i := range int64(500) {
		at := (500 + i) * impl.PageBytes
		if !bytes.Equal(r.Disk.Files[0].Data[at:at+impl.PageBytes], d.Cache[i].Data) {
			t.Fatalf("page %d", 500+i)
		}
	}
}

func TestRenameFile(t *testing.T) {
	d := impl.Disk{Files: []impl.File{fileOf("a", 1), fileOf("c", 2, 3), fileOf("e", 4)}, Cap: 9, Fuel: 7}
	done := func(files ...impl.File) impl.Disk { return impl.Disk{Files: files, Cap: 9, Fuel: 6} }
	rows := []struct {
		from, to string
		want     impl.Disk
	}{
		{"a", "z", done(fileOf("c", 2, 3), fileOf("e", 4), fileOf("z", 1))},
		{"e", "b", done(fileOf("a", 1), fileOf("b", 4), fileOf("c", 2, 3))},
		{"c", "d", done(fileOf("a", 1), fileOf("d", 2, 3), fileOf("e", 4))},
		{"a", "c", done(fileOf("c", 1), fileOf("e", 4))},
		{"c", "a", done(fileOf("a", 2, 3), fileOf("e", 4))},
		{"e", "abcdefgh", done(fileOf("a", 1), fileOf("abcdefgh", 4), fileOf("c", 2, 3))},
	}
	for _, r := range rows {
		wantRes(t, r.from+" to "+r.to, impl.RenameFile(d, r.from, r.to), impl.DiskOk, r.want)
	}
	wantRes(t, "from no file", impl.RenameFile(d, "b", "z"), impl.DiskBad, d)
	wantRes(t, "from no file to a file", impl.RenameFile(d, "b", "a"), impl.DiskBad, d)
	wantRes(t, "to itself", impl.RenameFile(d, "a", "a"), impl.DiskBad, d)
	wantRes(t, "no file to itself", impl.RenameFile(d, "b", "b"), impl.DiskBad, d)
	for _, name := range noNames {
		wantRes(t, fmt.Sprintf("to %q", name), impl.RenameFile(d, "a", name), impl.DiskBad, d)
		wantRes(t, fmt.Sprintf("from %q", name), impl.RenameFile(d, name, "z"), impl.DiskBad, d)
	}
}

func TestRemoveFile(t *testing.T) {
	d := impl.Disk{Files: []impl.File{fileOf("a", 1), fileOf("c", 2, 3)}, Cap: 9, Fuel: 7}
	wantRes(t, "the first", impl.RemoveFile(d, "a"), impl.DiskOk, impl.Disk{Files: []impl.File{fileOf("c", 2, 3)}, Cap: 9, Fuel: 6})
	wantRes(t, "the last", impl.RemoveFile(d, "c"), impl.DiskOk, impl.Disk{Files: []impl.File{fileOf("a", 1)}, Cap: 9, Fuel: 6})
	for _, name := range append([]string{"b", "aa"}, noNames...) {
		wantRes(t, fmt.Sprintf("no file %q", name), impl.RemoveFile(d, name), impl.DiskBad, d)
	}
	alone := impl.Disk{Files: []impl.File{fileOf("a", 1)}, Cap: 1, Fuel: -1}
	wantRes(t, "the only one", impl.RemoveFile(alone, "a"), impl.DiskOk, impl.DiskNew(1))
}

func TestRenameAndRemoveRefuseACache(t *testing.T) {
	d := impl.Disk{Files: []impl.File{fileOf("a", 1), fileOf("b", 2)}, Cache: []impl.Pend{pendOf("c", 0, 3)}, Cap: 9, Fuel: 0}
	for _, name := range []string{"a", "b", "c"} {
		wantRes(t, "rename "+name, impl.RenameFile(d, name, "z"), impl.DiskBad, d)
		wantRes(t, "remove "+name, impl.RemoveFile(d, name), impl.DiskBad, d)
	}
}

func TestFuelOfEveryStep(t *testing.T) {
	for _, s := range steps {
		d := impl.Disk{Files: []impl.File{fileOf("a", 1)}, Cap: 2}
		lost := d
		lost.Dead = true
		wantRes(t, s.what+" with fuel 0", s.do(d), impl.DiskLost, lost)
		for _, row := range [][2]int64{{-1, -1}, {1, 0}, {2, 1}, {impl.FuelMax, impl.FuelMax - 1}} {
			d.Fuel = row[0]
			r := s.do(d)
			if r.Err != impl.DiskOk || r.Disk.Fuel != row[1] || r.Disk.Dead || r.Disk.Cap != 2 {
				t.Errorf("%s with fuel %d: %d, %s", s.what, row[0], r.Err, tell(r.Disk))
			}
		}
	}
}

func TestLossKeepsTheCache(t *testing.T) {
	d := impl.Disk{Files: []impl.File{fileOf("a", 1)}, Cache: []impl.Pend{pendOf("a", 0, 2), pendOf("b", 0, 3)}, Cap: 9}
	lost := d
	lost.Dead = true
	wantRes(t, "write", impl.WritePage(d, "a", 0, pageOf(9)), impl.DiskLost, lost)
	wantRes(t, "sync", impl.SyncDisk(d), impl.DiskLost, lost)
	if !bytes.Equal(impl.ReadPage(lost, "a", 0), pageOf(2)) || impl.PageCount(lost, "b") != 1 {
		t.Errorf("a dead disk is read as seen")
	}
}

func TestDeadDiskTakesNoStep(t *testing.T) {
	for _, fuel := range []int64{-1, 0, 1, impl.FuelMax} {
		d := impl.Disk{Files: []impl.File{fileOf("a", 1)}, Cap: 2, Fuel: fuel, Dead: true}
		for _, s := range steps {
			wantRes(t, fmt.Sprint(s.what, " with fuel ", fuel), s.do(d), impl.DiskBad, d)
		}
	}
	full := impl.Disk{Files: []impl.File{fileOf("a", 1)}, Cap: 1, Dead: true}
	wantRes(t, "bad before full", impl.WritePage(full, "a", 1, pageOf(9)), impl.DiskBad, full)
}
