package tests

import (
	"fmt"
	"slices"
	"testing"

	"loop.example/s02098/impl"
)

func TestWriteOldMemory(t *testing.T) {
	disks := putDisks()
	for _, row := range oldRows() {
		for _, on := range disks {
			callCleanly(t, row.what+" at "+on.what, impl.WriteOld, on.disk, "q", int64(7), row.pairs)
		}
		for _, name := range []string{"x", "", "log"} {
			callCleanly(t, row.what+" as "+name, impl.WriteOld, xDisk(), name, int64(7), row.pairs)
		}
		callCleanly(t, row.what+", id 0", impl.WriteOld, xDisk(), "q", int64(0), row.pairs)
	}
	callCleanly(t, "wrong pairs", impl.WriteOld, xDisk(), "q", int64(7), []impl.Pair{{Key: "b"}, {Key: "a"}})
}

// manyDisks have the file f in every version and none, with files new and log that are its own or not.
func manyDisks() []namedDisk {
	var out []namedDisk
	for what, c := range map[string]codes{
		"old": smallOld().old(), "old, long values": longOld().old(), "old, and more pages": fillers(8).old().with(9, pageOf(8)), "new": longSheaf().withMeta(6, 4, 4).codes(), "both": both(), "neither": smallOld().with(1, leafPage()).old(), "noise": {2: pageOf(7)},
	} {
		d := c.disk()
		file := d.Files[0].Data
		for _, names := range []string{"", "new", "log", "new log"} {
			out = append(out, namedDisk{what + ", files " + names, theirs(d, names)})
		}
		for k := range int64(9) {
			out = append(out, namedDisk{fmt.Sprint(what, ", k ", k), logged(d, logPage("f", file, k), k+2)})
		}
		dead, cached := d, c.cached()
		dead.Dead = true
		out = append(out, namedDisk{what + ", dead", dead}, namedDisk{what + ", in the cache", cached})
	}
	return out
}

func TestReadMemory(t *testing.T) {
	for _, row := range append(manyDisks(), putDisks()...) {
		for _, name := range []string{"f", "a", "new", "log", ""} {
			callCleanly(t, row.what+", "+name, impl.ReadAny, row.disk, name)
		}
	}
}

func TestMigrateMemory(t *testing.T) {
	for _, row := range append(manyDisks(), putDisks()...) {
		for _, name := range []string{"f", "a", "new", "log", ""} {
			callCleanly(t, row.what+", "+name, impl.Migrate, row.disk, name)
		}
		if !impl.ValidDisk(row.disk) {
			continue
		}
		total := modelTotal(row.disk.Files)
		for fuel := int64(0); fuel <= 24; fuel += 3 {
			for _, room := range []int64{total, total + 4, 90} {
				d := row.disk
				d.Cap, d.Fuel = max(total, room), fuel
				callCleanly(t, fmt.Sprint(row.what, ", room for ", room, ", fuel ", fuel), impl.Migrate, d, "f")
			}
		}
	}
}

// What is done to one answer is not seen in the next, nor in what it came from: nothing is kept between calls.
func TestAnswersOfMigrationAreApart(t *testing.T) {
	pairs := append(lettered("abcdef"), impl.Pair{Key: "g", Val: longVal("g")})
	kept := slices.Clone(pairs)
	d := theirs(xDisk(), "new log")
	before := theirs(xDisk(), "new log")
	wantOld := modelWriteOld(before, "q", 7, kept)
	wreck(impl.Store{Disk: impl.WriteOld(d, "q", 7, pairs).Disk})
	wantDisk(t, "the disk before", d, before)
	old := impl.WriteOld(d, "q", 7, pairs)
	refused := impl.WriteOld(d, "x", 7, pairs)
	clear(pairs)
	wreck(impl.Store{Disk: d})
	wantRestoreRes(t, "an old file when disk and pairs are gone", old, wantOld)
	wantBad(t, "a refusal when disk and pairs are gone", refused, before)

	clear(impl.ReadAny(old.Disk, "q").Pairs)
	read := impl.ReadAny(old.Disk, "q")
	wantNew := modelMigrate(wantOld.Disk, "q")
	wreck(impl.Store{Disk: impl.Migrate(old.Disk, "q").Disk})
	wantRestoreRes(t, "an old file behind its conversion", old, wantOld)
	got, no := impl.Migrate(old.Disk, "q"), impl.Migrate(old.Disk, "new")
	wreck(impl.Store{Disk: old.Disk})
	wantRestoreRes(t, "a new file when the old one is gone", got, wantNew)
	wantBad(t, "a refusal when the disk is gone", no, wantOld.Disk)
	if !sameMap(read, impl.MapRes{Version: 1, Id: 7, Pairs: kept}) {
		t.Errorf("the pairs when the disk is gone: %q", read.Pairs)
	}
	// Nothing is left to be done, and the answer is new memory nevertheless.
	again := impl.Migrate(got.Disk, "q")
	wreck(impl.Store{Disk: got.Disk})
	wantRestoreRes(t, "a new file as it stays", again, wantNew)
}
