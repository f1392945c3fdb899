package tests

import (
	"bytes"
	"fmt"
	"slices"
	"strings"
	"testing"

	"loop.example/s02098/impl"
)

// oldDisk has the old file x, between others.
func oldDisk(s sheaf) impl.Disk {
	return withFile(impl.Disk{Files: []impl.File{fileOf("a", 1), fileOf("z", 4)}, Cap: impl.CapMax, Fuel: -1}, impl.File{Name: "x", Data: s.old().data()})
}

// theirs is files new and log that belong to nobody.
func theirs(d impl.Disk, names string) impl.Disk {
	for i, name := range strings.Fields(names) {
		d = withFile(d, fileOf(name, byte(40+i), byte(50+i), byte(60+i)))
	}
	return d
}

func TestMigrateIsRefused(t *testing.T) {
	for _, row := range unfitDisks() {
		for _, name := range append([]string{"q", "", "new", "log"}, allNames(row.disk)...) {
			wantBad(t, row.what+", "+name, impl.Migrate(row.disk, name), row.disk)
		}
	}
	newer := withFile(oldDisk(fillers(2)), impl.File{Name: "y", Data: smallSheaf().withMeta(3, 4, 4).codes().data()})
	for _, d := range []impl.Disk{newer, theirs(newer, "new log")} {
		for _, name := range []string{"x", "y"} {
			dead, cached, full, dry := d, d, d, d
			dead.Dead = true
			cached.Cache = []impl.Pend{pendOf("q", 0, 9)}
			full.Cap = modelTotal(d.Files) - 1
			dry.Fuel = impl.FuelMax + 1
			for i, bad := range []impl.Disk{dead, cached, full, dry} {
				wantBad(t, fmt.Sprint(name, ", disk ", i), impl.Migrate(bad, name), bad)
			}
		}
		// Neither an old file nor a new one, whatever the fuel.
		for _, fuel := range []int64{-1, 0, 9} {
			d.Fuel = fuel
			for _, name := range append([]string{"a", "z", "q", "xx", "new", "log"}, noNames...) {
				wantBad(t, fmt.Sprintf("%q", name), impl.Migrate(d, name), d)
			}
		}
	}
	// The names new and log are refused though there is a file to be converted, or one that needs no more.
	for _, data := range [][]byte{fillers(5).old().data(), smallSheaf().withMeta(3, 4, 4).codes().data()} {
		d := withFile(withFile(xDisk(), impl.File{Name: "new", Data: data}), impl.File{Name: "log", Data: data})
		for _, name := range []string{"new", "log"} {
			wantBad(t, name, impl.Migrate(d, name), d)
			alone := withFile(xDisk(), impl.File{Name: name, Data: data})
			wantBad(t, name+" alone", impl.Migrate(alone, name), alone)
		}
	}
	for what, s := range map[string]sheaf{"another count": smallOld().with(0, metaPage(7, 3, 5)), "no tree": smallOld().with(1, overPage(0, "z")), "no meta": smallOld().with(0, leafPage())} {
		for _, names := range []string{"", "new", "log", "new log"} {
			d := theirs(oldDisk(s), names)
			wantBad(t, what, impl.Migrate(d, "x"), d)
		}
	}
	// Names that only look like these two, or that mean something in another chapter.
	for _, name := range []string{"n", "ne", "newx", "anew", "neww", "wen", "l", "lo", "logg", "alog", "gol", "tmp", "abcdefgh"} {
		wantMigrated(t, name, written(t, impl.DiskNew(0), name, 7, lettered("abcdefgh")), name, mapOf(1, "abcdefgh"))
	}
}

// What is new already loses the files new and log, and nothing else happens to it.
func TestMigrateVersionTwo(t *testing.T) {
	for what, c := range map[string]codes{"a branch": smallSheaf().withMeta(6, 4, 4).codes(), "both versions": both(), "a store": {0: pageOf(0), 1: modelNew(stamped(metaPage(7, 2, 0), 1)), 2: modelNew(stamped(leafPage(), 1))}} {
		d := withFile(impl.Disk{Files: []impl.File{fileOf("a", 1), fileOf("z", 4)}, Cap: 90, Fuel: -1}, impl.File{Name: "x", Data: c.data()})
		before := impl.ReadAny(d, "x")
		if before.Version != 2 {
			t.Fatalf("the test is wrong: %s", what)
		}
		wantConversion(t, what, d, "x", "")
		wantConversion(t, what+", new", theirs(d, "new"), "x", "-new")
		wantConversion(t, what+", log", theirs(d, "log"), "x", "-log")
		wantConversion(t, what+", both", theirs(d, "new log"), "x", "-new -log")
		for _, names := range []string{"", "new", "log", "new log"} {
			// There need be no room at all.
			full := theirs(d, names)
			full.Cap = modelTotal(full.Files)
			want := d
			want.Cap = full.Cap
			wantRestoreRes(t, what+", a full disk, "+names, impl.Migrate(full, "x"), impl.RestoreRes{Disk: want})
			wantMap(t, what, impl.Migrate(full, "x").Disk, "x", before)
		}
	}
	// Even a log that would be right, and a new that is whole.
	old := oldDisk(fillers(5))
	d := impl.Migrate(old, "x").Disk
	left := withFile(withFile(d, impl.File{Name: "log", Data: logPage("x", fileData(old, "x"), 3)}), impl.File{Name: "new", Data: fileData(d, "x")})
	wantConversion(t, "its own log", left, "x", "-new -log")
}

// conversions are the steps for a file of so many pages, behind what is removed.
var conversions = map[int64]string{
	2:  "z0 z1 n2 s n1 s r",
	3:  "z0 z1 n2 n3 s n1 s r",
	4:  "z0 z1 n2 n3 n4 s l3 s s n1 s r -log",
	5:  "z0 z1 n2 n3 n4 s l3 s n5 s n1 s r -log",
	6:  "z0 z1 n2 n3 n4 s l3 s n5 n6 s n1 s r -log",
	7:  "z0 z1 n2 n3 n4 s l3 s n5 n6 n7 s l6 s s n1 s r -log",
	8:  "z0 z1 n2 n3 n4 s l3 s n5 n6 n7 s l6 s n8 s n1 s r -log",
	9:  "z0 z1 n2 n3 n4 s l3 s n5 n6 n7 s l6 s n8 n9 s n1 s r -log",
	10: "z0 z1 n2 n3 n4 s l3 s n5 n6 n7 s l6 s n8 n9 n10 s l9 s s n1 s r -log",
	14: "z0 z1 n2 n3 n4 s l3 s n5 n6 n7 s l6 s n8 n9 n10 s l9 s n11 n12 n13 s l12 s n14 s n1 s r -log",
}

// The steps one by one, on a disk without the files new and log, and with each of them.
func TestStepsOfAConversion(t *testing.T) {
	for n, words := range conversions {
		d := oldDisk(fillers(n))
		wantConversion(t, fmt.Sprint(n, " pages"), d, "x", words)
		wantConversion(t, fmt.Sprint(n, " pages, new"), theirs(d, "new"), "x", "-new "+words)
		wantConversion(t, fmt.Sprint(n, " pages, log"), theirs(d, "log"), "x", "-log "+words)
		wantConversion(t, fmt.Sprint(n, " pages, both"), theirs(d, "new log"), "x", "-new -log "+words)
		wantMigrated(t, fmt.Sprint(n, " pages"), theirs(d, "new log"), "x", mapOf(1, "ab"))
		if t.Failed() {
			t.FailNow()
		}
	}
	wantConversion(t, "a branch", oldDisk(smallOld()), "x", conversions[4])
	wantConversion(t, "long values", oldDisk(longOld()), "x", conversions[8])
	// A name of all eight letters, and one that is the first on the disk.
	for _, name := range []string{"abcdefgh", "a"} {
		d := withFile(impl.DiskNew(90), impl.File{Name: name, Data: fillers(8).old().data()})
		wantConversion(t, name, d, name, conversions[8])
	}
}

// The bytes of new and log for long values, byte by byte.
func TestTurnedByteByByte(t *testing.T) {
	old := longOld().with(8, metaPage(9, 1, 77)).old().with(9, pageOf(5))
	d := withFile(impl.DiskNew(90), impl.File{Name: "x", Data: old.data()})
	a, c := longVal("a")[:96], longVal("c")[:96]
	want := [][]byte{
		pageOf(0),
		framed(1, 1, 0, []byte("\x07\x00\x00\x00"+"\x04\x00\x00\x00"+"\x04\x00\x00\x00"+"COW2")),
		framed(1, 3, 2, []byte("\x01c\x01"+"\x07\x00\x00\x00"+"\x64\x00\x00\x00"+"\x01d\x00\x02vd")),
		framed(1, 3, 2, []byte("\x01a\x01"+"\x05\x00\x00\x00"+"\x64\x00\x00\x00"+"\x01b\x00\x02vb")),
		framed(1, 2, 2, []byte("\x03\x00\x00\x00"+"\x01c"+"\x02\x00\x00\x00")),
		framed(1, 4, 0, []byte("\x06\x00\x00\x00"+"\x60"+a)), framed(1, 4, 0, []byte("\x00\x00\x00\x00"+"\x04aaaa")),
		framed(1, 4, 0, []byte("\x08\x00\x00\x00"+"\x60"+c)), framed(1, 4, 0, []byte("\x00\x00\x00\x00"+"\x04cccc")),
		framed(1, 1, 0, []byte("\x09\x00\x00\x00"+"\x02\x00\x00\x00"+"\x4d\x00\x00\x00"+"COW2")),
		pageOf(0),
	}
	got := impl.Migrate(d, "x").Disk
	if !bytes.Equal(fileData(got, "x"), slices.Concat(want...)) {
		t.Errorf("the file is\n% x\nwant\n% x", fileData(got, "x"), slices.Concat(want...))
	}
	// Behind the first log: five pages of new are durable, the meta among them still zeros.
	d.Fuel = 8
	got = impl.Migrate(d, "x").Disk
	want[1] = pageOf(0)
	if !bytes.Equal(fileData(got, "new"), slices.Concat(want[:5]...)) {
		t.Errorf("new is\n% x", fileData(got, "new"))
	}
	sum := impl.Crc(0, old.data())
	log := append([]byte("MJ\x00\x03x\x00\x00\x00\x00\x00\x00\x00"), byte(sum), byte(sum>>8), byte(sum>>16), byte(sum>>24))
	log = append(append(log, make([]byte, 110)...), 0, 3)
	if !bytes.Equal(fileData(got, "log"), log) {
		t.Errorf("log is\n% x\nwant\n% x", fileData(got, "log"), log)
	}
}

// Files of 300 pages and more: the numbers in the log have two bytes.
func TestLongConversions(t *testing.T) {
	for _, n := range []int64{256, 257, 258, 259, 300, 499} {
		d := withFile(impl.DiskNew(impl.CapMax), impl.File{Name: "x", Data: fillers(n).old().data()})
		got := impl.Migrate(d, "x")
		wantRestoreRes(t, fmt.Sprint(n, " pages"), got, modelMigrate(d, "x"))
		wantMap(t, fmt.Sprint(n, " pages"), got.Disk, "x", mapOf(2, "ab"))
		if got.Err != impl.MgOk {
			t.Errorf("%d pages: Err %d", n, got.Err)
		}
		// Broken off behind its last log, and gone on with.
		d.Fuel = (n-1)/3*6 + 2
		got = impl.Migrate(d, "x")
		if want := logPage("x", fileData(d, "x"), (n-1)/3*3); got.Err != impl.MgLost || !bytes.Equal(fileData(got.Disk, "log"), want) || len(got.Disk.Cache) > 0 {
			t.Errorf("%d pages: Err %d, the log is % x", n, got.Err, fileData(got.Disk, "log"))
		}
		left := impl.CrashDisk(got.Disk, impl.Crash{Tear: -1})
		left.Fuel = (n-1)%3 + 5
		got = impl.Migrate(left, "x")
		wantMap(t, fmt.Sprint(n, " pages, gone on with"), got.Disk, "x", mapOf(2, "ab"))
		if got.Err != impl.MgOk || got.Disk.Fuel != 0 || len(got.Disk.Files) != 1 {
			t.Errorf("%d pages, gone on with: Err %d, fuel %d", n, got.Err, got.Disk.Fuel)
		}
	}
	// One page more than there is room for twice, and the longest file there is: nothing happens to the file.
	for _, n := range []int64{500, 501, 999, 1000} {
		d := withFile(impl.DiskNew(impl.CapMax), impl.File{Name: "x", Data: fillers(500).old().with(n-1, pageOf(7)).data()})
		got := impl.Migrate(d, "x")
		wantRestoreRes(t, fmt.Sprint(n, " pages"), got, modelMigrate(d, "x"))
		wantMap(t, fmt.Sprint(n, " pages"), got.Disk, "x", mapOf(1, "ab"))
		if got.Err != impl.MgFull {
			t.Errorf("%d pages: Err %d", n, got.Err)
		}
	}
}
