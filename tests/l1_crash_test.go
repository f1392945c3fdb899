package tests

import (
	"bytes"
	"fmt"
	"math"
	"testing"

	"loop.example/s02098/impl"
)

// torn is a page with count bytes of a before those of b.
func torn(a, b byte, count int) []byte {
	return append(bytes.Repeat([]byte{a}, count), bytes.Repeat([]byte{b}, impl.PageBytes-count)...)
}

func joined(name string, pages ...[]byte) impl.File {
	return impl.File{Name: name, Data: bytes.Join(pages, nil)}
}

func TestCrashRows(t *testing.T) {
	d := impl.Disk{
		Files: []impl.File{fileOf("b", 1)},
		Cache: []impl.Pend{pendOf("b", 0, 2), pendOf("b", 1, 3), pendOf("b", 2, 4), pendOf("a", 0, 5), pendOf("a", 1, 6), pendOf("b", 0, 7)},
		Cap:   5, Fuel: 0, Dead: true,
	}
	all := []bool{true, true, true, true, true, true}
	rows := []struct {
		what  string
		crash impl.Crash
		files []impl.File
	}{
		{"none kept", impl.Crash{Tear: -1}, []impl.File{fileOf("b", 1)}},
		{"none kept, told one by one", impl.Crash{Keep: make([]bool, 6), Tear: 6}, []impl.File{fileOf("b", 1)}},
		{"all kept", impl.Crash{Keep: all, Tear: -1}, []impl.File{fileOf("a", 5, 6), fileOf("b", 7, 3, 4)}},
		{"Keep longer than the cache", impl.Crash{Keep: append(all[:6:6], true, false, true), Tear: 99}, []impl.File{fileOf("a", 5, 6), fileOf("b", 7, 3, 4)}},
		{"Keep shorter than the cache", impl.Crash{Keep: all[:2], Tear: -1}, []impl.File{fileOf("b", 2, 3)}},
		{"a page between", impl.Crash{Keep: []bool{false, false, true}, Tear: -1}, []impl.File{fileOf("b", 1, 0, 4)}},
		{"a page between in a new file", impl.Crash{Keep: []bool{false, false, false, false, true}, Tear: -1}, []impl.File{fileOf("a", 0, 6), fileOf("b", 1)}},
		{"the older write alone", impl.Crash{Keep: []bool{true}, Tear: -1}, []impl.File{fileOf("b", 2)}},
		{"torn over the durable page", impl.Crash{Tear: 0, At: 3}, []impl.File{joined("b", torn(2, 1, 3))}},
		{"torn over the older write", impl.Crash{Keep: []bool{true}, Tear: 5, At: 127}, []impl.File{joined("b", torn(7, 2, 127))}},
		{"torn and then written over", impl.Crash{Keep: all, Tear: 0, At: 3}, []impl.File{fileOf("a", 5, 6), fileOf("b", 7, 3, 4)}},
		{"torn though kept", impl.Crash{Keep: all, Tear: 1, At: 1}, []impl.File{fileOf("a", 5, 6), joined("b", pageOf(7), torn(3, 0, 1), pageOf(4))}},
		{"torn behind the end", impl.Crash{Tear: 2, At: 64}, []impl.File{joined("b", pageOf(1), pageOf(0), torn(4, 0, 64))}},
		{"torn in a new file", impl.Crash{Tear: 4, At: 2}, []impl.File{joined("a", pageOf(0), torn(6, 0, 2)), fileOf("b", 1)}},
		{"torn at 0", impl.Crash{Tear: 3, At: 0}, []impl.File{fileOf("a", 0), fileOf("b", 1)}},
		{"torn at 0 over a page", impl.Crash{Tear: 0, At: 0}, []impl.File{fileOf("b", 1)}},
		{"torn below 0", impl.Crash{Tear: 3, At: -1}, []impl.File{fileOf("a", 0), fileOf("b", 1)}},
		{"torn far below 0", impl.Crash{Tear: 3, At: math.MinInt64}, []impl.File{fileOf("a", 0), fileOf("b", 1)}},
		{"torn at 128", impl.Crash{Tear: 3, At: 128}, []impl.File{fileOf("a", 5), fileOf("b", 1)}},
		{"torn above 128", impl.Crash{Tear: 3, At: 129}, []impl.File{fileOf("a", 5), fileOf("b", 1)}},
		{"torn far above 128", impl.Crash{Tear: 3, At: math.MaxInt64}, []impl.File{fileOf("a", 5), fileOf("b", 1)}},
		{"Tear far below", impl.Crash{Tear: math.MinInt64, At: 5}, []impl.File{fileOf("b", 1)}},
		{"Tear far above", impl.Crash{Tear: math.MaxInt64, At: 5}, []impl.File{fileOf("b", 1)}},
		{"Tear just behind the cache", impl.Crash{Keep: append(all[:6:6], true), Tear: 6, At: 5}, []impl.File{fileOf("a", 5, 6), fileOf("b", 7, 3, 4)}},
	}
	for _, r := range rows {
		wantDisk(t, r.what, impl.CrashDisk(d, r.crash), impl.Disk{Files: r.files, Cap: 5, Fuel: -1})
	}
}

func TestCrashFillsManyPages(t *testing.T) {
	d := impl.DiskNew(impl.CapMax)
	for i := range int64(impl.CapMax) {
		d.Cache = append(d.Cache, pendOf("a", i, 7))
	}
	keep := make([]bool, impl.CapMax)
	keep[impl.CapMax-1] = true
	c := impl.CrashDisk(d, impl.Crash{Keep: keep, Tear: 10, At: 1})
	want := make([]byte, impl.CapMax*impl.PageBytes)
	copy(want[(impl.CapMax-1)*impl.PageBytes:], pageOf(7))
	want[10*impl.PageBytes] = 7
	wantDisk(t, "the last page alone", c, impl.Disk{Files: []impl.File{{Name: "a", Data: want}}, Cap: impl.CapMax, Fuel: -1})
}

// seenFiles asks for what is seen by reading alone.
func seenFiles(d impl.Disk) []impl.File {
	var out []impl.File
	for _, name := range allNames(d) {
		f := impl.File{Name: name}
		for i := range impl.PageCount(d, name) {
			f.Data = append(f.Data, impl.ReadPage(d, name, i)...)
		}
		out = append(out, f)
	}
	return out
}

func TestCrashKeepsAllOrNothing(t *testing.T) {
	rows := validDisks()
	r := newDice(11)
	for i := range 400 {
		rows = append(rows, namedDisk{fmt.Sprint("random ", i), r.disk()})
	}
	for _, row := range rows {
		all := make([]bool, len(row.disk.Cache))
		for i := range all {
			all[i] = true
		}
		kept := impl.CrashDisk(row.disk, impl.Crash{Keep: all, Tear: -1})
		wantDisk(t, "all kept: "+row.what, kept, impl.Disk{Files: seenFiles(row.disk), Cap: row.disk.Cap, Fuel: -1})
		for _, crash := range []impl.Crash{{Tear: -1}, {Keep: make([]bool, len(all)), Tear: int64(len(all)), At: 9}} {
			lost := impl.CrashDisk(row.disk, crash)
			wantDisk(t, "none kept: "+row.what, lost, impl.Disk{Files: row.disk.Files, Cap: row.disk.Cap, Fuel: -1})
		}
		if !impl.ValidDisk(kept) {
			t.Errorf("%s: valid after the crash", row.what)
		}
	}
}
