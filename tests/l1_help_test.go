package tests

import (
	"bytes"
	"fmt"
	"testing"

	"loop.example/s02098/impl"
)

// pageOf is a page of one byte, again and again.
func pageOf(b byte) []byte { return bytes.Repeat([]byte{b}, impl.PageBytes) }

// fileOf is a file with a page for each byte.
func fileOf(name string, pages ...byte) impl.File {
	f := impl.File{Name: name}
	for _, b := range pages {
		f.Data = append(f.Data, pageOf(b)...)
	}
	return f
}

func pendOf(name string, page int64, b byte) impl.Pend {
	return impl.Pend{Name: name, Page: page, Data: pageOf(b)}
}

// letters names files that ascend: a, b, c ..
func letters(n int) []string {
	var out []string
	for i := range n {
		out = append(out, string(rune('a'+i)))
	}
	return out
}

func manyFiles(n int) []impl.File {
	var out []impl.File
	for i, name := range letters(n) {
		out = append(out, fileOf(name, byte(i+1)))
	}
	return out
}

// rewrites is a cache of n writes that all go to page 0 of a file.
func rewrites(name string, n int) []impl.Pend {
	var out []impl.Pend
	for i := range n {
		out = append(out, pendOf(name, 0, byte(i)))
	}
	return out
}

// sameDisk takes an empty list and nil for the same.
func sameDisk(a, b impl.Disk) bool {
	if len(a.Files) != len(b.Files) || len(a.Cache) != len(b.Cache) || a.Cap != b.Cap || a.Fuel != b.Fuel || a.Dead != b.Dead {
		return false
	}
	for i, f := range a.Files {
		if f.Name != b.Files[i].Name || !bytes.Equal(f.Data, b.Files[i].Data) {
			return false
		}
	}
	for i, p := range a.Cache {
		q := b.Cache[i]
		if p.Name != q.Name || p.Page != q.Page || !bytes.Equal(p.Data, q.Data) {
			return false
		}
	}
	return true
}

// tell is a disk in short: of each page only the first and the last byte.
func tell(d impl.Disk) string {
	var b bytes.Buffer
	fmt.Fprintf(&b, "cap %d fuel %d dead %v files", d.Cap, d.Fuel, d.Dead)
	ends := func(x []byte) {
		if len(x) == 0 {
			fmt.Fprint(&b, " empty")
		} else {
			fmt.Fprintf(&b, " %d..%d", x[0], x[len(x)-1])
		}
	}
	for _, f := range d.Files {
		fmt.Fprintf(&b, " %q(%d)", f.Name, len(f.Data))
		for i := 0; i < len(f.Data); i += impl.PageBytes {
			ends(f.Data[i:min(i+impl.PageBytes, len(f.Data))])
		}
	}
	fmt.Fprint(&b, " cache")
	for _, p := range d.Cache {
		fmt.Fprintf(&b, " %q/%d(%d)", p.Name, p.Page, len(p.Data))
		ends(p.Data)
	}
	return b.String()
}

func wantDisk(t *testing.T, what string, got, want impl.Disk) {
	t.Helper()
	if !sameDisk(got, want) {
		t.Errorf("%s:\n got %s\nwant %s", what, tell(got), tell(want))
	}
}

func wantRes(t *testing.T, what string, got impl.DiskRes, err int64, want impl.Disk) {
	t.Helper()
	if got.Err != err {
		t.Errorf("%s: Err %d, want %d", what, got.Err, err)
	}
	wantDisk(t, what, got.Disk, want)
}

type namedDisk struct {
	what string
	disk impl.Disk
}

func validDisks() []namedDisk {
	full := make([]byte, impl.CapMax)
	return []namedDisk{
		{"the zero disk", impl.Disk{}},
		{"empty, Cap 0", impl.Disk{Fuel: -1}},
		{"empty, CapMax", impl.Disk{Cap: impl.CapMax, Fuel: -1}},
		{"dead", impl.Disk{Cap: 1, Dead: true}},
		{"dead with fuel", impl.Disk{Cap: 1, Fuel: 7, Dead: true}},
		{"FuelMax", impl.Disk{Cap: 1, Fuel: impl.FuelMax}},
		{"one file that fills it", impl.Disk{Files: []impl.File{fileOf("a", 1, 2)}, Cap: 2}},
		{"CapMax pages", impl.Disk{Files: []impl.File{fileOf("a", full...)}, Cap: impl.CapMax}},
		{"names with all lengths", impl.Disk{Files: []impl.File{fileOf("a", 1), fileOf("abcdefgh", 1), fileOf("z", 1)}, Cap: 3}},
		{"FileMax files", impl.Disk{Files: manyFiles(impl.FileMax), Cap: 12}},
		{"FileMax files, the last in the cache", impl.Disk{Files: manyFiles(11), Cache: []impl.Pend{pendOf("z", 0, 1)}, Cap: 12}},
		{"CacheMax writes to a file", impl.Disk{Files: []impl.File{fileOf("a", 1)}, Cache: rewrites("a", impl.CacheMax), Cap: 1}},
		{"CacheMax writes make a file", impl.Disk{Cache: rewrites("a", impl.CacheMax), Cap: 1}},
		{"the cache fills it", impl.Disk{Files: []impl.File{fileOf("a", 1)}, Cache: []impl.Pend{pendOf("a", 1, 2), pendOf("b", 0, 3), pendOf("a", 1, 4), pendOf("a", 0, 5)}, Cap: 3}},
		{"writes behind one another", impl.Disk{Cache: []impl.Pend{pendOf("b", 0, 1), pendOf("b", 1, 2), pendOf("a", 0, 3), pendOf("b", 2, 4), pendOf("b", 1, 5)}, Cap: 9, Fuel: 3}},
	}
}

func invalidDisks() []namedDisk {
	full := make([]byte, impl.CapMax+1)
	one := []impl.File{fileOf("a", 1)}
	cached := func(c ...impl.Pend) impl.Disk { return impl.Disk{Files: one, Cache: c, Cap: 9, Fuel: -1} }
	stored := func(f ...impl.File) impl.Disk { return impl.Disk{Files: f, Cap: 90, Fuel: -1} }
	out := []namedDisk{
		{"Cap -1", impl.Disk{Cap: -1}},
		{"Cap above CapMax", impl.Disk{Cap: impl.CapMax + 1}},
		{"Fuel -2", impl.Disk{Cap: 1, Fuel: -2}},
		{"Fuel above FuelMax", impl.Disk{Cap: 1, Fuel: impl.FuelMax + 1}},
		{"more pages than Cap", impl.Disk{Files: []impl.File{fileOf("a", 1), fileOf("b", 2, 3)}, Cap: 2}},
		{"more pages than CapMax", impl.Disk{Files: []impl.File{fileOf("a", full...)}, Cap: impl.CapMax}},
		{"a page on Cap 0", impl.Disk{Files: one}},
		{"13 files", stored(manyFiles(impl.FileMax + 1)...)},
		{"the 13th file in the cache", impl.Disk{Files: manyFiles(12), Cache: []impl.Pend{pendOf("z", 0, 1)}, Cap: 90}},
		{"files descend", stored(fileOf("b", 1), fileOf("a", 1))},
		{"a name twice", stored(fileOf("a", 1), fileOf("a", 1))},
		{"a shorter name behind a longer one", stored(fileOf("aa", 1), fileOf("a", 1))},
		{"an empty file", stored(fileOf("a"))},
		{"an empty file behind another", stored(fileOf("a", 1), fileOf("b"))},
		{"127 bytes", stored(impl.File{Name: "a", Data: make([]byte, 127)})},
		{"129 bytes", stored(impl.File{Name: "a", Data: make([]byte, 129)})},
		{"CacheMax + 1 writes", impl.Disk{Files: one, Cache: rewrites("a", impl.CacheMax+1), Cap: 9}},
		{"a write to page -1", cached(pendOf("a", -1, 1))},
		{"a write two behind the last page", cached(pendOf("a", 2, 1))},
		{"a write to page 1 of no file", cached(pendOf("b", 1, 1))},
		{"writes in the wrong order", cached(pendOf("a", 2, 1), pendOf("a", 1, 1))},
		{"a file made too late", cached(pendOf("b", 1, 1), pendOf("b", 0, 1))},
		{"a write far behind", cached(pendOf("a", 1<<62, 1))},
		{"a write of no bytes", cached(impl.Pend{Name: "a"})},
		{"a write of 127 bytes", cached(impl.Pend{Name: "a", Data: make([]byte, 127)})},
		{"a write of 129 bytes", cached(impl.Pend{Name: "a", Data: make([]byte, 129)})},
		{"the cache goes over Cap", impl.Disk{Files: one, Cache: []impl.Pend{pendOf("a", 1, 1), pendOf("a", 2, 1)}, Cap: 2}},
		{"the cache makes a file over Cap", impl.Disk{Files: one, Cache: []impl.Pend{pendOf("b", 0, 1)}, Cap: 1}},
		{"dead, Cap -1", impl.Disk{Cap: -1, Dead: true}},
	}
	for _, n := range noNames {
		out = append(out, namedDisk{fmt.Sprintf("a file %q", n), stored(fileOf(n, 1))})
		out = append(out, namedDisk{fmt.Sprintf("a write to %q", n), cached(pendOf(n, 0, 1))})
	}
	return out
}

var noNames = []string{"", "A", "Z", "`", "{", "a1", "1", "a b", " ", "a\x00", "é", "abcdefghi", "aaaaaaaaaaaaaaaaaaaaaaaaa", "a/b", "\xff", "aBc", "abcdefgH"}

// steps are the four device steps, each in a form that a live disk with the file a, no cache and room for a page takes.
var steps = []struct {
	what string
	do   func(d impl.Disk) impl.DiskRes
}{
	{"WritePage", func(d impl.Disk) impl.DiskRes { return impl.WritePage(d, "a", 0, pageOf(9)) }},
	{"SyncDisk", impl.SyncDisk},
	{"RenameFile", func(d impl.Disk) impl.DiskRes { return impl.RenameFile(d, "a", "z") }},
	{"RemoveFile", func(d impl.Disk) impl.DiskRes { return impl.RemoveFile(d, "a") }},
}
