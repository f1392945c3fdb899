package tests

import (
	"fmt"
	"strings"
	"testing"

	"loop.example/s02098/impl"
)

func mapOf(number int64, keys string) impl.MapRes {
	return impl.MapRes{Version: number, Id: 7, Pairs: lettered(keys)}
}

// wantOld asks for Version 1, whether the pages are durable or in the cache, and on a dead disk, too.
func wantOld(t *testing.T, what string, c codes, want impl.MapRes) {
	t.Helper()
	for _, d := range []impl.Disk{c.disk(), c.cached()} {
		wantMap(t, what, d, "f", want)
		d.Dead, d.Fuel = true, 0
		wantMap(t, what+", dead", d, "f", want)
	}
}

// Trees of the old format of every shape.
func TestReadRows(t *testing.T) {
	wantOld(t, "a branch", smallOld().old(), mapOf(1, "abcd"))
	wantOld(t, "two levels", deepSheaf().backdated(3, 8).old(), mapOf(1, "abcdefgh"))
	long := impl.MapRes{Version: 1, Id: 7, Pairs: []impl.Pair{{Key: "a", Val: longVal("a")}, {Key: "b", Val: "vb"}, {Key: "c", Val: longVal("c")}, {Key: "d", Val: "vd"}}}
	wantOld(t, "long values", longOld().old(), long)
	wantOld(t, "no pairs", sheaf{0: metaPage(7, 1, 0), 1: leafPage()}.old(), impl.MapRes{Version: 1, Id: 7})
	wantOld(t, "a leaf far behind", sheaf{0: metaPage(7, 40, 2), 40: lettersLeaf("ab")}.old(), mapOf(1, "ab"))
	for _, id := range []int64{1, 7, impl.NumMax} {
		wantOld(t, "the Id", smallOld().with(0, metaPage(id, 3, 4)).old(), impl.MapRes{Version: 1, Id: id, Pairs: lettered("abcd")})
	}
	// The same trees in the new format.
	wantOld(t, "a new branch", smallSheaf().withMeta(6, 4, 4).codes(), mapOf(2, "abcd"))
	wantOld(t, "new levels", deepSheaf().withMeta(5, 3, 8).codes(), mapOf(2, "abcdefgh"))
	long.Version = 2
	wantOld(t, "new long values", longSheaf().withMeta(impl.NumMax, 4, 4).codes(), long)
	wantMap(t, "a store", created(t, 9).Disk, "f", impl.MapRes{Version: 2, Id: 7})
}

// Page numbers at their ends: 1 and 998 as Root, kid, Over and Next. A file of 1000 pages is one whose last page nobody can ask for.
func TestReadAtTheEndsOfThePages(t *testing.T) {
	wantOld(t, "root 998", sheaf{0: metaPage(7, 998, 2), 998: lettersLeaf("ab")}.old(), mapOf(1, "ab"))
	wantOld(t, "root 1", sheaf{0: metaPage(7, 1, 2), 1: lettersLeaf("ab"), 998: lettersLeaf("xy")}.old(), mapOf(1, "ab"))
	wantOld(t, "kids on 1 and 998", sheaf{0: metaPage(7, 5, 4), 5: branchPage(kid("", 998), kid("c", 1)), 1: lettersLeaf("cd"), 998: lettersLeaf("ab")}.old(), mapOf(1, "abcd"))
	val := longVal("a")
	for _, nums := range [][2]int64{{1, 998}, {998, 1}, {1, 2}, {997, 998}} {
		pages := sheaf{0: metaPage(7, 500, 1), 500: leafPage(long("a", nums[0], 100)), nums[0]: overPage(nums[1], val[:96]), nums[1]: overPage(0, val[96:])}
		wantOld(t, fmt.Sprint("overflow on ", nums), pages.old(), impl.MapRes{Version: 1, Id: 7, Pairs: []impl.Pair{{Key: "a", Val: val}}})
	}
	for what, last := range map[string][]byte{"zeros": pageOf(0), "noise": pageOf(9), "a leaf": modelOld(lettersLeaf("ab")), "a meta": modelOld(metaPage(7, 998, 2))} {
		c := sheaf{0: metaPage(7, 998, 2), 998: lettersLeaf("ab")}.old().with(999, last)
		wantOld(t, "1000 pages, the last "+what, c, mapOf(1, "ab"))
		wantOld(t, "1000 pages, the last "+what+", root 1", fillers(3).old().with(999, last), mapOf(1, "ab"))
	}
	// 0 and 999 are no page numbers of the old format, so a meta with one is no meta.
	leaf := modelOld(lettersLeaf("ab"))
	for _, root := range []string{"\x00\x00", "\x03\xe7", "\x03\xe8", "\xff\xff", "\x01\x00"} {
		c := codes{0: framedOld(1, 0, []byte(root+"\x00\x00\x00\x02"+"\x00\x00\x00\x07")), 1: leaf, 998: leaf, 999: leaf}
		wantOld(t, fmt.Sprintf("root %x", root), c, impl.MapRes{})
	}
	wantOld(t, "root 1, byte by byte", codes{0: framedOld(1, 0, []byte("\x00\x01"+"\x00\x00\x00\x02"+"\x00\x00\x00\x07")), 1: leaf}, mapOf(1, "ab"))
	wantOld(t, "root 998, byte by byte", codes{0: framedOld(1, 0, []byte("\x03\xe6"+"\x00\x00\x00\x02"+"\x00\x00\x00\x07")), 998: leaf}, mapOf(1, "ab"))
}

// both is a file that is an old one of "ab" and a new one of "cd".
func both() codes {
	c := sheaf{0: metaPage(7, 2, 2), 2: lettersLeaf("ab")}.old()
	for num, b := range (sheaf{1: stamped(metaPage(7, 3, 2), 1), 3: lettersLeaf("cd")}).codes() {
		c[num] = b
	}
	return c
}

// Version 2 goes ahead, but only if all of it is there.
func TestVersionTwoAheadOfOne(t *testing.T) {
	newMeta := func(tx, root, count int64) []byte { return modelNew(stamped(metaPage(7, root, count), tx)) }
	wantOld(t, "both", both(), mapOf(2, "cd"))
	wantOld(t, "another stamp", both().with(1, newMeta(9, 3, 2)), mapOf(2, "cd"))
	for what, c := range map[string]codes{
		"a meta with an even stamp": both().with(1, newMeta(2, 3, 2)), "no meta of the new format": both().with(1, pageOf(0)), "a torn meta": both().with(1, append(newMeta(1, 3, 2)[:124], 0, 0, 0, 0)), "an old meta in its place": both().with(1, modelOld(metaPage(7, 3, 2))),
		"a count too high": both().with(1, newMeta(1, 3, 3)), "a count too low": both().with(1, newMeta(1, 3, 1)), "a root that is not there": both().with(1, newMeta(1, 4, 2)), "a root of the old format": both().with(1, newMeta(1, 2, 2)), "a root that is no code": both().with(3, pageOf(3)), "a leaf of no tree": both().with(3, modelNew(stamped(overPage(0, "z"), 1))),
		"a branch without kids": both().with(3, modelNew(stamped(branchPage(kid("", 8), kid("c", 9)), 1))),
	} {
		wantOld(t, what, c, mapOf(1, "ab"))
		// And neither of the two.
		wantOld(t, what+", no old tree", c.with(2, pageOf(0)), impl.MapRes{})
		wantOld(t, what+", no old meta", c.with(0, pageOf(0)), impl.MapRes{})
	}
	// An old file that is no tree any more is a new one nevertheless, and the other way round.
	wantOld(t, "no old tree", both().with(2, pageOf(0)), mapOf(2, "cd"))
	wantOld(t, "no old meta", both().with(0, pageOf(0)), mapOf(2, "cd"))
	// Of two metas the newer one is asked, and only it.
	small := smallSheaf().withMeta(6, 4, 4)
	wantOld(t, "an older meta of another tree", small.withMeta(5, 3, 2).codes(), mapOf(2, "abcd"))
	wantOld(t, "a newer meta of another tree", small.withMeta(7, 3, 2).codes(), mapOf(2, "ab"))
	wantOld(t, "a newer meta of no tree", small.withMeta(7, 9, 2).codes(), impl.MapRes{})
	wantOld(t, "a newer meta with another count", small.withMeta(7, 4, 3).codes(), impl.MapRes{})
}

// What the tree asks for must decode; what it does not ask for is not looked at.
func TestReadPagesThatDoNotDecode(t *testing.T) {
	torn := func(p impl.Page) []byte {
		b := modelOld(p)
		b[127]++
		return b
	}
	long := mapOf(1, "abcd").Pairs
	long[0].Val, long[2].Val = longVal("a"), longVal("c")
	whole := impl.MapRes{Version: 1, Id: 7, Pairs: long}
	for num, p := range longOld() {
		for what, b := range map[string][]byte{
			"zeros": pageOf(0), "noise": pageOf(byte(num) + 3), "a wrong sum": torn(p), "the code of the new format": modelNew(stamped(shifted(p, 1), 1)), "an empty leaf": modelOld(leafPage()), "a branch": modelOld(branchPage(kid("", 8), kid("x", 9))),
		} {
			wantOld(t, fmt.Sprint("page ", num, " is ", what), longOld().old().with(num, b), impl.MapRes{})
			for _, other := range []int64{8, 9, 30} {
				wantOld(t, fmt.Sprint("page ", other, " is ", what), longOld().old().with(other, b), whole)
			}
		}
	}
	for what, b := range map[string][]byte{"an old meta": modelOld(metaPage(9, 1, 2)), "a new meta": modelNew(stamped(metaPage(9, 4, 4), 1)), "a new leaf": modelNew(stamped(lettersLeaf("xy"), 1))} {
		wantOld(t, what+" behind the tree", longOld().old().with(8, b), whole)
		wantOld(t, what+" on page 1", fillers(3).with(0, metaPage(7, 2, 2)).with(2, lettersLeaf("ab")).old().with(1, b), mapOf(1, "ab"))
	}
	// A file that ends too early.
	for num := range int64(8) {
		data := longOld().old().data()[:num*impl.PageBytes]
		if d := impl.DiskNew(9); num > 0 {
			wantNoMap(t, fmt.Sprint(num, " pages"), withFile(d, impl.File{Name: "f", Data: data}), "f")
		}
	}
}

// Old metas whose tree is not loaded, or has another Count.
func TestReadOldTreesThatAreNot(t *testing.T) {
	for what, s := range map[string]sheaf{
		"a count too high": smallOld().with(0, metaPage(7, 3, 5)), "a count too low": smallOld().with(0, metaPage(7, 3, 3)), "a count of 0": smallOld().with(0, metaPage(7, 3, 0)), "another root": smallOld().with(0, metaPage(7, 2, 4)), "a root behind the end": smallOld().with(0, metaPage(7, 4, 4)),
		"keys that do not ascend": smallOld().with(1, lettersLeaf("ad")), "a leaf of one key": smallOld().with(1, lettersLeaf("c")).with(0, metaPage(7, 3, 3)), "a wrong Sep": smallOld().with(3, branchPage(kid("", 2), kid("d", 1))), "a page twice": smallOld().with(3, branchPage(kid("", 2), kid("c", 2))), "a root of itself": smallOld().with(3, branchPage(kid("", 3), kid("c", 1))),
		"the meta gone": smallOld().with(0, leafPage()), "a leaf alone": {0: lettersLeaf("ab")}, "a meta alone": {0: metaPage(7, 1, 0)}, "the meta on page 1": {1: metaPage(7, 2, 2), 2: lettersLeaf("ab")}, "two metas": {0: metaPage(7, 1, 2), 1: metaPage(7, 2, 2), 2: lettersLeaf("ab")},
		"a value too long": longOld().with(5, overPage(0, "aaaaa")), "a value too short": longOld().with(5, overPage(0, "aaa")), "a chain that goes on": longOld().with(5, overPage(7, strings.Repeat("a", 96))), "a chain without an end": longOld().with(4, overPage(4, strings.Repeat("a", 96))), "two values on one page": longOld().with(1, leafPage(long("c", 4, 100), short("d", "vd"))),
	} {
		wantOld(t, what, s.old(), impl.MapRes{})
	}
	// The numbers of a leaf and a branch read as those of the new format would be other pages.
	if got := impl.LoadTree(smallOld().old().disk(), "f", 4); got.Ok {
		t.Errorf("an old file is loaded as a new one")
	}
}

func TestReadNothing(t *testing.T) {
	d := smallOld().old().disk()
	for _, name := range append([]string{"g", "ff", "e", "new", "log", "tmp"}, noNames...) {
		wantNoMap(t, fmt.Sprintf("%q", name), d, name)
	}
	file := d.Files[0]
	for _, row := range validDisks() {
		for _, name := range allNames(row.disk) {
			wantNoMap(t, row.what+", "+name, row.disk, name)
		}
		wantNoMap(t, row.what, row.disk, "f")
	}
	for _, row := range invalidDisks() {
		for _, f := range []impl.File{file, {Name: "f", Data: smallSheaf().withMeta(3, 4, 4).codes().data()}} {
			bad := row.disk
			bad.Files = append(modelCopy(bad.Files), f)
			if impl.ValidDisk(bad) {
				t.Fatalf("the test is wrong: %s", row.what)
			}
			wantNoMap(t, row.what, bad, "f")
		}
	}
	for _, name := range noNames {
		wantNoMap(t, fmt.Sprintf("a file %q", name), impl.Disk{Files: []impl.File{{Name: name, Data: file.Data}}, Cap: 90}, name)
	}
}

// As it is seen: writes in the cache count, whatever stands on the disk below them.
func TestReadAsSeen(t *testing.T) {
	c := smallOld().old()
	for num := range c {
		d := c.with(num, pageOf(0)).disk()
		wantNoMap(t, fmt.Sprint("page ", num, " is gone"), d, "f")
		d.Cache = []impl.Pend{{Name: "f", Page: num, Data: c[num]}}
		wantMap(t, fmt.Sprint("page ", num, " in the cache"), d, "f", mapOf(1, "abcd"))
		d.Cache = append(d.Cache, pendOf("f", num, 0))
		wantNoMap(t, fmt.Sprint("page ", num, " in the cache, and gone again"), d, "f")
		d = c.disk()
		d.Cache = []impl.Pend{pendOf("f", num, 0), pendOf("g", 0, 1), {Name: "f", Page: num, Data: c[num]}}
		wantMap(t, fmt.Sprint("page ", num, " gone and back"), d, "f", mapOf(1, "abcd"))
	}
	// A meta of the new format that is only in the cache makes it another file.
	d := both().with(1, pageOf(0)).disk()
	wantMap(t, "before", d, "f", mapOf(1, "ab"))
	d.Cache = []impl.Pend{{Name: "f", Page: 1, Data: both()[1]}}
	wantMap(t, "behind", d, "f", mapOf(2, "cd"))
	wantMap(t, "torn", impl.CrashDisk(d, impl.Crash{Tear: 0, At: 60}), "f", mapOf(1, "ab"))
}
