package tests

import (
	"fmt"
	"strings"
	"testing"

	"loop.example/s02098/impl"
)

func kid(sep string, page int64) impl.Kid { return impl.Kid{Sep: sep, Page: page} }

// lettersLeaf has a short value, as in a drawn tree, for each letter.
func lettersLeaf(keys string) impl.Page {
	p := leafPage()
	for _, k := range strings.Split(keys, "") {
		p.Ents = append(p.Ents, short(k, shortVal(k)))
	}
	return p
}

// smallSheaf is "(ab:3 cd:2):4".
func smallSheaf() sheaf {
	return sheaf{2: lettersLeaf("cd"), 3: lettersLeaf("ab"), 4: branchPage(kid("", 3), kid("c", 2))}
}

// longSheaf is "(a^5b:3 c^7d:2):4", with the pages 6 and 8 behind the first ones.
func longSheaf() sheaf {
	return sheaf{
		2: leafPage(long("c", 7, 100), short("d", "vd")), 3: leafPage(long("a", 5, 100), short("b", "vb")),
		4: branchPage(kid("", 3), kid("c", 2)),
		5: overPage(6, longVal("a")[:96]), 6: overPage(0, "aaaa"), 7: overPage(8, longVal("c")[:96]), 8: overPage(0, "cccc"),
	}
}

// moved has one page on another number; nothing else is told of it.
func (s sheaf) moved(from, to int64) sheaf {
	out := s.with(to, s[from])
	delete(out, from)
	return out
}

// deepSheaf is "((ab:9 cd:8):7 (ef:6 gh:5):4):3".
func deepSheaf() sheaf {
	return sheaf{
		9: lettersLeaf("ab"), 8: lettersLeaf("cd"), 6: lettersLeaf("ef"), 5: lettersLeaf("gh"),
		7: branchPage(kid("", 9), kid("c", 8)), 4: branchPage(kid("", 6), kid("g", 5)), 3: branchPage(kid("", 7), kid("e", 4)),
	}
}

func TestLoadRows(t *testing.T) {
	for _, row := range []struct {
		what    string
		pages   sheaf
		root    int64
		picture string
		nums    []int64
	}{
		{"an empty leaf", sheaf{2: leafPage()}, 2, ":2", []int64{2}},
		{"a leaf of one key", sheaf{5: lettersLeaf("a")}, 5, "a:5", []int64{5}},
		{"the last page number", sheaf{999: lettersLeaf("abcd")}, 999, "abcd:999", []int64{999}},
		{"a leaf of another tree", smallSheaf(), 3, "ab:3", []int64{3}},
		{"children ahead of their parent", smallSheaf(), 4, "(ab:3 cd:2):4", []int64{2, 3, 4}},
		{"long values", longSheaf(), 4, "(a^5b:3 c^7d:2):4", []int64{2, 3, 4, 5, 6, 7, 8}},
		{"a leaf with a long value", longSheaf(), 2, "c^7d:2", []int64{2, 7, 8}},
		{"three levels", deepSheaf(), 3, "((ab:9 cd:8):7 (ef:6 gh:5):4):3", []int64{3, 4, 5, 6, 7, 8, 9}},
		{"below the root", deepSheaf(), 4, "(ef:6 gh:5):4", []int64{4, 5, 6}},
		{"pages of other trees beside it", deepSheaf().with(2, leafPage()).with(10, metaPage(1, 2, 0)).with(99, overPage(5, ninetySix)), 7, "(ab:9 cd:8):7", []int64{7, 8, 9}},
		{"a full node", sheaf{2: lettersLeaf("ab"), 30: lettersLeaf("cdef"), 4: lettersLeaf("ghi"), 50: lettersLeaf("jk"), 6: branchPage(kid("", 2), kid("c", 30), kid("g", 4), kid("j", 50))}, 6, "(ab:2 cdef:30 ghi:4 jk:50):6", []int64{2, 4, 6, 30, 50}},
		{"four chains in a leaf, woven", sheaf{
			20: leafPage(long("a", 9, 100), long("b", 8, 100), long("c", 3, 100), long("d", 2, 100)),
			9:  overPage(6, longVal("a")[:96]), 6: overPage(0, "aaaa"), 8: overPage(7, longVal("b")[:96]), 7: overPage(0, "bbbb"),
			3: overPage(5, longVal("c")[:96]), 5: overPage(0, "cccc"), 2: overPage(4, longVal("d")[:96]), 4: overPage(0, "dddd"),
		}, 20, "a^9b^8c^3d^2:20", []int64{2, 3, 4, 5, 6, 7, 8, 9, 20}},
		{"an empty leaf on page 0", sheaf{0: leafPage()}, 0, "", []int64{0}},
		{"a leaf of one key on page 0", sheaf{0: lettersLeaf("a"), 1: lettersLeaf("b"), 2: lettersLeaf("c")}, 0, "a", []int64{0}},
		{"a full leaf on page 0", sheaf{0: lettersLeaf("abcd")}, 0, "abcd", []int64{0}},
		{"a leaf with a long value on page 0", longSheaf().moved(2, 0), 0, "c^7d", []int64{0, 7, 8}},
		{"a branch on page 0", smallSheaf().moved(4, 0), 0, "(ab:3 cd:2)", []int64{0, 2, 3}},
		{"a branch on page 0, and again on its own", smallSheaf().with(0, smallSheaf()[4]), 0, "(ab:3 cd:2)", []int64{0, 2, 3}},
		{"a branch over long values on page 0", longSheaf().moved(4, 0), 0, "(a^5b:3 c^7d:2)", []int64{0, 2, 3, 5, 6, 7, 8}},
		{"three levels from page 0 on", deepSheaf().moved(3, 0), 0, "((ab:9 cd:8):7 (ef:6 gh:5):4)", []int64{0, 4, 5, 6, 7, 8, 9}},
		{"the last page number below page 0", sheaf{0: branchPage(kid("", 2), kid("c", 999)), 2: lettersLeaf("ab"), 999: lettersLeaf("cd")}, 0, "(ab:2 cd:999)", []int64{0, 2, 999}},
	} {
		wantLoad(t, row.what, row.pages.disk(), row.root, draw(row.picture), row.nums)
		wantLoad(t, row.what+", in the cache alone", row.pages.codes().cached(), row.root, draw(row.picture), row.nums)
		dead := row.pages.disk()
		dead.Dead, dead.Fuel = true, 0
		wantLoad(t, row.what+", on a dead disk", dead, row.root, draw(row.picture), row.nums)
		for _, tx := range []int64{2, impl.NumMax} {
			for num := range row.pages {
				s := row.pages.with(num, stamped(row.pages[num], tx))
				wantLoad(t, fmt.Sprint(row.what, ", stamp ", tx, " on ", num), s.disk(), row.root, draw(row.picture), row.nums)
			}
		}
	}
}

func TestLoadRoots(t *testing.T) {
	// Neither 0 nor 1 is a page number, but a Page may be 0: of the leaves there, only that on page 1 makes no valid tree.
	leaf := lettersLeaf("ab")
	d := sheaf{0: leaf, 1: leaf, 2: leaf, 9: leaf}.disk()
	wantLoad(t, "a page", d, 9, draw("ab:9"), []int64{9})
	wantLoad(t, "page 0", d, 0, draw("ab"), []int64{0})
	for _, root := range []int64{-1 << 63, -1 << 32, -2, -1, 1, 3, 10, 11, 999, 1000, 1001, 1 << 32, 1<<32 + 2, 1<<63 - 1} {
		wantNoLoad(t, fmt.Sprint("root ", root), d, "f", root)
	}
	for _, s := range []sheaf{{1: leafPage()}, smallSheaf().moved(4, 1), longSheaf().moved(2, 1), longSheaf().moved(4, 1), deepSheaf().moved(3, 1)} {
		wantNoLoad(t, "page 1", s.disk(), "f", 1)
		wantNoLoad(t, "zeros on page 0", s.disk(), "f", 0)
	}
	full := d
	full.Files = []impl.File{{Name: "f", Data: []byte(strings.Repeat(string(modelNew(stamped(leaf, 1))), impl.CapMax))}}
	wantLoad(t, "the last page", full, 999, draw("ab:999"), []int64{999})
	wantLoad(t, "the first page", full, 0, draw("ab"), []int64{0})
	wantNoLoad(t, "the second page", full, "f", 1)
	wantNoLoad(t, "behind the last page", full, "f", 1000)
	for _, name := range append([]string{"g", "e", "ff", "F"}, noNames...) {
		wantNoLoad(t, fmt.Sprintf("file %q", name), d, name, 2)
		wantNoLoad(t, fmt.Sprintf("file %q from page 0 on", name), d, name, 0)
	}
	wantNoLoad(t, "no files", impl.DiskNew(100), "f", 2)
	wantNoLoad(t, "no files, from page 0 on", impl.DiskNew(100), "f", 0)
	for _, row := range invalidDisks() {
		for _, name := range []string{"a", "b", "f"} {
			for root := range int64(4) {
				wantNoLoad(t, row.what, row.disk, name, root)
			}
		}
	}
	spoilt := d
	spoilt.Cap = 9
	wantNoLoad(t, "more pages than Cap", spoilt, "f", 2)
	wantNoLoad(t, "more pages than Cap, from page 0 on", spoilt, "f", 0)
	beside := d
	beside.Files = append([]impl.File{{Name: "e", Data: sheaf{2: lettersLeaf("cd"), 3: lettersLeaf("ef")}.codes().data()}}, d.Files...)
	wantLoad(t, "beside another file", beside, 2, draw("ab:2"), []int64{2})
	wantNoLoad(t, "a page that another file has", beside, "f", 3)
}

// notACode are pages that nothing is read from.
func notACode() map[string][]byte {
	leaf := modelNew(stamped(lettersLeaf("ab"), 7))
	torn, flipped := append(leaf[:60:60], make([]byte, 68)...), append(leaf[:9:9], leaf[9]^1)
	return map[string][]byte{
		"zeros": make([]byte, impl.PageBytes), "ones": pageOf(0xff), "torn": torn, "a bit changed": append(flipped, leaf[10:]...),
		"an old leaf": modelOld(lettersLeaf("ab")), "an old overflow page": modelOld(overPage(0, "z")),
		"a stamp of 0": framed(0, impl.PLeaf, 0, nil), "a kind of 5": framed(1, 5, 0, nil),
		"no Data": framed(1, impl.POver, 0, []byte{0, 0, 0, 0, 0}), "no Data, and more": framed(1, impl.POver, 0, []byte{9, 0, 0, 0, 0}),
		"Data too short, and more": framed(1, impl.POver, 0, []byte{9, 0, 0, 0, 1, 'z'}), "one kid": framed(1, impl.PBranch, 1, []byte{3, 0, 0, 0}),
	}
}

// Every page of a tree is once each thing that it must not be.
func TestLoadOfWrongPages(t *testing.T) {
	for _, row := range []struct {
		pages sheaf
		root  int64
	}{{smallSheaf(), 4}, {longSheaf(), 4}, {deepSheaf(), 3}, {sheaf{2: leafPage()}, 2}, {sheaf{0: leafPage()}, 0}, {smallSheaf().moved(4, 0), 0}, {longSheaf().moved(4, 0), 0}, {deepSheaf().moved(3, 0), 0}} {
		for num, p := range row.pages {
			c := row.pages.codes()
			for what, b := range notACode() {
				wantNoLoad(t, fmt.Sprint(what, " on page ", num), c.with(num, b).disk(), "f", row.root)
			}
			others := []impl.Page{metaPage(1, 2, 0), overPage(0, "z"), overPage(98, ninetySix)}
			if p.Kind == impl.POver {
				others = []impl.Page{metaPage(1, 2, 0), leafPage(), lettersLeaf("ab"), branchPage(kid("", 97), kid("c", 98))}
			}
			for _, other := range others {
				s := row.pages.with(num, other).with(97, lettersLeaf("ab")).with(98, lettersLeaf("cd"))
				if p.Kind != impl.POver {
					s = s.with(98, overPage(0, "z"))
				}
				wantNoLoad(t, fmt.Sprint("kind ", other.Kind, " on page ", num), s.disk(), "f", row.root)
			}
			// In the cache stands something else: that is what is seen.
			hidden := row.pages.disk()
			hidden.Cache = []impl.Pend{{Name: "f", Page: num, Data: make([]byte, impl.PageBytes)}}
			wantNoLoad(t, fmt.Sprint("zeros over page ", num), hidden, "f", row.root)
			healed := c.with(num, make([]byte, impl.PageBytes)).disk()
			wantNoLoad(t, fmt.Sprint("zeros on page ", num), healed, "f", row.root)
			healed.Cache = []impl.Pend{{Name: "f", Page: num, Data: c[num]}}
			if !sameLoad(impl.LoadTree(healed, "f", row.root), impl.LoadTree(row.pages.disk(), "f", row.root)) {
				t.Errorf("page %d in the cache is not seen", num)
			}
		}
	}
	d := longSheaf().disk()
	d.Files[0].Data = d.Files[0].Data[:8*impl.PageBytes]
	wantNoLoad(t, "the last page of a chain is behind the end", d, "f", 4)
	d.Cache = []impl.Pend{{Name: "f", Page: 8, Data: longSheaf().codes()[8]}}
	wantLoad(t, "the last page of a chain is in the cache", d, 4, draw("(a^5b:3 c^7d:2):4"), []int64{2, 3, 4, 5, 6, 7, 8})
}

func TestLoadReadsNoPageTwice(t *testing.T) {
	for _, row := range []struct {
		what  string
		pages sheaf
		root  int64
	}{
		{"two children", smallSheaf().with(4, branchPage(kid("", 3), kid("c", 3))), 4},
		{"two children that would fit", smallSheaf().with(4, branchPage(kid("", 2), kid("c", 2))), 4},
		{"a child and its parent", smallSheaf().with(4, branchPage(kid("", 3), kid("c", 4))), 4},
		{"a first child and its parent", smallSheaf().with(4, branchPage(kid("", 4), kid("c", 2))), 4},
		{"all children are their parent", smallSheaf().with(4, branchPage(kid("", 4), kid("b", 4), kid("c", 4), kid("d", 4))), 4},
		{"a child and the root", deepSheaf().with(4, branchPage(kid("", 6), kid("g", 3))), 3},
		{"a first child and the root", deepSheaf().with(7, branchPage(kid("", 3), kid("c", 8))), 3},
		{"children of two parents", deepSheaf().with(4, branchPage(kid("", 8), kid("g", 5))), 3},
		{"two inner nodes", deepSheaf().with(3, branchPage(kid("", 7), kid("e", 7))), 3},
		{"a child and its parent's neighbour", deepSheaf().with(7, branchPage(kid("", 9), kid("c", 4))), 3},
		{"two chains from their first page on", longSheaf().with(2, leafPage(long("c", 5, 100), short("d", "vd"))), 4},
		{"two chains at their second page", longSheaf().with(7, overPage(6, ninetySix)), 4},
		{"the end of a chain and the first page of another", longSheaf().with(2, leafPage(long("c", 6, 96), short("d", "vd"))).with(6, overPage(0, ninetySix)).with(3, leafPage(long("a", 5, 192), short("b", "vb"))), 4},
		{"two chains of one leaf at their second page", sheaf{2: leafPage(long("a", 3, 100), long("b", 4, 100)), 3: overPage(5, ninetySix), 4: overPage(5, ninetySix), 5: overPage(0, "zzzz")}, 2},
		{"two chains of one leaf", sheaf{2: leafPage(long("a", 3, 50), long("b", 3, 50)), 3: overPage(0, ninetySix[:50])}, 2},
		{"a chain and its leaf", sheaf{2: leafPage(long("a", 2, 100))}, 2},
		{"a chain's second page and its leaf", sheaf{2: leafPage(long("a", 3, 100)), 3: overPage(2, ninetySix)}, 2},
		{"a chain and another leaf", longSheaf().with(7, overPage(3, ninetySix)), 4},
		{"a chain and the root", longSheaf().with(7, overPage(4, ninetySix)), 4},
		{"a leaf and a chain", longSheaf().with(4, branchPage(kid("", 3), kid("c", 5))), 4},
		{"a chain of one page in a circle", sheaf{2: leafPage(long("a", 3, 100)), 3: overPage(3, ninetySix)}, 2},
		{"a circle of Size bytes", sheaf{2: leafPage(long("a", 3, 384)), 3: overPage(3, ninetySix)}, 2},
		{"a circle of ValMax bytes", sheaf{2: leafPage(long("a", 3, 400)), 3: overPage(3, ninetySix)}, 2},
		{"a chain of two pages in a circle", sheaf{2: leafPage(long("a", 3, 200)), 3: overPage(4, ninetySix), 4: overPage(3, ninetySix)}, 2},
		{"two children of a root on page 0", smallSheaf().with(0, branchPage(kid("", 3), kid("c", 3))), 0},
		{"children of two parents below a root on page 0", deepSheaf().moved(3, 0).with(4, branchPage(kid("", 8), kid("g", 5))), 0},
		{"two chains of one leaf on page 0", sheaf{0: leafPage(long("a", 3, 50), long("b", 3, 50)), 3: overPage(0, ninetySix[:50])}, 0},
		{"a circle below a leaf on page 0", sheaf{0: leafPage(long("a", 3, 384)), 3: overPage(3, ninetySix)}, 0},
		{"a chain that comes back to its second page", sheaf{2: leafPage(long("a", 3, 392)), 3: overPage(4, ninetySix), 4: overPage(5, ninetySix), 5: overPage(4, ninetySix)}, 2},
	} {
		wantNoLoad(t, row.what, row.pages.disk(), "f", row.root)
		if !zeroLoad(modelLoad(row.pages.disk(), "f", row.root)) {
			t.Errorf("%s: the test's row is wrong", row.what)
		}
	}
	// The same shared pages are right where only one of the two is read.
	s := longSheaf().with(7, overPage(6, ninetySix))
	wantLoad(t, "one of two chains", s.disk(), 3, draw("a^5b:3"), []int64{3, 5, 6})
}

// chained is a leaf on page 2 with one value, whose pieces lie from page 3 on.
func chained(size int64, pieces ...int) sheaf {
	s := sheaf{2: leafPage(long("k", 3, size))}
	for i, n := range pieces {
		next := int64(0)
		if i+1 < len(pieces) {
			next = int64(i) + 4
		}
		s[int64(i)+3] = overPage(next, strings.Repeat(string(rune('a'+i)), n))
	}
	return s
}

func TestLoadChains(t *testing.T) {
	for _, row := range []struct {
		size   int64
		pieces []int
		ok     int
	}{
		{9, []int{9}, 1}, {9, []int{8}, 0}, {9, []int{10}, 0}, {9, []int{96}, 0}, {9, []int{96, 9}, 0}, {10, []int{9}, 0},
		{95, []int{95}, 1}, {95, []int{96}, 0}, {95, []int{96, 1}, 0}, {95, []int{94}, 0},
		{96, []int{96}, 1}, {96, []int{95}, 0}, {96, []int{96, 1}, 0}, {96, []int{96, 96}, 0}, {96, []int{1}, 0},
		{97, []int{96, 1}, 1}, {97, []int{96}, 0}, {97, []int{96, 2}, 0}, {97, []int{96, 96}, 0}, {97, []int{96, 96, 1}, 0}, {98, []int{96, 1}, 0},
		{191, []int{96, 95}, 1}, {192, []int{96, 96}, 1}, {192, []int{96, 95}, 0}, {192, []int{96, 96, 1}, 0}, {192, []int{96, 96, 96}, 0},
		{193, []int{96, 96, 1}, 1}, {193, []int{96, 96}, 0}, {288, []int{96, 96, 96}, 1}, {384, []int{96, 96, 96, 96}, 1}, {384, []int{96, 96, 96, 96, 1}, 0},
		{400, []int{96, 96, 96, 96, 16}, 1}, {400, []int{96, 96, 96, 96, 15}, 0}, {400, []int{96, 96, 96, 96, 17}, 0}, {400, []int{96, 96, 96, 96}, 0}, {400, []int{96, 96, 96, 96, 96}, 0}, {400, []int{96, 96, 96, 96, 96, 1}, 0}, {399, []int{96, 96, 96, 96, 16}, 0},
	} {
		what := fmt.Sprint("Size ", row.size, ", pieces ", row.pieces)
		s := chained(row.size, row.pieces...)
		if row.ok == 0 {
			wantNoLoad(t, what, s.disk(), "f", 2)
			continue
		}
		var val string
		nums := []int64{2}
		for i := range row.pieces {
			nums = append(nums, int64(i)+3)
			val += s[int64(i)+3].Data
		}
		want := impl.Tree{Nodes: []impl.TNode{{Leaf: true, Page: 2, Keys: []string{"k"}, Vals: []string{val}, Over: []int64{3}}}}
		wantLoad(t, what, s.disk(), 2, want, nums)
	}
	// A page of no Data can't carry a chain on, nor end it.
	for what, b := range notACode() {
		c := chained(96, 96, 1).codes().with(4, b)
		wantNoLoad(t, what+" behind Size bytes", c.disk(), "f", 2)
		c = chained(97, 96, 1).codes().with(4, b)
		wantNoLoad(t, what+" in place of the last byte", c.with(9, modelNew(stamped(overPage(0, "z"), 1))).disk(), "f", 2)
		c = chained(9, 9).codes().with(3, b)
		wantNoLoad(t, what+" as the first page", c.with(9, modelNew(stamped(overPage(0, "123456789"), 1))).disk(), "f", 2)
	}
}

func TestLoadOfTreesThatAreNotValid(t *testing.T) {
	for _, row := range []struct {
		what  string
		pages sheaf
		root  int64
	}{
		{"a Sep below the smallest key", smallSheaf().with(4, branchPage(kid("", 3), kid("bb", 2))), 4},
		{"a Sep above the smallest key", smallSheaf().with(4, branchPage(kid("", 3), kid("d", 2))), 4},
		{"a Sep of the root", deepSheaf().with(3, branchPage(kid("", 7), kid("f", 4))), 3},
		{"a Sep below the root", deepSheaf().with(4, branchPage(kid("", 6), kid("f", 5))), 3},
		{"children the wrong way round", smallSheaf().with(4, branchPage(kid("", 2), kid("a", 3))), 4},
		{"a leaf of one key", smallSheaf().with(3, lettersLeaf("a")), 4},
		{"a last leaf of one key", smallSheaf().with(2, lettersLeaf("c")), 4},
		{"a leaf of no keys", smallSheaf().with(3, leafPage()), 4},
		{"a last leaf of no keys", smallSheaf().with(2, leafPage()), 4},
		{"two leaves of no keys", smallSheaf().with(2, leafPage()).with(3, leafPage()), 4},
		{"a key twice", smallSheaf().with(3, lettersLeaf("bc")), 4},
		{"keys that overlap", smallSheaf().with(3, lettersLeaf("ad")), 4},
		{"keys that overlap far away", deepSheaf().with(8, lettersLeaf("cz")), 3},
		{"leaves not equally deep", deepSheaf().with(7, lettersLeaf("ab")), 3},
		{"leaves not equally deep at the end", deepSheaf().with(4, lettersLeaf("ef")), 3},
		{"a Sep of a root on page 0", smallSheaf().with(0, branchPage(kid("", 3), kid("d", 2))), 0},
		{"a leaf of one key below a root on page 0", smallSheaf().moved(4, 0).with(3, lettersLeaf("a")), 0},
		{"leaves not equally deep below a root on page 0", deepSheaf().moved(3, 0).with(4, lettersLeaf("ef")), 0},
		{"a branch too deep", deepSheaf().with(9, branchPage(kid("", 10), kid("b", 11))).with(10, lettersLeaf("ab")).with(11, lettersLeaf("bc")), 3},
	} {
		wantNoLoad(t, row.what, row.pages.disk(), "f", row.root)
	}
}
