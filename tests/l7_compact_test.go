package tests

import (
	"fmt"
	"slices"
	"strings"
	"testing"

	"loop.example/s02098/impl"
)

// wantCompact asks for the same pairs, Id and Tx, on the pages from 2 on, in a tree that is no greater.
func wantCompact(t *testing.T, what string, d impl.Disk, from, to string) impl.Disk {
	t.Helper()
	before := impl.OpenStore(d, from).Store
	pairs := impl.View(before, 0, "", "").Pairs
	old := impl.LoadTree(d, from, before.Meta.Root).Pages
	r := impl.Compact(d, from, to)
	after := impl.OpenStore(r.Disk, to)
	if r.Err != impl.RsOk || r.At != 0 || after.Code != impl.StOk {
		t.Fatalf("%s: Err %d at %d, code %d", what, r.Err, r.At, after.Code)
	}
	s := after.Store
	if got := impl.View(s, 0, "", "").Pairs; !slices.Equal(got, pairs) || s.Tx != before.Tx || s.Meta.Id != before.Meta.Id {
		t.Errorf("%s: tx %d, meta %+v, %q, want %d, %+v, %q", what, s.Tx, s.Meta, got, before.Tx, before.Meta, pairs)
	}
	nums := impl.LoadTree(r.Disk, to, s.Meta.Root).Pages
	for i, num := range nums {
		if num != int64(i)+2 {
			t.Errorf("%s: the pages are %d", what, nums)
			break
		}
	}
	if len(nums) > len(old) || impl.PageCount(r.Disk, to) != int64(len(nums))+2 {
		t.Errorf("%s: %d pages of a tree with %d, in a file of %d", what, len(nums), len(old), impl.PageCount(r.Disk, to))
	}
	placed := modelPlace(modelBulk(pairs), before.Tx, nil)
	wantTree(t, what, s.Tree, placed.Tree)
	for _, num := range nums {
		if p := impl.DecodePage(impl.ReadPage(r.Disk, to, num)).Page; p.Tx != before.Tx {
			t.Errorf("%s: page %d has the stamp %d", what, num, p.Tx)
		}
	}
	for _, f := range d.Files {
		if f.Name != to && f.Name != "tmp" {
			wantFile(t, what, r.Disk, f.Name, d)
		}
	}
	if len(r.Disk.Cache) > 0 || modelFind(r.Disk.Files, "tmp") >= 0 {
		t.Errorf("%s: %s", what, tell(r.Disk))
	}
	return r.Disk
}

// wantCompactTwice compacts to another name, onto itself, and what is compact already.
func wantCompactTwice(t *testing.T, what string, d impl.Disk) {
	t.Helper()
	d.Cap = impl.CapMax
	other := wantCompact(t, what, d, "f", "g")
	itself := wantCompact(t, what+" onto itself", d, "f", "f")
	again := wantCompact(t, what+" again", itself, "f", "f")
	if !sameDisk(again, itself) {
		t.Errorf("%s: what is compact is changed", what)
	}
	if got, want := other.Files[modelFind(other.Files, "g")], itself.Files[modelFind(itself.Files, "f")]; string(got.Data) != string(want.Data) {
		t.Errorf("%s: the names are seen in the files", what)
	}
	back := wantCompact(t, what+" back", other, "g", "f")
	if !slices.EqualFunc(back.Files, other.Files, func(a, b impl.File) bool { return a.Name == b.Name }) {
		t.Errorf("%s: the files are %s", what, tell(back))
	}
	// Behind the last stamp there is no commit.
	if s := impl.OpenStore(itself, "f").Store; !t.Failed() && s.Tx < impl.NumMax {
		wantGoesOn(t, what, s, impl.View(s, 0, "", "").Pairs)
	}
}

func TestDrawnStoresCompact(t *testing.T) {
	smaller, long := 0, 0
	for seed := range int64(40) {
		r := newDice(1300 + seed)
		keys := r.keys(int(r.pick(2, 6, 15, 40)))
		var s impl.Store
		if seed%2 == 0 {
			s = r.lived(t, impl.CapMax, 80, keys)
		} else {
			s = r.commits(t, created(t, impl.CapMax), keys, 3+r.Intn(20))
		}
		wantCompactTwice(t, fmt.Sprint("seed ", seed), impl.SyncDisk(s.Disk).Disk)
		small := impl.Compact(impl.SyncDisk(s.Disk).Disk, "f", "f").Disk
		if impl.PageCount(small, "f") < impl.PageCount(s.Disk, "f") {
			smaller++
		}
		if slices.ContainsFunc(modelPairs(s.Tree), func(p impl.Pair) bool { return len(p.Val) > impl.InlineMax }) {
			long++
		}
		if t.Failed() {
			t.FailNow()
		}
	}
	if smaller < 25 || long < 25 {
		t.Errorf("only %d files are smaller, only %d have long values", smaller, long)
	}
}

// anywhere is a tree in a shape of its own that stands anywhere in a file.
func (r dice) anywhere(count int) impl.Placed {
	for {
		tree := r.tree(count)
		for i := range tree.Nodes {
			tree.Nodes[i].Page = 0
			clear(tree.Nodes[i].Over)
		}
		if placed := impl.Place(tree, 1, r.takenList()); len(placed.Nums) > 0 {
			return placed
		}
	}
}

// Trees of every shape, with stamps of every sort.
func TestDrawnTreesCompact(t *testing.T) {
	roomy := 0
	for seed := range int64(40) {
		r := newDice(1350 + seed)
		count := int(r.pick(0, 1, 2, 4, 5, 6, 17, 40))
		placed := r.anywhere(count)
		s := sheaf{}
		for i, num := range placed.Nums {
			s[num] = stamped(placed.Pages[i], r.big())
		}
		d := s.withMeta(r.big(), placed.Tree.Nodes[0].Page, int64(count)).disk()
		// A file that reaches up to the last page there is leaves no room for another one.
		if modelTotal(d.Files) < 600 {
			wantCompactTwice(t, fmt.Sprint("seed ", seed), d)
			roomy++
		}
		wantRestoreRes(t, fmt.Sprint("seed ", seed), impl.Compact(d, "f", "g"), modelCompact(d, "f", "g"))
	}
	if roomy < 10 {
		t.Errorf("only %d trees had room", roomy)
	}
}

func TestCompactRows(t *testing.T) {
	many := "b"
	for _, k := range letters(26) {
		many += " +" + k
	}
	for _, row := range []struct {
		words, picture string
		tx             int64
	}{
		{"", ":2", 1}, {"b c", ":2", 2}, {"b +a c b -a c", ":2", 3}, {"b +a c", "a:2", 2}, {"b *a c", "a^2:4", 2}, {"b +a +b +c +d c", "abcd:2", 2}, {"b +a c b +b c b +c c b +d c", "abcd:2", 5},
		{"b +a +b +c +d +e c", "(abc:2 de:3):4", 2}, {"b +a +b +c +d +e +f c", "(abcd:2 ef:3):4", 2}, {"b +a *b +c +d *e +f +g c b -c c", "(ab^2de^4:6 fg:7):8", 3},
		{many + " c", "((abcd:2 efgh:3 ijkl:4 mnop:5):6 (qrst:7 uvwx:8 yz:9):10):11", 2},
	} {
		s := run(t, created(t, 90), row.words)
		got := wantCompact(t, row.words, s.Disk, "f", "g")
		small := impl.OpenStore(got, "g").Store
		wantTree(t, row.words, small.Tree, draw(row.picture))
		if small.Tx != row.tx || small.Meta.Id != 7 {
			t.Errorf("%s: tx %d, meta %+v", row.words, small.Tx, small.Meta)
		}
		// A transaction or a pin of the store is nothing that the file knows of.
		wantCompactTwice(t, row.words, run(t, s, "p b +z -a").Disk)
	}
	for _, row := range []struct {
		count int
		pages int64
	}{{700, 2 + 175 + 44 + 11 + 3 + 1}, {1000, 2 + 250 + 63 + 16 + 4 + 1}} {
		d := bulkStore(t, row.count, impl.NumMax).Disk
		got := wantCompact(t, fmt.Sprint(row.count, " pairs"), d, "f", "g")
		if impl.PageCount(got, "g") != row.pages {
			t.Errorf("%d pairs: %d pages", row.count, impl.PageCount(got, "g"))
		}
	}
}

// A file to that is there, shorter or longer, a store or not, is gone.
func TestCompactOverAFile(t *testing.T) {
	d := run(t, created(t, 200), "b +a +b +c +d +e +f c b -a c").Disk
	want := wantCompact(t, "over nothing", d, "f", "g")
	for what, file := range map[string]impl.File{
		"one page": fileOf("g", 1), "just as many pages": fileOf("g", 1, 2, 3, 4, 5), "many pages": fileOf("g", make([]byte, 90)...), "another store": {Name: "g", Data: deepSheaf().withMeta(9, 3, 8).codes().data()},
	} {
		for _, base := range []impl.Disk{withFile(d, file), withFile(withFile(d, file), fileOf("tmp", 3, 4))} {
			if got := wantCompact(t, what, base, "f", "g"); !sameDisk(got, want) {
				t.Errorf("over %s: %s", what, tell(got))
			}
		}
	}
}

// RsDisk goes before RsTree, whichever of the two names it is.
func TestCompactOfNothing(t *testing.T) {
	d := run(t, created(t, 200), "b +a +b c").Disk
	for _, row := range unfitDisks() {
		for _, names := range [][2]string{{"a", "x"}, {"f", "f"}, {"f", "tmp"}, {"tmp", "f"}, {"", ""}, {"nothing", "x"}} {
			wantRestoreRes(t, row.what, impl.Compact(row.disk, names[0], names[1]), impl.RestoreRes{Err: impl.RsDisk, Disk: row.disk})
		}
	}
	cached := impl.WritePage(d, "q", 0, pageOf(1)).Disk
	wantRestoreRes(t, "a write in the cache", impl.Compact(cached, "f", "g"), impl.RestoreRes{Err: impl.RsDisk, Disk: cached})
	for _, base := range []impl.Disk{d, withFile(d, impl.File{Name: "tmp", Data: d.Files[0].Data})} {
		for _, name := range append([]string{"tmp"}, noNames...) {
			for _, other := range []string{"f", "g", "no", "", "tmp"} {
				for _, names := range [][2]string{{name, other}, {other, name}} {
					wantRestoreRes(t, fmt.Sprintf("from %q to %q", names[0], names[1]), impl.Compact(base, names[0], names[1]), impl.RestoreRes{Err: impl.RsDisk, Disk: base})
				}
			}
		}
		for _, names := range [][2]string{{"no", "x"}, {"no", "no"}, {"no", "f"}, {"g", "f"}, {"ftmp", "f"}} {
			wantRestoreRes(t, fmt.Sprint("from ", names[0], " to ", names[1]), impl.Compact(base, names[0], names[1]), impl.RestoreRes{Err: impl.RsTree, Disk: base})
		}
	}
	small := smallSheaf()
	for what, broken := range map[string]impl.Disk{
		"no meta": small.disk(), "zeros": codes{3: pageOf(0)}.disk(), "one page": codes{0: pageOf(0)}.disk(), "a meta on the wrong page": small.with(1, stamped(metaPage(7, 4, 4), 6)).disk(), "a meta alone": sheaf{0: stamped(metaPage(7, 4, 4), 6)}.disk(),
		"a count too high": small.withMeta(6, 4, 5).disk(), "a count too low": small.withMeta(6, 4, 3).disk(), "another root": small.withMeta(6, 5, 4).disk(), "a leaf of one key": small.with(2, lettersLeaf("c")).withMeta(6, 4, 3).disk(),
		"a leaf gone": small.with(2, overPage(0, "z")).withMeta(6, 4, 4).disk(), "a newer meta of no tree": small.withMeta(6, 4, 4).withMeta(7, 9, 4).disk(), "an old file": codes{0: modelOld(metaPage(7, 1, 0)), 1: modelOld(leafPage())}.disk(),
	} {
		for _, to := range []string{"f", "g"} {
			wantRestoreRes(t, what+" to "+to, impl.Compact(broken, "f", to), impl.RestoreRes{Err: impl.RsTree, Disk: broken})
			wantRestoreRes(t, what+" to tmp", impl.Compact(broken, "f", "tmp"), impl.RestoreRes{Err: impl.RsDisk, Disk: broken})
		}
		dry := broken
		dry.Fuel = 0
		wantRestoreRes(t, what+" without fuel", impl.Compact(dry, "f", "g"), impl.RestoreRes{Err: impl.RsTree, Disk: dry})
	}
	// An older meta that is whole is no help, nor does it harm beside a newer one.
	wantCompact(t, "an older meta of no tree", small.withMeta(6, 4, 4).withMeta(5, 9, 4).disk(), "f", "g")
	wantCompact(t, "a page far behind", sheaf{996: lettersLeaf("ab")}.withMeta(3, 996, 2).disk(), "f", "f")
}

// The greatest tree has all page numbers: it is compact already, and there is no room for two of it.
func TestTheGreatestCompact(t *testing.T) {
	var pairs []impl.Pair
	for i, p := range numberedPairs(640) {
		if i < 196 {
			p.Val = strings.Repeat("v", impl.ValMax-16*(i%2))
		}
		pairs = append(pairs, p)
	}
	for len(impl.Place(impl.TreeBulk(pairs), 4, nil).Nums) == 0 {
		pairs = pairs[1:]
	}
	placed := impl.Place(impl.TreeBulk(pairs), 4, nil)
	s := sheaf{}
	for i, num := range placed.Nums {
		s[num] = placed.Pages[i]
	}
	d := s.withMeta(4, placed.Tree.Nodes[0].Page, int64(len(pairs))).disk()
	if n := modelTotal(d.Files); n < impl.CapMax-4 {
		t.Fatalf("the test is wrong: %d pages", n)
	}
	got := impl.Compact(d, "f", "g")
	if got.Err != impl.RsFull || modelFind(got.Disk.Files, "g") >= 0 {
		t.Errorf("Err %d", got.Err)
	}
	wantFile(t, "the source", got.Disk, "f", d)
}
