package tests

import (
	"bytes"
	"fmt"
	"slices"
	"testing"

	"loop.example/s02098/impl"
)

// xDisk has a file x, and one ahead of it and behind it.
func xDisk() impl.Disk {
	return impl.Disk{Files: []impl.File{fileOf("a", 1), fileOf("x", 2, 3), fileOf("z", 4)}, Cap: 90, Fuel: -1}
}

// withFile is the disk with one file more.
func withFile(d impl.Disk, f impl.File) impl.Disk {
	d.Files = append(modelCopy(d.Files), f)
	slices.SortFunc(d.Files, func(a, b impl.File) int { return bytes.Compare([]byte(a.Name), []byte(b.Name)) })
	return d
}

// unfitDisks are those that nothing is put on.
func unfitDisks() []namedDisk {
	out := invalidDisks()
	for _, row := range validDisks() {
		if row.disk.Dead || len(row.disk.Cache) > 0 {
			out = append(out, row)
		}
	}
	dead, cached, both := xDisk(), xDisk(), xDisk()
	dead.Dead, both.Dead = true, true
	cached.Cache = []impl.Pend{pendOf("x", 0, 9)}
	both.Cache = cached.Cache
	return append(out, namedDisk{"a dead disk with files", dead}, namedDisk{"a write to x in the cache", cached}, namedDisk{"dead, with a write", both})
}

// manyChains are right ones and each sort of wrong ones.
func manyChains(t *testing.T) map[string][]impl.Blob {
	t.Helper()
	c := letterChain(t)
	return map[string][]impl.Blob{
		"a right chain": c, "its beginning": c[:1], "no chain": nil, "an empty chain": {}, "21 texts": make([]impl.Blob, 21), "an empty text": {{}}, "a text on a base": c[1:], "a gap": {c[0], c[2]},
		"a text that is cut": {c[0], {Data: c[1].Data[:30]}}, "no tree": blobs(textOf(7, 1, 0, 2, 0)), "too long": blobs(make([]byte, impl.StreamMax+1)),
	}
}

// RsDisk goes before all that is wrong with the chain.
func TestRestoreOnNoDisk(t *testing.T) {
	for what, chain := range manyChains(t) {
		for _, row := range unfitDisks() {
			wantRestoreRes(t, what+" on "+row.what, impl.Restore(row.disk, "x", chain), impl.RestoreRes{Err: impl.RsDisk, Disk: row.disk})
		}
		for _, name := range append([]string{"tmp"}, noNames...) {
			for _, d := range []impl.Disk{xDisk(), withFile(xDisk(), fileOf("tmp", 7)), {Fuel: 0}} {
				wantRestoreRes(t, fmt.Sprintf("%s as %q", what, name), impl.Restore(d, name, chain), impl.RestoreRes{Err: impl.RsDisk, Disk: d})
			}
		}
	}
	// Names that only look like it, or that mean something in another chapter.
	chain := letterChain(t)
	for _, name := range []string{"a", "x", "t", "tm", "tmpa", "tmpp", "atmp", "ttmp", "log", "new", "abcdefgh", "zzzzzzzz"} {
		got := impl.Restore(xDisk(), name, chain)
		wantRestoreRes(t, "as "+name, got, modelRestore(xDisk(), name, chain))
		if got.Err != impl.RsOk {
			t.Errorf("as %s: Err %d", name, got.Err)
		}
	}
}

// longChain has so many texts, each a leaf of its own on page 2 and up.
func longChain(count int64) []impl.Blob {
	var out []impl.Blob
	for tx := int64(1); tx <= count; tx++ {
		out = append(out, blobs(sheaf{2 + tx%3: stamped(lettersLeaf("ab"), tx)}.text(tx, tx-1, 2+tx%3))...)
	}
	return out
}

// The number of texts: 1, ChainMax, and beyond, whatever they are.
func TestLengthsOfChains(t *testing.T) {
	d := xDisk()
	for count := range int64(impl.ChainMax + 3) {
		chain := longChain(count)
		want := modelRestore(d, "x", chain)
		if good := count >= 1 && count <= impl.ChainMax; good != (want.Err == impl.RsOk) {
			t.Fatalf("the test is wrong: %d texts, Err %d", count, want.Err)
		}
		wantRestoreRes(t, fmt.Sprint(count, " texts"), impl.Restore(d, "x", chain), want)
		if count > impl.ChainMax {
			// The number goes before the first text.
			chain[0].Data = nil
			wantRestoreRes(t, fmt.Sprint(count, " texts, the first empty"), impl.Restore(d, "x", chain), impl.RestoreRes{Err: impl.RsChain, Disk: d})
		}
	}
	wantRestoreRes(t, "1000 texts", impl.Restore(d, "x", make([]impl.Blob, 1000)), impl.RestoreRes{Err: impl.RsChain, Disk: d})
}

// wrongTexts are the faults of a text, each with its Err, made from a right text of the transaction tx.
func wrongTexts(tx int64) map[string]struct {
	b   []byte
	err int64
} {
	leaf := sheaf{2: stamped(leafPage(), tx)}
	right := leaf.text(tx, tx-1, 2)
	other := func(id, tx, base int64) []byte {
		return textOf(id, tx, base, 2, 1, frameOf(2, stamped(leafPage(), tx)))
	}
	return map[string]struct {
		b   []byte
		err int64
	}{
		"nothing": {nil, impl.RsShort}, "cut": {right[:len(right)-1], impl.RsShort}, "no head": {right[1:], impl.RsHead}, "a wrong letter": {append(bytes.Clone(right[:22]), 'Q'), impl.RsFrame},
		"a wrong sum": {append(bytes.Clone(right[:len(right)-1]), right[len(right)-1]+1), impl.RsSum}, "more": {append(bytes.Clone(right), 0), impl.RsTail}, "too long": {append(bytes.Clone(right), make([]byte, impl.StreamMax)...), impl.RsLong},
		"a base too high": {other(7, tx+1, tx), impl.RsChain}, "a base far too high": {other(7, impl.NumMax, impl.NumMax-1), impl.RsChain},
		"a page 0": {textOf(7, tx, tx-1, 2, 2, frameOf(0, stamped(leafPage(), tx)), frameOf(2, stamped(leafPage(), tx))), impl.RsFrame}, "a page 1": {textOf(7, tx, tx-1, 2, 2, frameOf(1, stamped(leafPage(), tx)), frameOf(2, stamped(leafPage(), tx))), impl.RsFrame},
		"a meta":                {textOf(7, tx, tx-1, 2, 1, frameOf(2, stamped(metaPage(7, 2, 0), tx))), impl.RsFrame},
		"a wrong base, and cut": {other(7, tx+1, tx)[:100], impl.RsShort}, "a wrong base and a wrong sum": {missummed(other(7, tx+1, tx)), impl.RsSum},
	}
}

// Each fault at each place of the chain: the first one is told, with its place.
func TestFaultsAtEachPlace(t *testing.T) {
	d := xDisk()
	right := longChain(impl.ChainMax)
	for at := range int64(impl.ChainMax) {
		wrongs := wrongTexts(at + 1)
		for what, row := range wrongs {
			chain := slices.Clone(right)
			chain[at].Data = row.b
			want := impl.RestoreRes{Err: row.err, At: at, Disk: d}
			wantRestoreRes(t, fmt.Sprint(what, " at ", at), impl.Restore(d, "x", chain), want)
			if at+1 < impl.ChainMax {
				chain[at+1].Data = wrongs["no head"].b
				wantRestoreRes(t, fmt.Sprint(what, " at ", at, " and a fault behind"), impl.Restore(d, "x", chain), want)
			}
			wantRestoreRes(t, fmt.Sprint(what, " at ", at, ", the last"), impl.Restore(d, "x", chain[:at+1]), want)
		}
	}
}

// What must follow: the Base of a text the Tx of the one before, and its Id.
func TestTextsThatDoNotFollow(t *testing.T) {
	d := xDisk()
	told := func(id, tx, base int64) []byte {
		return textOf(id, tx, base, 2, 1, frameOf(2, stamped(leafPage(), tx)))
	}
	for _, row := range []struct {
		chain []impl.Blob
		err   int64
		at    int64
	}{
		{blobs(told(7, 5, 0)), impl.RsOk, 0}, {blobs(told(1, 1, 0)), impl.RsOk, 0}, {blobs(told(impl.NumMax, impl.NumMax, 0)), impl.RsOk, 0},
		{blobs(told(7, 5, 1)), impl.RsChain, 0}, {blobs(told(7, 5, 4)), impl.RsChain, 0}, {blobs(told(7, impl.NumMax, impl.NumMax-1)), impl.RsChain, 0},
		{blobs(told(7, 5, 0), told(7, 6, 5)), impl.RsOk, 0}, {blobs(told(7, 5, 0), told(7, 900, 5)), impl.RsOk, 0}, {blobs(told(7, 5, 0), told(7, 6, 5), told(7, 8, 6)), impl.RsOk, 0},
		{blobs(told(7, 5, 0), told(7, 6, 4)), impl.RsChain, 1}, {blobs(told(7, 5, 0), told(7, 7, 6)), impl.RsChain, 1}, {blobs(told(7, 5, 0), told(7, 6, 0)), impl.RsChain, 1}, {blobs(told(7, 5, 0), told(7, 5, 0)), impl.RsChain, 1},
		{blobs(told(7, 5, 0), told(7, 5, 4)), impl.RsChain, 1}, {blobs(told(7, 5, 0), told(7, 3, 0)), impl.RsChain, 1}, {blobs(told(7, 5, 0), told(7, 7, 1)), impl.RsChain, 1},
		{blobs(told(7, 5, 0), told(8, 6, 5)), impl.RsChain, 1}, {blobs(told(7, 5, 0), told(6, 6, 5)), impl.RsChain, 1}, {blobs(told(7, 5, 0), told(7, 6, 5), told(8, 8, 6)), impl.RsChain, 2}, {blobs(told(7, 5, 0), told(8, 6, 5), told(8, 8, 6)), impl.RsChain, 1}, {blobs(told(7, 5, 0), told(8, 6, 5), told(7, 8, 6)), impl.RsChain, 1},
		{blobs(told(7, 5, 0), told(7, 6, 5), told(7, 8, 5)), impl.RsChain, 2}, {blobs(told(7, 5, 0), told(7, 6, 5), told(7, 6, 5)), impl.RsChain, 2}, {blobs(told(7, 5, 0), told(7, 6, 5), told(7, 7, 0)), impl.RsChain, 2}, {blobs(told(7, 6, 5), told(7, 5, 0)), impl.RsChain, 0},
	} {
		var heads []impl.Stream
		for _, text := range row.chain {
			s := impl.ParseStream(text.Data).Stream
			s.Pages = nil
			heads = append(heads, s)
		}
		what := fmt.Sprintf("texts %+v", heads)
		got := impl.Restore(d, "x", row.chain)
		if row.err != impl.RsOk {
			wantRestoreRes(t, what, got, impl.RestoreRes{Err: row.err, At: row.at, Disk: d})
			continue
		}
		o := impl.OpenStore(got.Disk, "x")
		last := heads[len(heads)-1]
		if got.Err != impl.RsOk || got.At != 0 || o.Code != impl.StOk || o.Store.Tx != last.Tx || o.Store.Meta.Id != last.Id {
			t.Errorf("%s: Err %d at %d, %s", what, got.Err, got.At, tellStore(o.Store))
		}
	}
}

// wantPut asks for the file x, byte by byte, and for all others as they were.
func wantPut(t *testing.T, what string, d impl.Disk, chain []impl.Blob, data []byte) {
	t.Helper()
	want := d
	want.Files = slices.DeleteFunc(modelCopy(d.Files), func(f impl.File) bool { return f.Name == "x" || f.Name == "tmp" })
	want = withFile(want, impl.File{Name: "x", Data: data})
	wantRestoreRes(t, what, impl.Restore(d, "x", chain), impl.RestoreRes{Disk: want})
}

// The meta's page, the gaps of zeros, and the last page, at every sort of Tx.
func TestFilesThatArePut(t *testing.T) {
	for _, tx := range []int64{1, 2, 3, 4, 255, 256, impl.NumMax - 1, impl.NumMax} {
		for _, row := range []struct {
			what        string
			pages       sheaf
			root, count int64
		}{
			{"a leaf on 2", sheaf{2: leafPage()}, 2, 0}, {"a leaf on 3", sheaf{3: lettersLeaf("abc")}, 3, 3}, {"a leaf on 9", sheaf{9: lettersLeaf("ab")}, 9, 2},
			{"three pages", smallSheaf(), 4, 4}, {"long values", longSheaf(), 4, 4}, {"a deep tree", deepSheaf(), 3, 8}, {"a tree with a gap", deepSheaf().moved(3, 20), 20, 8},
			{"a page beside the tree", smallSheaf().with(7, overPage(0, "z")), 4, 4}, {"pages beside the tree", smallSheaf().with(30, lettersLeaf("xy")).with(5, branchPage(kid("", 98), kid("c", 97))), 4, 4}, {"a leaf of the tree alone", smallSheaf(), 3, 2},
		} {
			s := row.pages.stampedAll(tx)
			data := putData(s.codes(), tx, impl.Meta{Id: 7, Root: row.root, Count: row.count})
			for _, d := range []impl.Disk{impl.DiskNew(impl.CapMax), xDisk(), withFile(xDisk(), fileOf("tmp", 7, 8, 9)), withFile(impl.DiskNew(90), fileOf("tmp", make([]byte, 50)...))} {
				wantPut(t, fmt.Sprint(row.what, " at ", tx), d, blobs(s.text(tx, 0, row.root)), data)
			}
			// Said once more without the helper: the meta is on one of the first two pages, the other is zeros.
			got := impl.Restore(impl.DiskNew(90), "x", blobs(s.text(tx, 0, row.root))).Disk
			meta, other := impl.ReadPage(got, "x", tx%2), impl.ReadPage(got, "x", 1-tx%2)
			if want := (impl.Page{Kind: impl.PMeta, Tx: tx, Meta: impl.Meta{Id: 7, Root: row.root, Count: row.count}}); !samePage(impl.DecodePage(meta).Page, want) || !bytes.Equal(other, pageOf(0)) {
				t.Errorf("%s at %d: the meta is %+v", row.what, tx, impl.DecodePage(meta).Page)
			}
		}
	}
}

// All numbers there are: a file of CapMax pages goes through a cache of CacheMax writes.
func TestTheGreatestFile(t *testing.T) {
	s := sheaf{999: stamped(lettersLeaf("ab"), 6)}
	data := putData(s.codes(), 6, impl.Meta{Id: 7, Root: 999, Count: 2})
	if len(data) != impl.CapMax*impl.PageBytes {
		t.Fatalf("the test is wrong: %d bytes", len(data))
	}
	chain := blobs(s.text(6, 0, 999))
	wantPut(t, "page 999", impl.DiskNew(impl.CapMax), chain, data)
	full := withFile(impl.DiskNew(impl.CapMax), fileOf("a", 1))
	got := impl.Restore(full, "x", chain)
	if got.Err != impl.RsFull || len(got.Disk.Cache) != impl.CapMax-1 {
		t.Errorf("beside a page: Err %d, %d writes", got.Err, len(got.Disk.Cache))
	}
	great := bulkStore(t, 2000, 5)
	great.Pins = []impl.Pin{{Id: 1, Tx: 5, Root: great.Meta.Root}}
	b := started(t, great, 1, 0)
	// Every step of a backup looks at the whole store, so the stream is made by hand.
	var frames [][]byte
	for _, num := range b.Left {
		frames = append(frames, pageChunk(num, impl.ReadPage(great.Disk, "f", num)))
	}
	r := impl.Restore(impl.DiskNew(impl.CapMax), "x", blobs(textOf(7, 5, 0, b.Root, int64(len(frames)), frames...)))
	wantRestored(t, "2000 pairs", r, "x", 5, numberedPairs(2000))
}

// Of a page that more than one text has, the last one stands; what no later text has stays, in the tree or not.
func TestPagesToldAgain(t *testing.T) {
	leaf := func(keys string, tx int64) impl.Page { return stamped(lettersLeaf(keys), tx) }
	first := sheaf{2: leaf("cd", 3), 3: leaf("ab", 3), 4: stamped(branchPage(kid("", 3), kid("c", 2)), 3), 8: leaf("z", 2)}
	second := sheaf{2: leaf("cde", 5), 6: stamped(branchPage(kid("", 3), kid("c", 2)), 5)}
	third := sheaf{4: leaf("efg", 6), 6: stamped(branchPage(kid("", 3), kid("e", 4)), 7)}
	chain := blobs(first.text(3, 0, 4), second.text(5, 3, 6), third.text(7, 5, 6))
	for n, row := range []struct {
		pages sheaf
		meta  impl.Meta
		tx    int64
	}{
		{first, impl.Meta{Id: 7, Root: 4, Count: 4}, 3},
		{sheaf{2: second[2], 3: first[3], 4: first[4], 6: second[6], 8: first[8]}, impl.Meta{Id: 7, Root: 6, Count: 5}, 5},
		{sheaf{2: second[2], 3: first[3], 4: third[4], 6: third[6], 8: first[8]}, impl.Meta{Id: 7, Root: 6, Count: 5}, 7},
	} {
		wantPut(t, fmt.Sprint(n+1, " texts"), xDisk(), chain[:n+1], putData(row.pages.codes(), row.tx, row.meta))
	}
	// A text without pages, and one that tells another root of what is there.
	same := blobs(first.text(3, 0, 4), textOf(7, 4, 3, 4, 0), textOf(7, 9, 4, 3, 0))
	wantPut(t, "a text of nothing", xDisk(), same[:2], putData(first.codes(), 4, impl.Meta{Id: 7, Root: 4, Count: 4}))
	wantPut(t, "two texts of nothing", xDisk(), same, putData(first.codes(), 9, impl.Meta{Id: 7, Root: 3, Count: 2}))
	// An earlier root may be no tree any more, or not yet.
	late := blobs(textOf(7, 1, 0, 5, 0), first.text(3, 1, 4), sheaf{4: leaf("q", 8)}.text(8, 3, 4))
	wantPut(t, "a tree only later", xDisk(), late[:2], putData(first.codes(), 3, impl.Meta{Id: 7, Root: 4, Count: 4}))
	wantPut(t, "a root written over", xDisk(), late, putData(first.with(4, leaf("q", 8)).codes(), 8, impl.Meta{Id: 7, Root: 4, Count: 1}))
}

// Trees that are not loaded: RsTree, with At 0, whatever the number of texts.
func TestChainsWithoutATree(t *testing.T) {
	gone := func(s sheaf, num int64) sheaf {
		out := s.with(99, leafPage())
		delete(out, num)
		return out
	}
	for what, row := range map[string]struct {
		pages sheaf
		root  int64
	}{
		"no such root": {smallSheaf(), 9}, "a root behind the end": {smallSheaf(), 999}, "a root in a gap": {smallSheaf().with(30, leafPage()), 20}, "a leaf gone": {gone(smallSheaf(), 2), 4}, "the other leaf gone": {gone(smallSheaf(), 3), 4}, "the root gone": {gone(smallSheaf(), 4), 4},
		"overflow gone": {gone(longSheaf(), 5), 4}, "overflow gone behind": {gone(longSheaf(), 8), 4}, "overflow as a root": {longSheaf(), 5}, "a leaf as overflow": {longSheaf().with(6, leafPage()), 4}, "overflow as a leaf": {longSheaf().with(3, overPage(0, "z")), 4},
		"keys that do not ascend": {smallSheaf().with(2, lettersLeaf("ad")), 4}, "a leaf of one key": {smallSheaf().with(2, lettersLeaf("c")), 4}, "a wrong Sep": {smallSheaf().with(4, branchPage(kid("", 3), kid("d", 2))), 4}, "a page twice": {smallSheaf().with(4, branchPage(kid("", 3), kid("c", 3))), 4},
		"a root of itself": {smallSheaf().with(4, branchPage(kid("", 4), kid("c", 2))), 4}, "a value too long": {longSheaf().with(6, overPage(0, "aaaaa")), 4},
	} {
		for _, d := range []impl.Disk{xDisk(), withFile(xDisk(), fileOf("tmp", 7)), impl.DiskNew(0), {Fuel: 0}} {
			want := impl.RestoreRes{Err: impl.RsTree, Disk: d}
			wantRestoreRes(t, what, impl.Restore(d, "x", blobs(row.pages.text(5, 0, row.root))), want)
			wantRestoreRes(t, what+", on another text", impl.Restore(d, "x", blobs(textOf(7, 1, 0, 2, 1, frameOf(998, stamped(leafPage(), 1))), row.pages.stampedAll(3).text(5, 1, row.root))), want)
			wantRestoreRes(t, what+", in two texts", impl.Restore(d, "x", blobs(row.pages.text(5, 0, row.root), textOf(7, 6, 5, row.root, 0))), want)
		}
	}
	for _, count := range []int{1, 2, 20} {
		chain := blobs(textOf(7, 1, 0, 2, 0))
		for tx := int64(2); tx <= int64(count); tx++ {
			chain = append(chain, blobs(textOf(7, tx, tx-1, 2, 0))...)
		}
		wantRestoreRes(t, fmt.Sprint(count, " texts without pages"), impl.Restore(xDisk(), "x", chain), impl.RestoreRes{Err: impl.RsTree, Disk: xDisk()})
	}
	// A meta page that the disk itself has, or its pages, do not help.
	d := withFile(impl.DiskNew(90), impl.File{Name: "x", Data: smallSheaf().withMeta(3, 4, 4).codes().data()})
	wantRestoreRes(t, "pages on the disk", impl.Restore(d, "x", blobs(sheaf{4: smallSheaf()[4]}.text(5, 0, 4))), impl.RestoreRes{Err: impl.RsTree, Disk: d})
}
