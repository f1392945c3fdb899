package tests

import (
	"fmt"
	"testing"

	"loop.example/s02098/impl"
)

// numberedMeta tells by its Meta which stamp it had.
func numberedMeta(tx int64) impl.Page { return stamped(metaPage(tx, 2, tx), tx) }

func wantMeta(t *testing.T, what string, d impl.Disk, name string, tx int64) {
	t.Helper()
	want := impl.MetaRes{}
	if tx > 0 {
		want = impl.MetaRes{Ok: true, Tx: tx, Meta: impl.Meta{Id: tx, Root: 2, Count: tx}}
	}
	if got := impl.ReadMeta(d, name); got != want {
		t.Errorf("%s: %+v, want %+v", what, got, want)
	}
}

func TestReadMetaRows(t *testing.T) {
	for _, row := range []struct {
		even, odd, want int64
	}{
		{2, 1, 2}, {2, 3, 3}, {4, 3, 4}, {4, 5, 5}, {6, 1, 6}, {2, 999, 999}, {256, 255, 256}, {256, 257, 257}, {65536, 65535, 65536}, {1<<24 + 2, 3, 1<<24 + 2}, {4, 1<<24 + 1, 1<<24 + 1},
		{impl.NumMax, impl.NumMax - 1, impl.NumMax}, {2, impl.NumMax - 1, impl.NumMax - 1}, {impl.NumMax - 2, impl.NumMax - 1, impl.NumMax - 1}, {impl.NumMax, 1, impl.NumMax},
		{2, 0, 2}, {impl.NumMax, 0, impl.NumMax}, {0, 1, 1}, {0, 3, 3}, {0, 0, 0},
		// On the wrong page: it holds no meta.
		{1, 0, 0}, {3, 0, 0}, {0, 2, 0}, {0, impl.NumMax, 0}, {5, 4, 0}, {3, 2, 0}, {9, 1, 1}, {2, 8, 2}, {1, 1, 1}, {2, 2, 2},
	} {
		c := codes{0: make([]byte, impl.PageBytes), 1: make([]byte, impl.PageBytes)}
		if row.even > 0 {
			c[0] = modelNew(numberedMeta(row.even))
		}
		if row.odd > 0 {
			c[1] = modelNew(numberedMeta(row.odd))
		}
		what := fmt.Sprint(row.even, " and ", row.odd)
		wantMeta(t, what, c.disk(), "f", row.want)
		wantMeta(t, what+" in the cache alone", c.cached(), "f", row.want)
		wantMeta(t, what+" with a tree behind", c.with(2, modelNew(stamped(leafPage(), 9))).disk(), "f", row.want)
		wantMeta(t, what+" in another file", c.disk(), "g", 0)
		dead := c.disk()
		dead.Dead, dead.Fuel = true, 0
		wantMeta(t, what+" on a dead disk", dead, "f", row.want)
		alone := c.disk()
		alone.Files[0].Data = alone.Files[0].Data[:impl.PageBytes]
		if row.even%2 == 1 {
			row.even = 0
		}
		wantMeta(t, what+", one page alone", alone, "f", row.even)
		alone.Cache = []impl.Pend{{Name: "f", Page: 1, Data: c[1]}}
		wantMeta(t, what+", the second page in the cache", alone, "f", row.want)
	}
}

func TestReadMetaOfWrongPages(t *testing.T) {
	metas := sheaf{0: numberedMeta(8), 1: numberedMeta(7)}.codes()
	for what, b := range notACode() {
		wantMeta(t, what+" on page 0", metas.with(0, b).disk(), "f", 7)
		wantMeta(t, what+" on page 1", metas.with(1, b).disk(), "f", 8)
		wantMeta(t, what+" on both", metas.with(0, b).with(1, b).disk(), "f", 0)
		hidden := metas.disk()
		hidden.Cache = []impl.Pend{{Name: "f", Page: 0, Data: b}}
		wantMeta(t, what+" in the cache over page 0", hidden, "f", 7)
	}
	for _, p := range []impl.Page{leafPage(), lettersLeaf("ab"), branchPage(kid("", 2), kid("c", 3)), overPage(0, "z")} {
		wantMeta(t, fmt.Sprint("kind ", p.Kind, " on page 0"), metas.with(0, modelNew(stamped(p, 10))).disk(), "f", 7)
		wantMeta(t, fmt.Sprint("kind ", p.Kind, " on page 1"), metas.with(1, modelNew(stamped(p, 11))).disk(), "f", 8)
	}
	// An old meta, or one with a wrong mark, is no code of the new format.
	old := modelOld(metaPage(9, 2, 9))
	wantMeta(t, "an old meta", metas.with(0, old).disk(), "f", 7)
	unmarked := framed(10, impl.PMeta, 0, []byte("\x0a\x00\x00\x00\x02\x00\x00\x00\x0a\x00\x00\x00COW1"))
	wantMeta(t, "another mark", metas.with(0, unmarked).disk(), "f", 7)
	torn := append(modelNew(numberedMeta(10))[:64:64], metas[0][64:]...)
	wantMeta(t, "a torn meta", metas.with(0, torn).disk(), "f", 7)
	wantMeta(t, "a meta on page 2", metas.with(0, old).with(1, old).with(2, modelNew(numberedMeta(8))).disk(), "f", 0)
	newer := metas.disk()
	newer.Cache = []impl.Pend{{Name: "f", Page: 1, Data: modelNew(numberedMeta(9))}, {Name: "f", Page: 0, Data: modelNew(numberedMeta(6))}}
	wantMeta(t, "newer metas in the cache", newer, "f", 9)
	for _, name := range append([]string{"e", "g", "ff"}, noNames...) {
		wantMeta(t, fmt.Sprintf("file %q", name), metas.disk(), name, 0)
	}
	wantMeta(t, "no files", impl.DiskNew(9), "f", 0)
}

func TestReadMetaOnInvalidDisks(t *testing.T) {
	d := sheaf{0: numberedMeta(8), 1: numberedMeta(7)}.disk()
	wantMeta(t, "a valid disk", d, "f", 8)
	small, spent, late := d, d, d
	small.Cap, spent.Fuel = 1, -2
	late.Cache = []impl.Pend{pendOf("f", 3, 0)}
	for _, bad := range []impl.Disk{small, spent, late} {
		wantMeta(t, "a disk that is not valid", bad, "f", 0)
	}
	for _, row := range invalidDisks() {
		wantMeta(t, row.what, row.disk, "a", 0)
	}
}
