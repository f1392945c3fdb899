package tests

import (
	"testing"

	"loop.example/s02098/impl"
)

func TestPagerMemory(t *testing.T) {
	rows := append(validTrees(), wrongTrees()...)
	r := newDice(47)
	for range 60 {
		x := r.tree(r.Intn(30))
		rows = append(rows, namedTree{"random", x}, namedTree{"spoilt", r.spoiltTree(x)})
	}
	for _, row := range rows {
		if len(row.tree.Nodes) > 100 {
			continue
		}
		callCleanly(t, "Place at "+row.what, impl.Place, row.tree, int64(7), r.takenList())
		callCleanly(t, "Place without a stamp at "+row.what, impl.Place, row.tree, int64(0), r.takenList())
		if modelTreeValid(row.tree) {
			callCleanly(t, "Place without room at "+row.what, impl.Place, row.tree, int64(7), r.leaving(row.tree, 0))
		}
	}
	for range 60 {
		x := r.paged(r.tree(r.Intn(20)))
		d, root := r.onDisk(r.sheaf(x)), x.Nodes[0].Page
		callCleanly(t, "LoadTree", impl.LoadTree, d, "f", root)
		callCleanly(t, "LoadTree of no root", impl.LoadTree, d, "f", int64(1))
		callCleanly(t, "LoadTree from page 0 on", impl.LoadTree, r.onDisk(r.sheaf(x).moved(root, 0)), "f", int64(0))
		callCleanly(t, "LoadTree of no file", impl.LoadTree, d, "g", root)
		callCleanly(t, "LoadTree of a spoilt disk", impl.LoadTree, r.spoilt(d), "f", root)
		callCleanly(t, "ReadMeta", impl.ReadMeta, d, "f")
		callCleanly(t, "ReadMeta of a spoilt disk", impl.ReadMeta, r.spoilt(d), "f")
	}
	for _, row := range append(validDisks(), invalidDisks()...) {
		callCleanly(t, "LoadTree at "+row.what, impl.LoadTree, row.disk, "a", int64(2))
		callCleanly(t, "ReadMeta at "+row.what, impl.ReadMeta, row.disk, "a")
	}
	metas := sheaf{0: numberedMeta(8), 1: numberedMeta(7), 2: leafPage()}
	callCleanly(t, "ReadMeta of two", impl.ReadMeta, metas.disk(), "f")
}

// What is done to one answer is not seen in the next: nothing is kept between calls.
func TestAnswersOfThePagerAreApart(t *testing.T) {
	d := longSheaf().disk()
	first := impl.LoadTree(d, "f", 4)
	for _, n := range first.Tree.Nodes {
		clear(n.Keys)
		clear(n.Vals)
		clear(n.Over)
		clear(n.Kids)
	}
	clear(first.Pages)
	wantLoad(t, "after a change to the answer before", d, 4, draw("(a^5b:3 c^7d:2):4"), []int64{2, 3, 4, 5, 6, 7, 8})
	x, taken := draw("(a^b cd)"), []int64{3}
	placed := impl.Place(x, 1, taken)
	for _, p := range placed.Pages {
		clear(p.Kids)
		clear(p.Ents)
	}
	clear(placed.Nums)
	clear(placed.Tree.Nodes)
	if !samePlaced(impl.Place(x, 1, taken), modelPlace(x, 1, taken)) {
		t.Error("Place hands out what it gave before")
	}
}
