package tests

import (
	"strings"
	"testing"

	"loop.example/s02098/impl"
)

func TestTreeMemory(t *testing.T) {
	rows := append(validTrees(), wrongTrees()...)
	for _, row := range append(putRows, delRows...) {
		rows = append(rows, namedTree{row.before, draw(row.before)})
	}
	r := newDice(36)
	for range 150 {
		x := r.tree(r.Intn(30))
		rows = append(rows, namedTree{"random", x}, namedTree{"spoilt", r.spoiltTree(x)})
	}
	for _, row := range rows {
		if len(row.tree.Nodes) > 100 {
			continue
		}
		callCleanly(t, "ValidTree at "+row.what, impl.ValidTree, row.tree)
		for _, key := range []string{"a", "e", "g", "k", "zz", "", r.keyOf(row.tree), r.keyOf(row.tree)} {
			callCleanly(t, "TreePut at "+row.what, impl.TreePut, row.tree, key, "val")
			callCleanly(t, "TreePut of a long value at "+row.what, impl.TreePut, row.tree, key, strings.Repeat("v", 401))
			callCleanly(t, "TreeDel at "+row.what, impl.TreeDel, row.tree, key)
			callCleanly(t, "TreeGet at "+row.what, impl.TreeGet, row.tree, key)
			callCleanly(t, "TreeScan at "+row.what, impl.TreeScan, row.tree, key, "")
		}
		callCleanly(t, "TreeScan at "+row.what, impl.TreeScan, row.tree, "", "e")
		callCleanly(t, "TreeBulk at "+row.what, impl.TreeBulk, modelPairs(row.tree))
	}
	callCleanly(t, "TreeNew", impl.TreeNew)
	full := modelBulk(numberedPairs(2996))
	callCleanly(t, "a full tree", impl.TreePut, full, "z", "v")
}

// Trees that are made twice share nothing: what is done to one is not seen in the other.
func TestTreesAreApart(t *testing.T) {
	a, b := impl.TreeNew(), impl.TreeNew()
	a.Nodes[0].Page = 9
	if b.Nodes[0].Page != 0 || impl.TreeNew().Nodes[0].Page != 0 {
		t.Error("TreeNew is handed out twice")
	}
}
