package tests

import (
	"fmt"
	"slices"
	"strings"
	"testing"

	"loop.example/s02098/impl"
)

func zeroPlaced(p impl.Placed) bool {
	return len(p.Tree.Nodes) == 0 && len(p.Pages) == 0 && len(p.Nums) == 0
}

func TestPlaceRows(t *testing.T) {
	for _, row := range []struct {
		before string
		taken  []int64
		after  string
		nums   []int64
	}{
		{"", nil, ":2", []int64{2}},
		{":7", nil, ":7", nil},
		{"(abc def gh)", nil, "(abc:2 def:3 gh:4):5", []int64{2, 3, 4, 5}},
		{"(abc:2 def gh:4)", nil, "(abc:2 def:3 gh:4):5", []int64{3, 5}},
		{"(abc:9 def gh:3)", []int64{2, 5, 5, -1, 0, 1, 1000, 1<<63 - 1}, "(abc:9 def:4 gh:3):6", []int64{4, 6}},
		{"((ab cd:9):0 (ef:3 gh:4):5)", nil, "((ab:2 cd:9):6 (ef:3 gh:4):5):7", []int64{2, 6, 7}},
		{"((ab:2 cd:3):4 (ef gh))", nil, "((ab:2 cd:3):4 (ef:5 gh:6):7):8", []int64{5, 6, 7, 8}},
		{"a^b^c", nil, "a^2b^4c:6", []int64{2, 3, 4, 5, 6}},
		{"a^b^5c^", []int64{3}, "a^2b^5c^6:8", []int64{2, 4, 6, 7, 8}},
		{"(a^9b:8 c^7d)", []int64{2}, "(a^9b:8 c^7d:3):4", []int64{3, 4}},
	} {
		got := impl.Place(draw(row.before), 4, row.taken)
		wantTree(t, row.before, got.Tree, draw(row.after))
		if !slices.Equal(got.Nums, row.nums) || len(got.Pages) != len(row.nums) {
			t.Errorf("%s: %d, %d pages", row.before, got.Nums, len(got.Pages))
		}
	}
}

func TestPlacedPages(t *testing.T) {
	val := strings.Repeat("x", 96) + strings.Repeat("y", 96) + "z"
	x := draw("(ab^30 cd^)")
	x.Nodes[2].Vals[1] = val
	got := impl.Place(x, 77, []int64{3})
	want := []impl.Page{
		leafPage(short("a", "va"), long("b", 30, 100)),
		overPage(5, val[:96]), overPage(6, val[96:192]), overPage(0, "z"),
		leafPage(short("c", "vc"), long("d", 4, 193)),
		branchPage(impl.Kid{Page: 2}, impl.Kid{Sep: "c", Page: 7}),
	}
	if !slices.Equal(got.Nums, []int64{2, 4, 5, 6, 7, 8}) || len(got.Pages) != len(want) {
		t.Fatalf("%d, %d pages", got.Nums, len(got.Pages))
	}
	for i, p := range want {
		if !samePage(got.Pages[i], stamped(p, 77)) {
			t.Errorf("page %d: %+v", i, got.Pages[i])
		}
	}
}

func TestPlaceRefusals(t *testing.T) {
	for _, row := range wrongTrees() {
		if got := impl.Place(row.tree, 1, nil); !zeroPlaced(got) {
			t.Errorf("%s: %+v", row.what, got)
		}
	}
	for tx, ok := range map[int64]int{-1: 0, 0: 0, 1: 1, impl.NumMax: 1, impl.NumMax + 1: 0} {
		if got := impl.Place(draw("ab"), tx, nil); zeroPlaced(got) != (ok == 0) {
			t.Errorf("stamp %d: %+v", tx, got)
		}
	}
	var all []int64
	for num := int64(2); num < impl.CapMax; num++ {
		all = append(all, num)
	}
	for _, row := range []struct {
		picture string
		need    int
	}{{"ab", 1}, {"(ab cd)", 3}, {"a^b", 3}, {"a^b^", 5}, {"(ab cd^)", 5}} {
		for room := range row.need + 2 {
			if got := impl.Place(draw(row.picture), 1, all[room:]); zeroPlaced(got) != (room < row.need) {
				t.Errorf("%s with room for %d: %d", row.picture, room, got.Nums)
			}
			if got := impl.Place(draw(row.picture), 1, all[:len(all)-room]); zeroPlaced(got) != (room < row.need) {
				t.Errorf("%s with room for %d at the end: %d", row.picture, room, got.Nums)
			}
		}
	}
	wantTree(t, "nothing is dirty and nothing free", impl.Place(draw("a^9b:5"), 1, all).Tree, draw("a^9b:5"))
}

// wantNumbers asks for what the document says of the numbers, whatever the pages are: each was free, and the smallest free one.
func wantNumbers(t *testing.T, what string, x impl.Tree, taken []int64, got impl.Placed) {
	t.Helper()
	used := standing(x)
	for _, num := range taken {
		used[num]++
	}
	dirty := 0
	for _, n := range x.Nodes {
		if n.Page == 0 {
			dirty++
		}
		for i, over := range n.Over {
			if size := len(n.Vals[i]); over == 0 && size > impl.InlineMax {
				dirty += (size + impl.OverBytes - 1) / impl.OverBytes
			}
		}
	}
	if len(got.Nums) != dirty || len(got.Pages) != dirty {
		t.Errorf("%s: %d numbers, %d pages for %d that are dirty", what, len(got.Nums), len(got.Pages), dirty)
	}
	smallest := int64(2)
	for _, num := range got.Nums {
		for used[smallest] > 0 {
			smallest++
		}
		if num != smallest || num >= impl.CapMax {
			t.Errorf("%s: %d was given, %d was free", what, num, smallest)
		}
		used[num]++
	}
}

// wantOrder goes through the pages in the order in which they were given: what a page names stood before it or was given before it.
func wantOrder(t *testing.T, what string, got impl.Placed) {
	t.Helper()
	at := map[int64]int{}
	for i, num := range got.Nums {
		at[num] = i + 1
	}
	for i, p := range got.Pages {
		here := i + 1
		if p.Kind == impl.POver && p.Next != 0 && at[p.Next] != here+1 {
			t.Errorf("%s: the piece behind page %d is not the next", what, got.Nums[i])
		}
		for _, e := range p.Ents {
			if at[e.Over] >= here {
				t.Errorf("%s: leaf %d ahead of a value of it", what, got.Nums[i])
			}
		}
		last := 0
		for _, k := range p.Kids {
			if kid := at[k.Page]; kid > 0 {
				if kid >= here || kid <= last {
					t.Errorf("%s: the children of %d are not ahead of it, from left to right", what, got.Nums[i])
				}
				last = kid
			}
		}
	}
}

func TestPlacedNumbers(t *testing.T) {
	r := newDice(41)
	for i := range 600 {
		x := r.tree(int(r.pick(0, 1, 5, 20, 60)))
		taken := r.takenList()
		got := impl.Place(x, 5, taken)
		what := fmt.Sprint("round ", i)
		wantNumbers(t, what, x, taken, got)
		wantOrder(t, what, got)
		for j, p := range got.Pages {
			if p.Tx != 5 || len(impl.EncodePage(p)) == 0 {
				t.Errorf("%s: number %d of %+v", what, got.Nums[j], p)
			}
		}
		if !impl.ValidTree(got.Tree) || !slices.Equal(modelPairs(got.Tree), modelPairs(x)) {
			t.Errorf("%s: %s", what, show(got.Tree))
		}
		wantKept(t, what, got.Tree, x)
		if again := impl.Place(got.Tree, 6, taken); len(again.Nums) > 0 || !sameTree(again.Tree, got.Tree) {
			t.Errorf("%s: placed twice: %d", what, again.Nums)
		}
		if t.Failed() {
			t.Fatalf("%s, taken %d", show(x), taken)
		}
	}
}
