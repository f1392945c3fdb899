package tests

import (
	"fmt"
	"maps"
	"slices"
	"strings"
	"testing"

	"loop.example/s02098/impl"
)

func (r dice) value() string {
	sizes := []int{0, 1, impl.InlineMax, impl.InlineMax + 1, impl.OverBytes, impl.OverBytes + 1, impl.ValMax, r.Intn(impl.ValMax + 1)}
	if r.Intn(2) == 0 {
		return r.text(0, impl.InlineMax)
	}
	size := sizes[r.Intn(len(sizes))]
	return r.text(size, size)
}

// share is a number from 2 to 4 that leaves no one alone.
func (r dice) share(count int) int {
	for {
		if n := 2 + r.Intn(3); n == count || n <= count-2 {
			return n
		}
	}
}

// tree has so many pairs in a shape of its own, and pages for some of its nodes, for all, or for none.
func (r dice) tree(count int) impl.Tree {
	var ents []plainEnt
	for _, k := range r.keys(count) {
		ents = append(ents, plainEnt{key: k, val: r.value()})
	}
	var level []*plainNode
	for len(ents) > 1 {
		n := r.share(len(ents))
		level = append(level, &plainNode{leaf: true, ents: slices.Clone(ents[:n])})
		ents = ents[n:]
	}
	if len(level) == 0 {
		level = []*plainNode{{leaf: true, ents: ents}}
	}
	for len(level) > 1 {
		var above []*plainNode
		for len(level) > 0 {
			n := r.share(len(level))
			above = append(above, &plainNode{kids: slices.Clone(level[:n])})
			level = level[n:]
		}
		level = above
	}
	numbers := r.Perm(impl.CapMax - 2)
	r.settle(level[0], &numbers, r.pick(0, 50, 90, 100))
	return plainTree(level[0])
}

// settle gives pages with the given chance in a hundred, from the leaves upwards.
func (r dice) settle(n *plainNode, numbers *[]int, chance int64) {
	next := func() int64 {
		if len(*numbers) == 0 {
			return 0
		}
		num := (*numbers)[0] + 2
		*numbers = (*numbers)[1:]
		return int64(num)
	}
	clean := r.Int63n(100) < chance
	for i := range n.ents {
		e := &n.ents[i]
		if len(e.val) > impl.InlineMax && (clean || r.Intn(3) == 0) {
			e.over = next()
			clean = clean && e.over != 0
		}
	}
	for _, kid := range n.kids {
		r.settle(kid, numbers, chance)
		clean = clean && kid.page != 0
	}
	if clean {
		n.page = next()
	}
}

// spoiltTree changes something somewhere; it may still be right.
func (r dice) spoiltTree(t impl.Tree) impl.Tree {
	t = cloneTree(t)
	n := &t.Nodes[r.Intn(len(t.Nodes))]
	other := t.Nodes[r.Intn(len(t.Nodes))]
	number := r.pick(-1, 0, 0, 1, 2, 3, 999, 1000, other.Page, other.Page, r.number(), 1<<63-1, -1<<63)
	text := []string{"", "a", "\xff", "ninechars", r.text(1, 8), strings.Repeat("v", int(r.pick(8, 9, 400, 401)))}[r.Intn(6)]
	switch r.Intn(12) {
	case 0:
		n.Page = number
	case 1:
		if len(n.Over) > 0 {
			n.Over[r.Intn(len(n.Over))] = number
		}
	case 2:
		if len(n.Keys) > 0 {
			n.Keys[r.Intn(len(n.Keys))] = text
		}
	case 3:
		if len(n.Vals) > 0 {
			n.Vals[r.Intn(len(n.Vals))] = text
		}
	case 4:
		if len(n.Kids) > 0 {
			n.Kids[r.Intn(len(n.Kids))] += r.pick(-1, 1, 2, 1<<32, -1<<63)
		}
	case 5:
		n.Leaf = !n.Leaf
	case 6:
		at := r.Intn(len(t.Nodes))
		t.Nodes = slices.Delete(t.Nodes, at, at+1)
	case 7:
		t.Nodes = slices.Insert(t.Nodes, r.Intn(len(t.Nodes)+1), cloneTree(impl.Tree{Nodes: []impl.TNode{other}}).Nodes[0])
	case 8:
		a, b := r.Intn(len(t.Nodes)), r.Intn(len(t.Nodes))
		t.Nodes[a], t.Nodes[b] = t.Nodes[b], t.Nodes[a]
	case 9:
		r.cutList(n)
	case 10:
		r.growList(n, text, number)
	case 11:
		if len(n.Keys) > 1 {
			n.Keys[0], n.Keys[1] = n.Keys[1], n.Keys[0]
		}
	}
	return t
}

func (r dice) cutList(n *impl.TNode) {
	switch {
	case n.Leaf && r.Intn(2) == 0 && len(n.Keys) > 0:
		last := len(n.Keys) - 1
		n.Keys, n.Vals, n.Over = n.Keys[:last], n.Vals[:last], n.Over[:last]
	case len(n.Over) > 0 && r.Intn(2) == 0:
		n.Over = n.Over[1:]
	case len(n.Vals) > 0:
		n.Vals = n.Vals[1:]
	case len(n.Keys) > 0:
		n.Keys = n.Keys[1:]
	}
}

func (r dice) growList(n *impl.TNode, text string, number int64) {
	switch r.Intn(5) {
	case 0:
		n.Keys = append(n.Keys, text)
	case 1:
		n.Vals = append(n.Vals, text)
	case 2:
		n.Over = append(n.Over, number)
	case 3:
		n.Kids = append(n.Kids, number)
	case 4:
		n.Keys, n.Vals, n.Over = append(n.Keys, text), append(n.Vals, text), append(n.Over, 0)
	}
}

// keyOf is often a key of the tree, or one close to it.
func (r dice) keyOf(t impl.Tree) string {
	pairs := modelPairs(t)
	if len(pairs) == 0 || r.Intn(4) == 0 {
		return r.text(0, impl.KeyMax+1)
	}
	key := pairs[r.Intn(len(pairs))].Key
	if r.Intn(4) == 0 {
		return key + "\x00"
	}
	return key
}

// wholeNodes tells for every page of a valid tree the node on it with all that is below.
func wholeNodes(t impl.Tree) map[int64]string {
	out := map[int64]string{}
	var whole func(at int64) string
	whole = func(at int64) string {
		n := t.Nodes[at]
		text := fmt.Sprintf("%v %d %q %q %d", n.Leaf, n.Page, n.Keys, n.Vals, n.Over)
		for _, kid := range n.Kids {
			text += " [" + whole(kid) + "]"
		}
		if n.Page != 0 {
			out[n.Page] = text
		}
		return text
	}
	whole(0)
	return out
}

// wantKept holds the nodes of an answer against those of the tree before: what is not dirty stood there, wholly.
func wantKept(t *testing.T, what string, before, after impl.Tree) {
	t.Helper()
	had := wholeNodes(before)
	for page, text := range wholeNodes(after) {
		if had[page] != text {
			t.Errorf("%s: page %d is\n%s, and was\n%s", what, page, text, had[page])
		}
	}
	values := map[int64]string{}
	for _, n := range before.Nodes {
		for i, over := range n.Over {
			values[over] = n.Keys[i] + "=" + n.Vals[i]
		}
	}
	for _, n := range after.Nodes {
		for i, over := range n.Over {
			if over != 0 && values[over] != n.Keys[i]+"="+n.Vals[i] {
				t.Errorf("%s: Over %d is another value's", what, over)
			}
		}
	}
}

func checkTree(t *testing.T, what string, x impl.Tree, key, val string) {
	t.Helper()
	valid := modelTreeValid(x)
	if impl.ValidTree(x) != valid {
		t.Errorf("%s: ValidTree %v", what, !valid)
	}
	put, del := impl.TreePut(x, key, val), impl.TreeDel(x, key)
	wantTreeRes(t, what+" put", put, modelTreePut(x, key, val))
	wantTreeRes(t, what+" del", del, modelTreeDel(x, key))
	if put.Ok {
		wantKept(t, what+" put", x, put.Tree)
	}
	if del.Ok {
		wantKept(t, what+" del", x, del.Tree)
	}
	if put.Ok && !impl.ValidTree(put.Tree) || del.Ok && !impl.ValidTree(del.Tree) {
		t.Errorf("%s: not valid any more", what)
	}
	var pairs []impl.Pair
	if valid {
		pairs = modelPairs(x)
	}
	want := impl.GetRes{}
	for _, p := range pairs {
		if p.Key == key {
			want = impl.GetRes{Ok: true, Val: p.Val}
		}
	}
	if got := impl.TreeGet(x, key); got != want {
		t.Errorf("%s: get %+v", what, got)
	}
	for _, ends := range [][2]string{{"", ""}, {key, ""}, {"", key}, {key, key + "\x00"}, {key, val}} {
		if got := impl.TreeScan(x, ends[0], ends[1]); !slices.Equal(got, modelScan(pairs, ends[0], ends[1])) {
			t.Errorf("%s: scan %q: %v", what, ends, got)
		}
	}
}

func TestTreesAreTheModel(t *testing.T) {
	r := newDice(3)
	counts := map[string]int{}
	for i := range 6000 {
		x := r.tree(int(r.pick(0, 1, 2, 3, 4, 5, 6, 9, 12, 20, 60, r.Int63n(150))))
		if r.Intn(3) == 0 {
			x = r.spoiltTree(x)
		}
		key, val := r.keyOf(x), r.value()
		if r.Intn(30) == 0 {
			val = strings.Repeat("v", impl.ValMax+1)
		}
		checkTree(t, fmt.Sprint("round ", i), x, key, val)
		counts[fmt.Sprint("valid ", impl.ValidTree(x))]++
		counts[fmt.Sprint("put ", impl.TreePut(x, key, val).Ok)]++
		counts[fmt.Sprint("del ", impl.TreeDel(x, key).Ok)]++
		if t.Failed() {
			t.Fatalf("%s\nkey %q val %d bytes", show(x), key, len(val))
		}
	}
	// The dice must have thrown every answer, or the comparison tells little.
	for _, what := range []string{"valid true", "valid false", "put true", "put false", "del true", "del false"} {
		if counts[what] < 500 {
			t.Errorf("%s only %d times", what, counts[what])
		}
	}
}

// paged is a tree whose nodes all stand on pages.
func (r dice) paged(t impl.Tree) impl.Tree {
	root := plainOf(t, 0)
	numbers := r.Perm(impl.CapMax - 2)
	used := map[int]int{}
	for _, n := range t.Nodes {
		used[int(n.Page)-2] = 1
		for _, over := range n.Over {
			used[int(over)-2] = 1
		}
	}
	numbers = slices.DeleteFunc(numbers, func(n int) bool { return used[n] == 1 })
	var fill func(n *plainNode)
	fill = func(n *plainNode) {
		next := func(num *int64) {
			if *num == 0 {
				*num, numbers = int64(numbers[0]+2), numbers[1:]
			}
		}
		for i := range n.ents {
			if len(n.ents[i].val) > impl.InlineMax {
				next(&n.ents[i].over)
			}
		}
		for _, kid := range n.kids {
			fill(kid)
		}
		next(&n.page)
	}
	fill(root)
	return plainTree(root)
}

// A long life of one tree beside an ordered map: it grows, shrinks to nothing, and grows again; now and then all of it gets pages.
func TestTreeIsAnOrderedMap(t *testing.T) {
	for seed := range int64(9) {
		r := newDice(300 + seed)
		x := impl.TreeNew()
		truth := map[string]string{}
		keys := r.keys(int(r.pick(6, 20, 70)))
		for i := range 400 {
			what := fmt.Sprint("seed ", seed, " turn ", i)
			key, val := keys[r.Intn(len(keys))], r.value()
			_, there := truth[key]
			growing := i%200 < 90
			var got, want impl.TreeRes
			if r.Intn(5) == 0 != growing {
				got, want = impl.TreePut(x, key, val), modelTreePut(x, key, val)
				truth[key] = val
				there = true
			} else {
				got, want = impl.TreeDel(x, key), modelTreeDel(x, key)
				delete(truth, key)
			}
			if got.Ok != there || !impl.ValidTree(got.Tree) {
				t.Errorf("%s: Ok %v, valid %v", what, got.Ok, impl.ValidTree(got.Tree))
			}
			wantTreeRes(t, what, got, want)
			wantKept(t, what, x, got.Tree)
			wantPairs(t, what, got.Tree, truth, keys)
			if t.Failed() {
				t.Fatalf("%s", show(x))
			}
			x = got.Tree
			if r.Intn(6) == 0 {
				x = r.paged(x)
			}
		}
	}
}

func wantPairs(t *testing.T, what string, x impl.Tree, truth map[string]string, keys []string) {
	t.Helper()
	var pairs []impl.Pair
	for _, key := range slices.Sorted(maps.Keys(truth)) {
		pairs = append(pairs, impl.Pair{Key: key, Val: truth[key]})
	}
	for i, lo := range keys {
		val, there := truth[lo]
		if got := impl.TreeGet(x, lo); got != (impl.GetRes{Ok: there, Val: val}) {
			t.Errorf("%s: get %q: %+v", what, lo, got)
		}
		hi := keys[len(keys)-1-i]
		if i%5 == 0 && !slices.Equal(impl.TreeScan(x, lo, hi), modelScan(pairs, lo, hi)) {
			t.Errorf("%s: scan %q..%q", what, lo, hi)
		}
	}
	for _, ends := range [][2]string{{"", ""}, {"\x00", "\xff"}, {keys[0], ""}, {"", keys[0]}, {"", keys[len(keys)-1]}} {
		if got := impl.TreeScan(x, ends[0], ends[1]); !slices.Equal(got, modelScan(pairs, ends[0], ends[1])) {
			t.Errorf("%s: scan %q: %v", what, ends, got)
		}
	}
}

// Every key of a paged tree is once put anew and once deleted: just those nodes lose their pages that the document names.
func TestDirtyNodes(t *testing.T) {
	r := newDice(33)
	for i := range 60 {
		x := r.paged(r.tree(1 + r.Intn(70)))
		for _, p := range modelPairs(x) {
			what := fmt.Sprintf("tree %d key %q", i, p.Key)
			put := impl.TreePut(x, p.Key, p.Val).Tree
			wantKept(t, what+" put", x, put)
			onPath := map[int64]string{}
			for _, n := range plainPath(plainOf(x, 0), p.Key) {
				onPath[n.page] = "dirty"
			}
			after := wholeNodes(put)
			for page := range wholeNodes(x) {
				if (after[page] == "") != (onPath[page] == "dirty") {
					t.Errorf("%s: page %d on the path: %q", what, page, onPath[page])
				}
			}
			del := impl.TreeDel(x, p.Key)
			wantTreeRes(t, what+" del", del, modelTreeDel(x, p.Key))
			wantKept(t, what+" del", x, del.Tree)
			if t.Failed() {
				t.Fatalf("%s", show(x))
			}
		}
	}
}
