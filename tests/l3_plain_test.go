package tests

import (
	"slices"
	"sort"

	"loop.example/s02098/impl"
)

// plainNode is a node of the model, which does what the document says of a put and of a deletion step by step, along the path.
type plainNode struct {
	leaf bool
	page int64
	ents []plainEnt
	kids []*plainNode
}

type plainEnt struct {
	key, val string
	over     int64
}

func (n *plainNode) count() int {
	if n.leaf {
		return len(n.ents)
	}
	return len(n.kids)
}

func (n *plainNode) smallest() string {
	for !n.leaf {
		n = n.kids[0]
	}
	return n.ents[0].key
}

// plainOf asks for a valid tree.
func plainOf(t impl.Tree, at int64) *plainNode {
	n := t.Nodes[at]
	out := &plainNode{leaf: n.Leaf, page: n.Page}
	for i := range n.Vals {
		out.ents = append(out.ents, plainEnt{n.Keys[i], n.Vals[i], n.Over[i]})
	}
	for _, kid := range n.Kids {
		out.kids = append(out.kids, plainOf(t, kid))
	}
	return out
}

func plainTree(root *plainNode) impl.Tree {
	n := impl.TNode{Leaf: root.leaf, Page: root.page}
	for _, e := range root.ents {
		n.Keys, n.Vals, n.Over = append(n.Keys, e.key), append(n.Vals, e.val), append(n.Over, e.over)
	}
	out := impl.Tree{Nodes: []impl.TNode{n}}
	for i, kid := range root.kids {
		shift := int64(len(out.Nodes))
		if i > 0 {
			out.Nodes[0].Keys = append(out.Nodes[0].Keys, kid.smallest())
		}
		out.Nodes[0].Kids = append(out.Nodes[0].Kids, shift)
		for _, below := range plainTree(kid).Nodes {
			for j := range below.Kids {
				below.Kids[j] += shift
			}
			out.Nodes = append(out.Nodes, below)
		}
	}
	return out
}

// plainPath goes from the root to the key's leaf.
func plainPath(root *plainNode, key string) []*plainNode {
	path := []*plainNode{root}
	for n := root; !n.leaf; {
		next := n.kids[0]
		for _, kid := range n.kids[1:] {
			if kid.smallest() > key {
				break
			}
			next = kid
		}
		path = append(path, next)
		n = next
	}
	return path
}

func modelTreePut(t impl.Tree, key, val string) impl.TreeRes {
	refusal := impl.TreeRes{Tree: t}
	if !modelTreeValid(t) || len(key) == 0 || len(key) > impl.KeyMax || len(val) > impl.ValMax {
		return refusal
	}
	root := plainOf(t, 0)
	path := plainPath(root, key)
	for _, n := range path {
		n.page = 0
	}
	l := path[len(path)-1]
	l.ents = slices.DeleteFunc(l.ents, func(e plainEnt) bool { return e.key == key })
	l.ents = append(l.ents, plainEnt{key: key, val: val})
	sort.Slice(l.ents, func(i, j int) bool { return l.ents[i].key < l.ents[j].key })
	for i := len(path) - 1; i >= 0 && path[i].count() == 5; i-- {
		n := path[i]
		right := &plainNode{leaf: n.leaf}
		if n.leaf {
			n.ents, right.ents = n.ents[:3:3], n.ents[3:]
		} else {
			n.kids, right.kids = n.kids[:3:3], n.kids[3:]
		}
		if i == 0 {
			root = &plainNode{kids: []*plainNode{n, right}}
		} else {
			above := path[i-1]
			above.kids = slices.Insert(above.kids, slices.Index(above.kids, n)+1, right)
		}
	}
	after := plainTree(root)
	if len(after.Nodes) > impl.NodeMax {
		return refusal
	}
	return impl.TreeRes{Ok: true, Tree: after}
}

func modelTreeDel(t impl.Tree, key string) impl.TreeRes {
	if !modelTreeValid(t) {
		return impl.TreeRes{Tree: t}
	}
	root := plainOf(t, 0)
	path := plainPath(root, key)
	l := path[len(path)-1]
	had := len(l.ents)
	l.ents = slices.DeleteFunc(l.ents, func(e plainEnt) bool { return e.key == key })
	if len(l.ents) == had {
		return impl.TreeRes{Tree: t}
	}
	for _, n := range path {
		n.page = 0
	}
	for i := len(path) - 1; i > 0; i-- {
		if path[i].count() < 2 {
			plainMend(path[i-1], path[i])
		}
	}
	if !root.leaf && len(root.kids) == 1 {
		root = root.kids[0]
	}
	return impl.TreeRes{Ok: true, Tree: plainTree(root)}
}

func plainMend(above, n *plainNode) {
	at := slices.Index(above.kids, n)
	var left, right *plainNode
	if at > 0 {
		left = above.kids[at-1]
	}
	if at+1 < len(above.kids) {
		right = above.kids[at+1]
	}
	switch {
	case left != nil && left.count() > 2:
		left.page = 0
		if n.leaf {
			last := len(left.ents) - 1
			n.ents = append([]plainEnt{left.ents[last]}, n.ents...)
			left.ents = left.ents[:last]
		} else {
			last := len(left.kids) - 1
			n.kids = append([]*plainNode{left.kids[last]}, n.kids...)
			left.kids = left.kids[:last]
		}
	case right != nil && right.count() > 2:
		right.page = 0
		if n.leaf {
			n.ents, right.ents = append(n.ents, right.ents[0]), right.ents[1:]
		} else {
			n.kids, right.kids = append(n.kids, right.kids[0]), right.kids[1:]
		}
	case left != nil:
		plainJoin(above, left, n)
	default:
		plainJoin(above, n, right)
	}
}

func plainJoin(above, left, right *plainNode) {
	left.page = 0
	left.ents = append(left.ents, right.ents...)
	left.kids = append(left.kids, right.kids...)
	above.kids = slices.DeleteFunc(above.kids, func(n *plainNode) bool { return n == right })
}

// modelTreeValid goes through what the document asks for, sentence by sentence, over the list of nodes.
func modelTreeValid(t impl.Tree) bool {
	count := len(t.Nodes)
	if count < 1 || count > impl.NodeMax {
		return false
	}
	for i, n := range t.Nodes {
		if !modelNodeFilled(n, i == 0) {
			return false
		}
	}
	depth, ok := modelDepths(t)
	if !ok {
		return false
	}
	var keys []string
	first := -1
	for i, n := range t.Nodes {
		if n.Leaf {
			if first < 0 {
				first = depth[i]
			}
			if depth[i] != first {
				return false
			}
			keys = append(keys, n.Keys...)
		}
	}
	for i, k := range keys {
		if i > 0 && keys[i-1] >= k {
			return false
		}
	}
	return modelSeparators(t) && modelNumbers(t) && modelClean(t)
}

func modelNodeFilled(n impl.TNode, root bool) bool {
	if !n.Leaf {
		return len(n.Kids) >= 2 && len(n.Kids) <= 4 && len(n.Keys) == len(n.Kids)-1 && len(n.Vals)+len(n.Over) == 0
	}
	if len(n.Keys) > 4 || len(n.Keys) < 2 && !root || len(n.Vals) != len(n.Keys) || len(n.Over) != len(n.Keys) || len(n.Kids) != 0 {
		return false
	}
	for i, k := range n.Keys {
		if len(k) < 1 || len(k) > impl.KeyMax || len(n.Vals[i]) > impl.ValMax {
			return false
		}
	}
	return true
}

// modelDepths walks with a list of what is still to come: the next node must stand next.
func modelDepths(t impl.Tree) ([]int, bool) {
	type todo struct {
		num   int64
		depth int
	}
	var depths []int
	next := []todo{{0, 0}}
	for len(next) > 0 {
		at := next[0]
		next = next[1:]
		if at.num != int64(len(depths)) || at.num >= int64(len(t.Nodes)) {
			return nil, false
		}
		depths = append(depths, at.depth)
		var kids []todo
		for _, kid := range t.Nodes[at.num].Kids {
			kids = append(kids, todo{kid, at.depth + 1})
		}
		next = append(kids, next...)
	}
	return depths, len(depths) == len(t.Nodes)
}

// modelSeparators relies on the order: the first leaf from a child on is the first one below it.
func modelSeparators(t impl.Tree) bool {
	for _, n := range t.Nodes {
		for i, kid := range n.Kids {
			at := kid
			for !t.Nodes[at].Leaf {
				at++
			}
			if i > 0 && n.Keys[i-1] != t.Nodes[at].Keys[0] {
				return false
			}
		}
	}
	return true
}

func modelNumbers(t impl.Tree) bool {
	stands := map[int64]int{}
	for _, n := range t.Nodes {
		for _, num := range append([]int64{n.Page}, n.Over...) {
			if num != 0 && (num < 2 || num > impl.CapMax-1) {
				return false
			}
			stands[num]++
		}
	}
	for num, times := range stands {
		if num != 0 && times > 1 {
			return false
		}
	}
	return true
}

func modelClean(t impl.Tree) bool {
	for _, n := range t.Nodes {
		for i, over := range n.Over {
			long := len(n.Vals[i]) > impl.InlineMax
			if over != 0 && !long || over == 0 && long && n.Page != 0 {
				return false
			}
		}
		for _, kid := range n.Kids {
			if n.Page != 0 && t.Nodes[kid].Page == 0 {
				return false
			}
		}
	}
	return true
}

// modelLevel parts so many into nodes as TreeBulk does.
func modelLevel(count int) []int {
	if count <= 4 {
		return []int{count}
	}
	var out []int
	for range count / 4 {
		out = append(out, 4)
	}
	switch count % 4 {
	case 1:
		out = append(out[:len(out)-1], 3, 2)
	case 2, 3:
		out = append(out, count%4)
	}
	return out
}

func modelBulk(pairs []impl.Pair) impl.Tree {
	var level []*plainNode
	at := 0
	for _, size := range modelLevel(len(pairs)) {
		l := &plainNode{leaf: true}
		for _, p := range pairs[at : at+size] {
			l.ents = append(l.ents, plainEnt{p.Key, p.Val, 0})
		}
		at += size
		level = append(level, l)
	}
	for len(level) > 1 {
		var above []*plainNode
		for _, size := range modelLevel(len(level)) {
			above = append(above, &plainNode{kids: level[:size]})
			level = level[size:]
		}
		level = above
	}
	return plainTree(level[0])
}

// modelPairs are those of a tree, as its list of nodes has them; of one that is not valid, what looks like pairs.
func modelPairs(t impl.Tree) []impl.Pair {
	var out []impl.Pair
	for _, n := range t.Nodes {
		for i := range min(len(n.Keys), len(n.Vals)) {
			out = append(out, impl.Pair{Key: n.Keys[i], Val: n.Vals[i]})
		}
	}
	return out
}

func modelScan(pairs []impl.Pair, lo, hi string) []impl.Pair {
	var out []impl.Pair
	for _, p := range pairs {
		if p.Key >= lo && (len(hi) == 0 || p.Key < hi) {
			out = append(out, p)
		}
	}
	return out
}
