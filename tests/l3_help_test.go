package tests

import (
	"fmt"
	"slices"
	"strconv"
	"strings"
	"testing"

	"loop.example/s02098/impl"
)

// shortVal and longVal are the values that drawn trees have.
func shortVal(key string) string { return "v" + key }

func longVal(key string) string { return strings.Repeat(key, 100) }

// draw makes a tree of its picture: a leaf is its keys, letters all, an inner node its children in brackets; behind a colon stands the page of a node that is not dirty. A ^ behind a key gives it a long value, and a number behind that its Over.
func draw(picture string) impl.Tree {
	p := &painter{rest: picture}
	p.node()
	if p.rest != "" {
		panic("no picture of a tree: " + picture)
	}
	return impl.Tree{Nodes: p.nodes}
}

type painter struct {
	rest  string
	nodes []impl.TNode
}

func (p *painter) next(mark string) bool {
	rest, there := strings.CutPrefix(p.rest, mark)
	p.rest = rest
	return there
}

func (p *painter) number() int64 {
	digits := p.rest[:len(p.rest)-len(strings.TrimLeft(p.rest, "0123456789"))]
	p.rest = p.rest[len(digits):]
	num, _ := strconv.ParseInt(digits, 10, 64)
	return num
}

// node answers with the smallest key of what it drew.
func (p *painter) node() string {
	at := len(p.nodes)
	p.nodes = append(p.nodes, impl.TNode{})
	var n impl.TNode
	var least string
	if p.next("(") {
		for {
			n.Kids = append(n.Kids, int64(len(p.nodes)))
			key := p.node()
			if len(n.Kids) == 1 {
				least = key
			} else {
				n.Keys = append(n.Keys, key)
			}
			if !p.next(" ") {
				break
			}
		}
		if !p.next(")") {
			panic("a bracket is missing before " + p.rest)
		}
	} else {
		n = p.leaf()
		if len(n.Keys) > 0 {
			least = n.Keys[0]
		}
	}
	if p.next(":") {
		n.Page = p.number()
	}
	p.nodes[at] = n
	return least
}

func (p *painter) leaf() impl.TNode {
	n := impl.TNode{Leaf: true}
	for p.rest != "" && !strings.ContainsAny(p.rest[:1], "() :") {
		key := p.rest[:1]
		p.rest = p.rest[1:]
		n.Keys = append(n.Keys, key)
		if p.next("^") {
			n.Vals = append(n.Vals, longVal(key))
			n.Over = append(n.Over, p.number())
		} else {
			n.Vals = append(n.Vals, shortVal(key))
			n.Over = append(n.Over, 0)
		}
	}
	return n
}

// show is the picture of a tree; of one that is not valid it is all its nodes.
func show(t impl.Tree) string {
	if !modelTreeValid(t) || len(t.Nodes) > 60 {
		return fmt.Sprintf("%d nodes %.2000q", len(t.Nodes), fmt.Sprint(t.Nodes))
	}
	return showNode(t, 0)
}

func showNode(t impl.Tree, at int64) string {
	var b strings.Builder
	n := t.Nodes[at]
	for i, key := range n.Keys {
		if n.Leaf {
			b.WriteString(strings.Trim(strconv.Quote(key), `"`))
			if n.Over[i] != 0 {
				fmt.Fprintf(&b, "^%d", n.Over[i])
			} else if len(n.Vals[i]) > impl.InlineMax {
				b.WriteString("^")
			}
		}
	}
	if !n.Leaf {
		var kids []string
		for _, kid := range n.Kids {
			kids = append(kids, showNode(t, kid))
		}
		b.WriteString("(" + strings.Join(kids, " ") + ")")
	}
	if n.Page != 0 {
		fmt.Fprintf(&b, ":%d", n.Page)
	}
	return b.String()
}

// sameTree takes an empty list and nil for the same.
func sameTree(a, b impl.Tree) bool {
	return slices.EqualFunc(a.Nodes, b.Nodes, func(m, n impl.TNode) bool {
		return m.Leaf == n.Leaf && m.Page == n.Page && slices.Equal(m.Keys, n.Keys) &&
			slices.Equal(m.Vals, n.Vals) && slices.Equal(m.Over, n.Over) && slices.Equal(m.Kids, n.Kids)
	})
}

func wantTree(t *testing.T, what string, got, want impl.Tree) {
	t.Helper()
	if !sameTree(got, want) {
		t.Errorf("%s:\n got %s\nwant %s", what, show(got), show(want))
	}
}

func wantTreeRes(t *testing.T, what string, got, want impl.TreeRes) {
	t.Helper()
	if got.Ok != want.Ok {
		t.Errorf("%s: Ok %v", what, got.Ok)
	}
	wantTree(t, what, got.Tree, want.Tree)
}

// cloneTree is a tree of its own, to be spoilt.
func cloneTree(t impl.Tree) impl.Tree {
	var out impl.Tree
	for _, n := range t.Nodes {
		n.Keys, n.Vals = slices.Clone(n.Keys), slices.Clone(n.Vals)
		n.Over, n.Kids = slices.Clone(n.Over), slices.Clone(n.Kids)
		out.Nodes = append(out.Nodes, n)
	}
	return out
}

// changed is the drawn tree with one thing done to it.
func changed(picture string, do func(n []impl.TNode)) impl.Tree {
	t := draw(picture)
	do(t.Nodes)
	return t
}

// numberedPairs ascend: so many, with keys of four digits.
func numberedPairs(count int) []impl.Pair {
	var out []impl.Pair
	for i := range count {
		out = append(out, impl.Pair{Key: fmt.Sprintf("%04d", i), Val: strconv.Itoa(i)})
	}
	return out
}

type namedTree struct {
	what string
	tree impl.Tree
}

func validTrees() []namedTree {
	var rows []namedTree
	for _, picture := range []string{
		"", ":2", ":999", "a", "a:2", "ab", "abc", "abcd", "abcd:999",
		"(ab cd)", "(ab:2 cd):0", "(ab:2 cd:3):4", "(abcd efgh ijkl mnop)", "(ab:9 cd ef:8)",
		"((ab cd) (ef gh))", "((ab:2 cd:3):4 (ef:5 gh))", "((abcd efgh ijkl mnop):0 (qr st))",
		"(((ab cd) (ef gh)) ((ij kl) (mn op)))",
		"a^", "a^b^c^d^", "a^2b^3:4", "(a^2b c^d):0", "(a^2b:3 cd^4:5):6", "a^999:2",
	} {
		rows = append(rows, namedTree{picture, draw(picture)})
	}
	rows = append(rows,
		namedTree{"keys of every length and byte", impl.Tree{Nodes: []impl.TNode{{Leaf: true, Keys: []string{"\x00", "\x00\x00", "\xff", "\xff\xff\xff\xff\xff\xff\xff\xff"}, Vals: make([]string, 4), Over: make([]int64, 4)}}}},
		namedTree{"values of 0, InlineMax, InlineMax+1 and ValMax bytes", impl.Tree{Nodes: []impl.TNode{{Leaf: true, Page: 2, Keys: []string{"a", "b", "c", "d"}, Vals: []string{"", strings.Repeat("x", impl.InlineMax), strings.Repeat("y", impl.InlineMax+1), strings.Repeat("z", impl.ValMax)}, Over: []int64{0, 0, 7, 5}}}}},
		namedTree{"NodeMax nodes", modelBulk(numberedPairs(2996))},
	)
	return rows
}

// wrongTrees has a tree, or more, for each reason that the document names.
func wrongTrees() []namedTree {
	var rows []namedTree
	for _, picture := range []string{
		// Leaves not equally deep.
		"((ab cd) ef)", "(ab (cd ef))", "((ab cd) (ef (gh ij)))", "(((ab cd) (ef gh)) (ij kl))",
		// Keys that do not ascend, in a leaf and from leaf to leaf.
		"ba", "aa", "abcb", "(ab cc)", "(ab bc)", "(cd ab)", "(ac bd)", "((ab cd) (de fg))", "((ab ef) (cd gh))",
		// Too few, too many.
		"abcde", "(a bc)", "(ab c)", "(ab  cd)", "( )", "(abcde fg)", "(ab cdefg)", "(ab)", "(ab cd ef gh ij)", "((ab cd))", "((ab) (cd))", "((ab cd) (ef))", "((ab cd ef gh ij) (kl mn))",
		// Numbers that are none, or stand twice.
		":1", "a:1", "a:1000", "(ab:2 cd:1000)", "(ab:2 cd:2)", "(ab:2 cd:3):2", "((ab:2 cd):0 (ef gh:2))", "a^2b^2", "a^2:2", "(a^2b cd:2)", "(a^2b cd^2)", "a^1", "a^1000", "(a^5b:2 cd:3):5",
		// A node that is not dirty above what stands nowhere.
		"(ab:2 cd):3", "(ab cd:2):3", "((ab:2 cd:3) (ef:4 gh:5):6):7", "((ab:2 cd):3 (ef gh))", "a^:2", "ab^:2", "a^4b^:2", "(ab:2 cd^:3)",
	} {
		rows = append(rows, namedTree{picture, draw(picture)})
	}
	rows = append(rows, misplacedTrees()...)
	rows = append(rows, misfilledTrees()...)
	return append(rows, badNumberTrees()...)
}

// misplacedTrees have their nodes out of order, twice, or not at all.
func misplacedTrees() []namedTree {
	two, four := "(ab cd)", "((ab cd) (ef gh))"
	return []namedTree{
		{"no nodes", impl.Tree{}},
		{"a node beside a leaf", impl.Tree{Nodes: append(draw("ab").Nodes, draw("cd").Nodes...)}},
		{"a node that nothing reaches", impl.Tree{Nodes: append(draw(two).Nodes, draw("ef").Nodes...)}},
		{"a child twice", changed(two, func(n []impl.TNode) { n[0].Kids[1] = 1 })},
		{"children swapped", changed(two, func(n []impl.TNode) { n[0].Kids = []int64{2, 1} })},
		{"children and numbers swapped", changed(two, func(n []impl.TNode) { n[0].Kids, n[1], n[2] = []int64{2, 1}, n[2], n[1] })},
		{"the root as a child", changed(two, func(n []impl.TNode) { n[0].Kids[0] = 0 })},
		{"the root as the last child", changed(two, func(n []impl.TNode) { n[0].Kids[1] = 0 })},
		{"a child that is not there", changed(two, func(n []impl.TNode) { n[0].Kids[1] = 3 })},
		{"a child below zero", changed(two, func(n []impl.TNode) { n[0].Kids[0] = -1 })},
		{"the greatest child", changed(two, func(n []impl.TNode) { n[0].Kids[1] = 1<<63 - 1 })},
		{"the least child", changed(two, func(n []impl.TNode) { n[0].Kids[1] = -1 << 63 })},
		{"a child that wraps round", changed(two, func(n []impl.TNode) { n[0].Kids[1] = 1<<32 + 2 })},
		{"a ring below the root", changed(four, func(n []impl.TNode) { n[1].Kids = []int64{1, 1} })},
		{"a child of another node", changed(four, func(n []impl.TNode) { n[4].Kids = []int64{2, 6} })},
		{"the last node is missing", impl.Tree{Nodes: draw(four).Nodes[:6]}},
		{"the root alone", impl.Tree{Nodes: draw(four).Nodes[:1]}},
		{"level by level", changed(four, func(n []impl.TNode) {
			n[0].Kids, n[1].Kids = []int64{1, 2}, []int64{3, 4}
			n[2], n[3], n[4] = n[4], n[2], n[3]
			n[2].Kids = []int64{5, 6}
		})},
		{"children before their parent", impl.Tree{Nodes: []impl.TNode{draw(two).Nodes[1], draw(two).Nodes[2], draw(two).Nodes[0]}}},
		{"a long row of only children", onlyChildren(impl.NodeMax)},
		{"more than NodeMax nodes", modelBulk(numberedPairs(2997))},
	}
}

func onlyChildren(count int) impl.Tree {
	var t impl.Tree
	for i := range count - 1 {
		t.Nodes = append(t.Nodes, impl.TNode{Kids: []int64{int64(i + 1)}})
	}
	return impl.Tree{Nodes: append(t.Nodes, draw("ab").Nodes...)}
}

// misfilledTrees have lists that their kind of node does not name, or of another length, or Keys of inner nodes that are not the smallest below, or keys and values that are none.
func misfilledTrees() []namedTree {
	two, four := "(ab cd)", "((ab cd) (ef gh))"
	tall := "(((ab cd) (ef gh)) ((ij kl) (mn op)))"
	return []namedTree{
		{"a leaf with Kids", changed("ab", func(n []impl.TNode) { n[0].Kids = []int64{0} })},
		{"a leaf with Kids below", changed(two, func(n []impl.TNode) { n[1].Kids = []int64{2} })},
		{"an empty leaf with Kids", changed("", func(n []impl.TNode) { n[0].Kids = []int64{1} })},
		{"an inner node with Vals", changed(two, func(n []impl.TNode) { n[0].Vals = []string{"v"} })},
		{"an inner node with an empty value", changed(two, func(n []impl.TNode) { n[0].Vals = []string{""} })},
		{"an inner node with Over", changed(two, func(n []impl.TNode) { n[0].Over = []int64{0} })},
		{"an inner node called a leaf", changed(two, func(n []impl.TNode) { n[0].Leaf = true })},
		{"a leaf called an inner node", changed(two, func(n []impl.TNode) { n[2].Leaf = false })},
		{"an empty root that is no leaf", changed("", func(n []impl.TNode) { n[0].Leaf = false })},
		{"too few Vals", changed("ab", func(n []impl.TNode) { n[0].Vals = n[0].Vals[:1] })},
		{"no Vals", changed("ab", func(n []impl.TNode) { n[0].Vals = nil })},
		{"too many Vals", changed("ab", func(n []impl.TNode) { n[0].Vals = append(n[0].Vals, "v") })},
		{"too few Over", changed("ab", func(n []impl.TNode) { n[0].Over = n[0].Over[:1] })},
		{"no Over", changed("ab", func(n []impl.TNode) { n[0].Over = nil })},
		{"too many Over", changed("ab", func(n []impl.TNode) { n[0].Over = append(n[0].Over, 0) })},
		{"Vals of an empty leaf", changed("", func(n []impl.TNode) { n[0].Vals = []string{""} })},
		{"Over of an empty leaf", changed("", func(n []impl.TNode) { n[0].Over = []int64{0} })},
		{"too few Keys", changed(two, func(n []impl.TNode) { n[0].Keys = nil })},
		{"too many Keys", changed(two, func(n []impl.TNode) { n[0].Keys = append(n[0].Keys, "e") })},
		{"a Key between", changed("(ab de)", func(n []impl.TNode) { n[0].Keys[0] = "c" })},
		{"a Key that is the second below", changed(two, func(n []impl.TNode) { n[0].Keys[0] = "d" })},
		{"a Key of the child before", changed(two, func(n []impl.TNode) { n[0].Keys[0] = "b" })},
		{"an empty Key of an inner node", changed(two, func(n []impl.TNode) { n[0].Keys[0] = "" })},
		{"a Key too high up", changed(four, func(n []impl.TNode) { n[0].Keys[0] = "g" })},
		{"a wrong Key low down", changed(four, func(n []impl.TNode) { n[4].Keys[0] = "h" })},
		{"a wrong Key at the very top", changed(tall, func(n []impl.TNode) { n[0].Keys[0] = "k" })},
		{"an empty key", changed("ab", func(n []impl.TNode) { n[0].Keys[0] = "" })},
		{"a lone empty key", changed("a", func(n []impl.TNode) { n[0].Keys[0] = "" })},
		{"a key of nine bytes", changed("ab", func(n []impl.TNode) { n[0].Keys[1] = "bbbbbbbbb" })},
		{"a first key of nine bytes", changed("(ab cd)", func(n []impl.TNode) { n[0].Keys[0], n[2].Keys[0] = "ccccccccc", "ccccccccc" })},
		{"a value of ValMax+1 bytes", changed("ab", func(n []impl.TNode) { n[0].Vals[1] = strings.Repeat("x", impl.ValMax+1) })},
		{"a value of ValMax+1 bytes with Over", changed("ab^9", func(n []impl.TNode) { n[0].Vals[1] = strings.Repeat("x", impl.ValMax+1) })},
		{"a clean value of ValMax+1 bytes", changed("ab^9:2", func(n []impl.TNode) { n[0].Vals[1] = strings.Repeat("x", impl.ValMax+1) })},
	}
}

// badNumberTrees have a Page or an Over that is none, or an Over at a short value.
func badNumberTrees() []namedTree {
	var rows []namedTree
	for _, num := range []int64{-1 << 63, -1000, -2, -1, 1, impl.CapMax, impl.CapMax + 1, 1<<32 + 2, 1<<63 - 1} {
		what := fmt.Sprint(" is ", num)
		rows = append(rows,
			namedTree{"a Page" + what, changed("ab", func(n []impl.TNode) { n[0].Page = num })},
			namedTree{"a Page of an empty leaf" + what, changed("", func(n []impl.TNode) { n[0].Page = num })},
			namedTree{"a Page below" + what, changed("(ab cd)", func(n []impl.TNode) { n[2].Page = num })},
			namedTree{"a Page of an inner node" + what, changed("(ab:2 cd:3)", func(n []impl.TNode) { n[0].Page = num })},
			namedTree{"an Over" + what, changed("ab^", func(n []impl.TNode) { n[0].Over[1] = num })},
			namedTree{"a clean Over" + what, changed("ab^3:2", func(n []impl.TNode) { n[0].Over[1] = num })})
	}
	for _, size := range []int{0, 1, impl.InlineMax - 1, impl.InlineMax} {
		for _, page := range []int64{0, 3} {
			rows = append(rows, namedTree{fmt.Sprint("an Over at ", size, " bytes, page ", page), changed("ab^2", func(n []impl.TNode) {
				n[0].Page, n[0].Vals[1] = page, strings.Repeat("x", size)
			})})
		}
	}
	return rows
}
