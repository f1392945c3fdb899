package tests

import (
	"fmt"
	"slices"
	"strings"
	"testing"

	"loop.example/s02098/impl"
)

func TestTreeNew(t *testing.T) {
	got := impl.TreeNew()
	wantTree(t, "TreeNew", got, impl.Tree{Nodes: []impl.TNode{{Leaf: true}}})
	if !impl.ValidTree(got) {
		t.Error("TreeNew is not valid")
	}
}

func TestValidTree(t *testing.T) {
	for _, row := range validTrees() {
		if !impl.ValidTree(row.tree) || !modelTreeValid(row.tree) {
			t.Errorf("%s: ValidTree %v, the model %v", row.what, impl.ValidTree(row.tree), modelTreeValid(row.tree))
		}
	}
	for _, row := range wrongTrees() {
		if impl.ValidTree(row.tree) || modelTreeValid(row.tree) {
			t.Errorf("%s: ValidTree %v, the model %v", row.what, impl.ValidTree(row.tree), modelTreeValid(row.tree))
		}
	}
}

func TestWrongTreesAreNeitherReadNorChanged(t *testing.T) {
	for _, row := range wrongTrees() {
		for _, key := range []string{"a", "b", "e", "zz", "", "ninechars"} {
			wantTreeRes(t, "put at "+row.what, impl.TreePut(row.tree, key, "v"), impl.TreeRes{Tree: row.tree})
			wantTreeRes(t, "del at "+row.what, impl.TreeDel(row.tree, key), impl.TreeRes{Tree: row.tree})
			if got := impl.TreeGet(row.tree, key); got != (impl.GetRes{}) {
				t.Errorf("get of %q at %s: %+v", key, row.what, got)
			}
			if got := impl.TreeScan(row.tree, key, ""); len(got) != 0 {
				t.Errorf("scan from %q at %s: %+v", key, row.what, got)
			}
		}
	}
}

// treeRow is a step on a drawn tree; the value that is put is the one that draw gives the key, long where the key has a ^.
type treeRow struct{ before, key, after string }

func valOf(key string) (string, string) {
	if k, long := strings.CutSuffix(key, "^"); long {
		return k, longVal(k)
	}
	return key, shortVal(key)
}

var putRows = []treeRow{
	{"", "a", "a"},
	{":7", "a", "a"},
	{"a:2", "b", "ab"},
	{"b:2", "a", "ab"},
	{"abc", "d", "abcd"},
	// A key that is there: its leaf and all above it, even if the value stays.
	{"abcd:2", "c", "abcd"},
	{"(ab:2 cd:3):4", "d", "(ab:2 cd)"},
	{"((ab:2 cd:3):4 (ef:5 gh:6):7):8", "e", "((ab:2 cd:3):4 (ef gh:6))"},
	// Which leaf a new key goes to.
	{"(bc:2 fg:3):4", "a", "(abc fg:3)"},
	{"(bc:2 fg:3):4", "d", "(bcd fg:3)"},
	{"(bc:2 fg:3):4", "e", "(bce fg:3)"},
	{"(bc:2 fg:3):4", "h", "(bc:2 fgh)"},
	{"((cd:2 fg:3):4 (jk:5 mn:6):7):8", "a", "((acd fg:3) (jk:5 mn:6):7)"},
	{"((cd:2 fg:3):4 (jk:5 mn:6):7):8", "i", "((cd:2 fgi) (jk:5 mn:6):7)"},
	{"((cd:2 fg:3):4 (jk:5 mn:6):7):8", "l", "((cd:2 fg:3):4 (jkl mn:6))"},
	{"((cd:2 fg:3):4 (jk:5 mn:6):7):8", "z", "((cd:2 fg:3):4 (jk:5 mnz))"},
	// A leaf of five, wherever the new key stands in it; as the root, and below one.
	{"bcde:2", "a", "(abc de)"},
	{"acde:2", "b", "(abc de)"},
	{"abde:2", "c", "(abc de)"},
	{"abce:2", "d", "(abc de)"},
	{"abcd:2", "e", "(abc de)"},
	{"(abcd:2 gh:3):4", "e", "(abc de gh:3)"},
	{"(ab:2 cdef:3 gh:5):4", "g", "(ab:2 cdef:3 gh)"},
	{"(ab:2 cdeg:3 hi:5):4", "f", "(ab:2 cde fg hi:5)"},
	{"(ab:2 defg:3):4", "h", "(ab:2 def gh)"},
	// A node of five children: the root, and one below it.
	{"(abcd:2 gh:3 ij:4 kl:5):6", "e", "((abc de gh:3) (ij:4 kl:5))"},
	{"(ab:2 cdef:3 ij:4 kl:5):6", "g", "((ab:2 cde fg) (ij:4 kl:5))"},
	{"(ab:2 cd:3 efgh:4 kl:5):6", "i", "((ab:2 cd:3 efg) (hi kl:5))"},
	{"(ab:2 cd:3 ef:4 ghij:5):6", "k", "((ab:2 cd:3 ef:4) (ghi jk))"},
	{"((ab:2 cd:3 ef:4 ghij:5):6 (mn:7 op:8):9):10", "k", "((ab:2 cd:3 ef:4) (ghi jk) (mn:7 op:8):9)"},
	{"((ab:2 cd:3):4 (ef:5 gh:6 ij:7 klmn:8):9 (qr:10 st:11):12):13", "o", "((ab:2 cd:3):4 (ef:5 gh:6 ij:7) (klm no) (qr:10 st:11):12)"},
	{"((AB:2 CD:3):4 (EF:5 GH:6):7 (IJ:8 KL:9):10 (MN:11 OP:12 QR:13 STUV:14):15):16", "W",
		"(((AB:2 CD:3):4 (EF:5 GH:6):7 (IJ:8 KL:9):10) ((MN:11 OP:12 QR:13) (STU VW)))"},
	// Only the leaf is parted where its parent has room.
	{"((ab:2 cd:3 efgh:4):5 (mn:7 op:8):9):10", "i", "((ab:2 cd:3 efg hi) (mn:7 op:8):9)"},
	// Values: what moves keeps its Over, what is put has none.
	{"a^2b^3c^4d^5:6", "e", "(a^2b^3c^4 d^5e)"},
	{"a^2b^3d^4e^5:6", "c^", "(a^2b^3c^ d^4e^5)"},
	{"ab^2:3", "b", "ab"},
	{"ab^2:3", "b^", "ab^"},
	{"ab:3", "b^", "ab^"},
	{"ab^2", "b^", "ab^"},
	{"(a^2b:3 c^4d:5):6", "b", "(a^2b c^4d:5)"},
}

func TestTreePutRows(t *testing.T) {
	for _, row := range putRows {
		before := draw(row.before)
		key, val := valOf(row.key)
		what := row.before + " and " + row.key
		wantTreeRes(t, what, impl.TreePut(before, key, val), impl.TreeRes{Ok: true, Tree: draw(row.after)})
		wantTreeRes(t, what+" in the model", modelTreePut(before, key, val), impl.TreeRes{Ok: true, Tree: draw(row.after)})
	}
}

var delRows = []treeRow{
	{"a", "a", ""},
	{"a:5", "a", ""},
	{"ab:5", "a", "b"},
	{"abcd:5", "c", "abd"},
	// Enough is left.
	{"(abc:2 de:3):4", "b", "(ac de:3)"},
	{"(ab:2 cde:3):4", "c", "(ab:2 de)"},
	{"((abc:2 de:3):4 (fg:5 hi:6):7):8", "a", "((bc de:3) (fg:5 hi:6):7)"},
	// The smallest key below a child of the root goes: the Keys above follow.
	{"((ab:2 de:3):4 (fgh:5 ij:6):7):8", "f", "((ab:2 de:3):4 (gh ij:6))"},
	// The left neighbour gives, with three and with four, even if the right one could.
	{"(abc:2 de:3):4", "d", "(ab ce)"},
	{"(abcd:2 ef:3):4", "f", "(abc de)"},
	{"(abc:2 de:3 fghi:5):4", "e", "(ab cd fghi:5)"},
	{"(ab:2 cde:3 fg:5):4", "f", "(ab:2 cd eg)"},
	// The right neighbour gives: there is no left one, or it has but two.
	{"(ab:2 cde:3):4", "a", "(bc de)"},
	{"(ab:2 cdef:3):4", "b", "(ac def)"},
	{"(ab:2 cd:3 efg:5):4", "c", "(ab:2 de fg)"},
	{"(ab:2 cd:3 efgh:5 ij:6):4", "d", "(ab:2 ce fgh ij:6)"},
	// Joined with the left one, though there is a right one; with the right one, as there is no left one.
	{"(ab:2 cd:3 ef:5):4", "c", "(abd ef:5)"},
	{"(ab:2 cd:3 ef:5):4", "d", "(abc ef:5)"},
	{"(ab:2 cd:3 ef:5):4", "f", "(ab:2 cde)"},
	{"(ab:2 cd:3 ef:5):4", "a", "(bcd ef:5)"},
	{"(ab:2 cd:3 ef:5):4", "b", "(acd ef:5)"},
	// Further neighbours do not count.
	{"(ab:2 cd:3 efgh:5):4", "a", "(bcd efgh:5)"},
	{"(abcd:2 ef:3 gh:5):4", "h", "(abcd:2 efg)"},
	// A root with one child gives way.
	{"(ab:2 cd:3):4", "a", "bcd"},
	{"(ab:2 cd:3):4", "d", "abc"},
	// Cousins under another parent are no neighbours.
	{"((ab:2 cdef:3):4 (gh:5 ij:6):7 (kl:8 mn:9):10):11", "g", "((ab:2 cdef:3 hij) (kl:8 mn:9):10)"},
	// Inner nodes: the left one gives, the right one gives, joined with the left one, with the right one.
	{"((ab:2 cd:3 ef:4):5 (gh:6 ij:7):8):9", "g", "((ab:2 cd:3) (ef:4 hij))"},
	{"((ab:2 cd:3 ef:4):5 (gh:6 ij:7):8 (kl:10 mn:11 op:12):13):9", "g", "((ab:2 cd:3) (ef:4 hij) (kl:10 mn:11 op:12):13)"},
	{"((ab:2 cd:3 ef:4 gh:5):6 (ij:7 kl:8):9):10", "l", "((ab:2 cd:3 ef:4) (gh:5 ijk))"},
	{"((ab:2 cd:3):5 (ef:4 gh:6 ij:7):8):9", "a", "((bcd ef:4) (gh:6 ij:7))"},
	{"((ab:2 cd:3):4 (ef:5 gh:6):7 (ij:8 kl:9 mn:12):10):11", "f", "((ab:2 cd:3):4 (egh ij:8) (kl:9 mn:12))"},
	{"((ab:2 cd:3):4 (ef:5 gh:6):7 (ij:8 kl:9):10):11", "e", "((ab:2 cd:3 fgh) (ij:8 kl:9):10)"},
	{"((ab:2 cd:3):4 (ef:5 gh:6):7 (ij:8 kl:9):10):11", "l", "((ab:2 cd:3):4 (ef:5 gh:6 ijk))"},
	{"((ab:2 cd:3):4 (ef:5 gh:6):7 (ij:8 kl:9):10):11", "a", "((bcd ef:5 gh:6) (ij:8 kl:9):10)"},
	{"((ab:2 cd:3):4 (ef:5 gh:6):7):8", "h", "(ab:2 cd:3 efg)"},
	{"((ab:2 cd:3):4 (ef:5 gh:6):7):8", "b", "(acd ef:5 gh:6)"},
	// All the way up.
	{"(((ab:2 cd:3):4 (ef:5 gh:6):7):8 ((ij:9 kl:10):11 (mn:12 op:13):14):15):16", "p", "((ab:2 cd:3):4 (ef:5 gh:6):7 (ij:9 kl:10 mno))"},
	// The leaf is mended without its parent.
	{"((ab:2 cde:3):4 (fg:5 hi:6):7):8", "a", "((bc de) (fg:5 hi:6):7)"},
	// Values that move keep their Over.
	{"(abc^9:2 de^8:3):4", "d", "(ab c^9e^8)"},
	{"(ab^9:2 c^8de:3):4", "a", "(b^9c^8 de)"},
	{"(a^9b:2 cd^8:3):4", "c", "a^9bd^8"},
	{"(a^9b^:0 cd^8:3):0", "c", "a^9b^d^8"},
}

func TestTreeDelRows(t *testing.T) {
	for _, row := range delRows {
		before := draw(row.before)
		what := row.before + " less " + row.key
		wantTreeRes(t, what, impl.TreeDel(before, row.key), impl.TreeRes{Ok: true, Tree: draw(row.after)})
		wantTreeRes(t, what+" in the model", modelTreeDel(before, row.key), impl.TreeRes{Ok: true, Tree: draw(row.after)})
	}
}

func TestTreeRefusals(t *testing.T) {
	for _, row := range validTrees() {
		for _, key := range []string{"", "ninechars", strings.Repeat("k", 300)} {
			wantTreeRes(t, fmt.Sprintf("put of %q at %s", key, row.what), impl.TreePut(row.tree, key, "v"), impl.TreeRes{Tree: row.tree})
			wantTreeRes(t, fmt.Sprintf("del of %q at %s", key, row.what), impl.TreeDel(row.tree, key), impl.TreeRes{Tree: row.tree})
			if got := impl.TreeGet(row.tree, key); got != (impl.GetRes{}) {
				t.Errorf("get of %q at %s: %+v", key, row.what, got)
			}
		}
		long := strings.Repeat("v", impl.ValMax+1)
		wantTreeRes(t, "a value too long at "+row.what, impl.TreePut(row.tree, "a", long), impl.TreeRes{Tree: row.tree})
		wantTreeRes(t, "a new value too long at "+row.what, impl.TreePut(row.tree, "new", long), impl.TreeRes{Tree: row.tree})
		for _, key := range []string{"\x01", "aa", "bb", "zz", "a\x00", "\xff\xff\xff"} {
			wantTreeRes(t, fmt.Sprintf("del of %q, which is not there, at %s", key, row.what), impl.TreeDel(row.tree, key), impl.TreeRes{Tree: row.tree})
			if got := impl.TreeGet(row.tree, key); got != (impl.GetRes{}) {
				t.Errorf("get of %q, which is not there, at %s: %+v", key, row.what, got)
			}
		}
	}
}

func TestTreeKeysAndValuesAtTheEdges(t *testing.T) {
	keys := []string{"\x00", "\x00\x00", "a", "a\x00", "aa", "b", "bbbbbbbb", "\x80", "\xff", "\xff\xff\xff\xff\xff\xff\xff\xff"}
	for _, size := range []int{0, 1, impl.InlineMax, impl.InlineMax + 1, impl.OverBytes, impl.ValMax} {
		x := impl.TreeNew()
		val := strings.Repeat("\x00", size)
		for i := range keys {
			key := keys[(i*7+3)%len(keys)]
			got := impl.TreePut(x, key, val)
			if !got.Ok || !impl.ValidTree(got.Tree) || impl.TreeGet(got.Tree, key) != (impl.GetRes{Ok: true, Val: val}) {
				t.Errorf("%q with %d bytes: %v %s", key, size, got.Ok, show(got.Tree))
			}
			x = got.Tree
		}
		var order []string
		for _, p := range impl.TreeScan(x, "", "") {
			order = append(order, p.Key)
		}
		if !slices.Equal(order, keys) {
			t.Errorf("the order of keys: %q", order)
		}
	}
}

func TestTreeGetAndScan(t *testing.T) {
	bounds := []string{"", "\x00", "a", "b", "b\x00", "c", "d", "e", "f", "g", "gg", "h", "i", "j", "k", "kk", "l", "ninechars", "\xff"}
	for _, picture := range []string{"", "b", "bd", "bdfh", "(bd fh)", "(bd^2 fh:3)", "((bd fh) (ij^kl no))"} {
		x := draw(picture)
		pairs := modelPairs(x)
		for _, lo := range bounds {
			want := impl.GetRes{}
			for _, p := range pairs {
				if p.Key == lo {
					want = impl.GetRes{Ok: true, Val: p.Val}
				}
			}
			if got := impl.TreeGet(x, lo); got != want {
				t.Errorf("get of %q in %s: %+v", lo, picture, got)
			}
			for _, hi := range bounds {
				if got := impl.TreeScan(x, lo, hi); !slices.Equal(got, modelScan(pairs, lo, hi)) {
					t.Errorf("scan of %q..%q in %s: %v", lo, hi, picture, got)
				}
			}
		}
	}
}

// An empty value that is there is told from a key that is not.
func TestTreeEmptyValue(t *testing.T) {
	x := impl.TreePut(impl.TreeNew(), "k", "").Tree
	if impl.TreeGet(x, "k") != (impl.GetRes{Ok: true}) || impl.TreeGet(x, "j").Ok {
		t.Errorf("%+v %+v", impl.TreeGet(x, "k"), impl.TreeGet(x, "j"))
	}
}

func TestTreeOfNodeMaxNodes(t *testing.T) {
	full := modelBulk(numberedPairs(2996))
	if len(full.Nodes) != impl.NodeMax {
		t.Fatalf("%d nodes", len(full.Nodes))
	}
	for _, key := range []string{"0", "0000a", "1500a", "2995a", "z"} {
		wantTreeRes(t, "a node too many by "+key, impl.TreePut(full, key, "v"), impl.TreeRes{Tree: full})
	}
	same := impl.TreePut(full, "1500", "new")
	if !same.Ok || len(same.Tree.Nodes) != impl.NodeMax || impl.TreeGet(same.Tree, "1500").Val != "new" {
		t.Errorf("a value set anew: %v", same.Ok)
	}
	less := impl.TreeDel(full, "1501")
	if !less.Ok || impl.TreeGet(less.Tree, "1501").Ok {
		t.Fatalf("a key less: %v", less.Ok)
	}
	back := impl.TreePut(less.Tree, "1501a", "v")
	if !back.Ok || len(back.Tree.Nodes) != impl.NodeMax {
		t.Errorf("a key in the room that is left: %v", back.Ok)
	}
}

// The last node that a tree may have is given, the next one is not.
func TestTreeFillsUpToNodeMax(t *testing.T) {
	x := modelBulk(numberedPairs(2900))
	counts := map[int]int{}
	refused := 0
	for i := 0; i < 400 && (refused == 0 || counts[impl.NodeMax] == 0); i++ {
		key := fmt.Sprintf("%04da", i*7)
		got, want := impl.TreePut(x, key, "v"), modelTreePut(x, key, "v")
		wantTreeRes(t, key, got, want)
		if t.Failed() {
			return
		}
		x = got.Tree
		counts[len(x.Nodes)]++
		if !got.Ok {
			refused++
		}
	}
	if counts[impl.NodeMax] == 0 || refused == 0 || !impl.ValidTree(x) {
		t.Errorf("NodeMax nodes %d times, refused %d times", counts[impl.NodeMax], refused)
	}
}
