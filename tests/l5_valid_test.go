package tests

import (
	"fmt"
	"slices"
	"testing"

	"loop.example/s02098/impl"
)

// wantValid holds the answer against the model, too, and asks that Do and View follow it.
func wantValid(t *testing.T, what string, s impl.Store, valid bool) {
	t.Helper()
	if impl.ValidStore(s) != valid || modelValidStore(s) != valid {
		t.Errorf("%s: ValidStore %v, the model %v, want %v: %s", what, impl.ValidStore(s), modelValidStore(s), valid, tellStore(s))
	}
	// A Kind that is none shows the store as it is, or as nothing.
	got := impl.Do(s, impl.Op{Kind: 99})
	if valid {
		wantStoreRes(t, what, got, impl.StoreRes{Code: impl.StBad, Store: s})
	} else {
		wantStoreRes(t, what, got, impl.StoreRes{})
		wantNoView(t, what, s, 0)
	}
}

// changedStore is a copy with one thing done to it.
func changedStore(s impl.Store, change func(s *impl.Store)) impl.Store {
	s.Disk.Files, s.Disk.Cache = modelCopy(s.Disk.Files), slices.Clone(s.Disk.Cache)
	for i, p := range s.Disk.Cache {
		s.Disk.Cache[i].Data = slices.Clone(p.Data)
	}
	s.Tree, s.Txn, s.Pins = cloneTree(s.Tree), cloneTree(s.Txn), slices.Clone(s.Pins)
	change(&s)
	return s
}

// Every single field of a store with a transaction and pins is changed in turn.
func TestOneFieldOfAStore(t *testing.T) {
	base := run(t, created(t, 60), "b +a *b +c +d +e c p b +f c p b +g *h -a")
	wantValid(t, "the store", base, true)
	for _, row := range []struct {
		what   string
		change func(s *impl.Store)
		valid  bool
	}{
		{"the zero store", func(s *impl.Store) { *s = impl.Store{} }, false},
		{"no disk", func(s *impl.Store) { s.Disk = impl.Disk{} }, false},
		{"an empty disk", func(s *impl.Store) { s.Disk = impl.DiskNew(60) }, false},
		{"a dead disk", func(s *impl.Store) { s.Disk.Dead = true }, false},
		{"a disk that is not valid", func(s *impl.Store) { s.Disk.Fuel = -2 }, false},
		{"less room than pages", func(s *impl.Store) { s.Disk.Cap = impl.PageCount(s.Disk, "f") - 1 }, false},
		{"no more room than pages", func(s *impl.Store) { s.Disk.Cap = impl.PageCount(s.Disk, "f") }, true},
		{"no fuel", func(s *impl.Store) { s.Disk.Fuel = 0 }, true},
		{"the file under another name", func(s *impl.Store) { s.Disk.Files[0].Name = "g" }, false},
		{"another file beside it", func(s *impl.Store) { s.Disk.Files = append(s.Disk.Files, fileOf("g", 1)) }, true},
		{"a page more", func(s *impl.Store) { s.Disk.Files[0].Data = append(s.Disk.Files[0].Data, pageOf(1)...) }, true},
		{"the pages of the disk gone", func(s *impl.Store) { s.Disk.Files[0].Data = s.Disk.Files[0].Data[:3*impl.PageBytes] }, false},
		{"a newer meta on the disk", func(s *impl.Store) {
			meta := stamped(impl.Page{Kind: impl.PMeta, Meta: s.Meta}, s.Tx+2)
			s.Disk = impl.WritePage(s.Disk, "f", s.Tx%2, modelNew(meta)).Disk
		}, false},
		{"the same meta once more in the cache", func(s *impl.Store) {
			s.Disk = impl.WritePage(s.Disk, "f", s.Tx%2, impl.ReadPage(s.Disk, "f", s.Tx%2)).Disk
		}, true},
		{"the meta before gone", func(s *impl.Store) {
			s.Disk = impl.WritePage(s.Disk, "f", (s.Tx+1)%2, pageOf(0)).Disk
		}, true},
		{"no name", func(s *impl.Store) { s.Name = "" }, false},
		{"another name", func(s *impl.Store) { s.Name = "g" }, false},
		{"a name that is none", func(s *impl.Store) { s.Name = "F" }, false},
		{"Tx one more", func(s *impl.Store) { s.Tx++ }, false},
		{"Tx one less", func(s *impl.Store) { s.Tx-- }, false},
		{"Tx 0", func(s *impl.Store) { s.Tx = 0 }, false},
		{"another Id", func(s *impl.Store) { s.Meta.Id++ }, false},
		{"another Root", func(s *impl.Store) { s.Meta.Root = s.Pins[0].Root }, false},
		{"another Count", func(s *impl.Store) { s.Meta.Count-- }, false},
		{"no tree", func(s *impl.Store) { s.Tree = impl.Tree{} }, false},
		{"an empty tree", func(s *impl.Store) { s.Tree = impl.TreeNew() }, false},
		{"another key in the tree", func(s *impl.Store) { s.Tree.Nodes[1].Keys[1] = "bb" }, false},
		{"another value in the tree", func(s *impl.Store) { s.Tree.Nodes[1].Vals[0] = "other" }, false},
		{"another long value in the tree", func(s *impl.Store) { s.Tree.Nodes[1].Vals[1] = longVal("x") }, false},
		{"another Over in the tree", func(s *impl.Store) { s.Tree.Nodes[1].Over[1] = 50 }, false},
		{"another Page in the tree", func(s *impl.Store) { s.Tree.Nodes[1].Page = 50 }, false},
		{"a dirty root in the tree", func(s *impl.Store) { s.Tree.Nodes[0].Page = 0 }, false},
		{"a node less in the tree", func(s *impl.Store) { s.Tree.Nodes = s.Tree.Nodes[:len(s.Tree.Nodes)-1] }, false},
		{"a node more in the tree", func(s *impl.Store) { s.Tree.Nodes = append(s.Tree.Nodes, impl.TNode{Leaf: true}) }, false},
		{"a leaf of the tree called none", func(s *impl.Store) { s.Tree.Nodes[1].Leaf = false }, false},
		{"other Kids in the tree", func(s *impl.Store) { s.Tree.Nodes[0].Kids[1]++ }, false},
		{"another Key of an inner node of the tree", func(s *impl.Store) { s.Tree.Nodes[0].Keys[0] += "x" }, false},
		{"empty lists instead of none", func(s *impl.Store) { s.Tree.Nodes[0].Vals, s.Tree.Nodes[1].Kids = []string{}, []int64{} }, true},
		{"the transaction's tree as the store's", func(s *impl.Store) { s.Tree = s.Txn }, false},
		{"no HasTxn, and yet a Txn", func(s *impl.Store) { s.HasTxn = false }, false},
		{"HasTxn, and no Txn", func(s *impl.Store) { s.Txn = impl.Tree{} }, false},
		{"no transaction", func(s *impl.Store) { s.HasTxn, s.Txn = false, impl.Tree{} }, true},
		{"no transaction, an empty list of nodes", func(s *impl.Store) { s.HasTxn, s.Txn = false, impl.Tree{Nodes: []impl.TNode{}} }, true},
		{"no transaction, a node that is nothing", func(s *impl.Store) { s.HasTxn, s.Txn = false, impl.Tree{Nodes: make([]impl.TNode, 1)} }, false},
		{"no transaction, an empty tree", func(s *impl.Store) { s.HasTxn, s.Txn = false, impl.TreeNew() }, false},
		{"an empty tree as the transaction's", func(s *impl.Store) { s.Txn = impl.TreeNew() }, true},
		{"the store's tree as the transaction's", func(s *impl.Store) { s.Txn = s.Tree }, true},
		{"a bulk of other pairs as the transaction's", func(s *impl.Store) { s.Txn = impl.TreeBulk(numberedPairs(300)) }, true},
		{"no pins", func(s *impl.Store) { s.Pins = nil }, true},
		{"an empty list of pins", func(s *impl.Store) { s.Pins = []impl.Pin{} }, true},
		{"the first pin alone", func(s *impl.Store) { s.Pins = s.Pins[:1] }, true},
		{"the second pin alone", func(s *impl.Store) { s.Pins = s.Pins[1:] }, true},
	} {
		wantValid(t, row.what, changedStore(base, row.change), row.valid)
	}
}

// What a transaction's tree may be, beside the store's tree.
func TestTransactionsBesideATree(t *testing.T) {
	long := opened(t, "long", longSheaf().withMeta(1, 4, 4).disk())          // (a^5b:3 c^7d:2):4
	deep := opened(t, "deep", deepSheaf().withMeta(1, 3, 8).disk())          // ((ab:9 cd:8):7 (ef:6 gh:5):4):3
	bare := opened(t, "bare", sheaf{2: leafPage()}.withMeta(1, 2, 0).disk()) // :2
	for _, row := range []struct {
		what    string
		s       impl.Store
		picture string
		valid   bool
	}{
		{"the tree itself", long, "(a^5b:3 c^7d:2):4", true},
		{"a dirty root", long, "(a^5b:3 c^7d:2)", true},
		{"a dirty leaf", long, "(a^5b c^7d:2)", true},
		{"all dirty", long, "(a^5b c^7d)", true},
		{"all dirty, values that stand nowhere", long, "(a^b c^d)", true},
		{"one value new, one old", long, "(a^5b c^d)", true},
		{"other keys", long, "(a^5b:3 xy)", true},
		{"a clean leaf as the root", long, "a^5b:3", true},
		{"the other clean leaf as the root", long, "c^7d:2", true},
		{"a dirty leaf as the root", long, "a^5b", true},
		{"values in one leaf", long, "a^5bc^7d", true},
		{"values in other leaves", long, "(a^5c^7 xy)", true},
		{"a leaf beside new ones", long, "(AB a^5b:3 c^7d:2 xy)", true},
		{"deeper than the tree", long, "((a^5b:3 c^7d:2):4 (wx yz))", true},
		{"nothing but new", long, "xyz", true},
		{"empty", long, "", true},
		{"a page that the tree has not", long, "ab:9", false},
		{"a page that the tree has not, below", long, "(a^5b:3 cd:9)", false},
		{"a page of another node", long, "a^5b:2", false},
		{"a page of the root", long, "a^5b:4", false},
		{"pages swapped", long, "(a^5b:2 c^7d:3)", false},
		{"a clean leaf with a key more", long, "(a^5bc:3 xy)", false},
		{"a clean leaf with a key less", long, "a^5:3", false},
		{"a clean leaf with another key", long, "(a^5x:3 yz)", false},
		{"a clean leaf, short where it was long", long, "(ab:3 c^7d:2)", false},
		{"a clean leaf with another Over", long, "(a^7b:3 cd)", false},
		{"a clean leaf with the second page as Over", long, "(a^6b:3 c^7d:2)", false},
		{"an overflow page as a leaf's", long, "xy:5", false},
		{"the second overflow page as a leaf's", long, "xy:6", false},
		{"a clean root with another leaf", long, "(a^5b:3 cd:9):4", false},
		{"a clean root on another page", long, "(a^5b:3 c^7d:2):9", false},
		{"a clean root on a leaf's page", long, "(a^5b:3 c^7d:9):2", false},
		{"an Over that the tree has not", long, "(a^9b c^7d:2)", false},
		{"an Over that is the second page", long, "(a^6b c^7d:2)", false},
		{"an Over that is a leaf's page", long, "(a^3b c^7d:2)", false},
		{"an Over that is the root's page", long, "a^4b", false},
		{"an Over of another value", long, "a^7b", false},
		{"an Over of another value, two of them", long, "a^7c^5", false},
		{"an Over of a value that is not there", long, "x^5", false},
		{"a tree that is not valid", long, "(a^5b:3 c^7d):4", false},
		{"keys that do not ascend", long, "(c^7d:2 a^5b:3)", false},
		{"a page twice", long, "(a^5b:3 c^7d:3)", false},

		{"the deep tree itself", deep, "((ab:9 cd:8):7 (ef:6 gh:5):4):3", true},
		{"a dirty root of the deep tree", deep, "((ab:9 cd:8):7 (ef:6 gh:5):4)", true},
		{"a part of the deep tree", deep, "(ab:9 cd:8):7", true},
		{"a part beside a new one", deep, "((ef:6 gh:5):4 (ij kl))", true},
		{"leaves under a new node", deep, "(ab:9 cd:8 ef:6)", true},
		{"leaves under another node", deep, "((ab:9 cd:8 ef:6) (gh:5 ij))", true},
		{"a dirty path", deep, "((ab cd:8) (ef:6 gh:5):4)", true},
		{"a clean node with pages below swapped", deep, "((ab:9 cd:8):7 (ef:5 gh:6):4)", false},
		{"clean nodes with their pages swapped", deep, "((ab:9 cd:8):4 (ef:6 gh:5):7)", false},
		{"a part on the root's page", deep, "(ab:9 cd:8):3", false},
		{"a clean node with a leaf of another", deep, "(ab:9 ef:6):7", false},
		{"a clean node with a leaf more", deep, "(ab:9 cd:8 ef:6):7", false},
		{"a clean node over leaves of another", deep, "(ef:6 gh:5):7", false},
		{"a clean node with other keys deep down", deep, "((ab:9 cx:8):7 (yz:6 ~\x7f:5):4)", false},
		{"a clean root over clean nodes that swapped", deep, "((ab:9 cd:8):4 (ef:6 gh:5):7):3", false},
		{"a clean root with a new leaf below", deep, "((ab:9 cd:8):7 (ef:6 gx:5):4):3", false},
		{"a leaf on an inner node's page", deep, "ab:7", false},

		{"an empty leaf", bare, ":2", true},
		{"a dirty empty leaf", bare, "", true},
		{"an empty leaf on another page", bare, ":3", false},
		{"a leaf with a key on its page", bare, "a:2", false},
		{"new leaves", bare, "(ab cd)", true},
		{"an Over where there is none", bare, "a^3", false},
		{"an Over that is the leaf's page", bare, "a^2", false},
	} {
		s := row.s
		s.HasTxn, s.Txn = true, draw(row.picture)
		wantValid(t, row.what+": "+row.picture, s, row.valid)
	}
}

// A value is asked for by its Over, not by its key: it may stand at another key, but not be another value.
func TestOversOfATransaction(t *testing.T) {
	long := opened(t, "long", longSheaf().withMeta(1, 4, 4).disk())
	for _, row := range []struct {
		what  string
		leaf  impl.TNode
		valid bool
	}{
		{"at another key", impl.TNode{Leaf: true, Keys: []string{"z"}, Vals: []string{longVal("a")}, Over: []int64{5}}, true},
		{"two keys changed about", impl.TNode{Leaf: true, Keys: []string{"a", "c"}, Vals: []string{longVal("c"), longVal("a")}, Over: []int64{7, 5}}, true},
		{"a byte less", impl.TNode{Leaf: true, Keys: []string{"a"}, Vals: []string{longVal("a")[1:]}, Over: []int64{5}}, false},
		{"a byte more", impl.TNode{Leaf: true, Keys: []string{"a"}, Vals: []string{longVal("a") + "a"}, Over: []int64{5}}, false},
		{"a byte changed", impl.TNode{Leaf: true, Keys: []string{"a"}, Vals: []string{"b" + longVal("a")[1:]}, Over: []int64{5}}, false},
		{"a part of it", impl.TNode{Leaf: true, Keys: []string{"a"}, Vals: []string{longVal("a")[:96]}, Over: []int64{5}}, false},
		{"the same value without Over", impl.TNode{Leaf: true, Keys: []string{"a"}, Vals: []string{longVal("a")}, Over: []int64{0}}, true},
		{"a value twice, once with Over", impl.TNode{Leaf: true, Keys: []string{"a", "b"}, Vals: []string{longVal("a"), longVal("a")}, Over: []int64{5, 0}}, true},
		{"a short value with Over", impl.TNode{Leaf: true, Keys: []string{"a"}, Vals: []string{"short"}, Over: []int64{5}}, false},
		{"a clean leaf with values changed about", impl.TNode{Leaf: true, Page: 3, Keys: []string{"a", "b"}, Vals: []string{longVal("a"), "vx"}, Over: []int64{5, 0}}, false},
		{"the clean leaf", impl.TNode{Leaf: true, Page: 3, Keys: []string{"a", "b"}, Vals: []string{longVal("a"), "vb"}, Over: []int64{5, 0}}, true},
	} {
		s := long
		s.HasTxn, s.Txn = true, impl.Tree{Nodes: []impl.TNode{row.leaf}}
		wantValid(t, row.what, s, row.valid)
		if !row.valid {
			continue
		}
		got := impl.Do(s, opOf("c"))
		wantStoreRes(t, row.what, got, modelDo(s, opOf("c")))
		wantVersion(t, row.what, got.Store, modelPairs(s.Txn))
	}
}

func TestPinsOfAStore(t *testing.T) {
	// Page 0 holds no meta here: a tree can be read from it.
	s := opened(t, "with page 0", deepSheaf().withMeta(9, 3, 8).with(0, stamped(lettersLeaf("xy"), 1)).disk())
	pin := func(id, tx, root int64) impl.Pin { return impl.Pin{Id: id, Tx: tx, Root: root} }
	eight := []impl.Pin{pin(1, 9, 3), pin(2, 9, 3), pin(3, 9, 3), pin(4, 9, 3), pin(5, 9, 3), pin(6, 9, 3), pin(7, 9, 3), pin(8, 9, 3)}
	for _, row := range []struct {
		what  string
		pins  []impl.Pin
		valid bool
	}{
		{"none", nil, true},
		{"one", []impl.Pin{pin(1, 9, 3)}, true},
		{"one of an older state", []impl.Pin{pin(1, 1, 7)}, true},
		{"on leaves and nodes", []impl.Pin{pin(1, 1, 9), pin(2, 2, 4), pin(3, 3, 3)}, true},
		{"Tx in any order", []impl.Pin{pin(1, 9, 3), pin(2, 1, 3), pin(3, 5, 3)}, true},
		{"Ids with room between", []impl.Pin{pin(2, 9, 3), pin(7, 9, 3), pin(900, 9, 3)}, true},
		{"the greatest Id", []impl.Pin{pin(1<<63-1, 9, 3)}, true},
		{"PinMax", eight, true},
		{"PinMax, great Ids", append(slices.Clone(eight[:7]), pin(1<<40, 9, 3)), true},
		{"PinMax + 1", append(slices.Clone(eight), pin(9, 9, 3)), false},
		{"Id 0", []impl.Pin{pin(0, 9, 3)}, false},
		{"Id 0 before another", []impl.Pin{pin(0, 9, 3), pin(1, 9, 3)}, false},
		{"Id -1", []impl.Pin{pin(-1, 9, 3)}, false},
		{"the least Id", []impl.Pin{pin(-1<<63, 9, 3), pin(1, 9, 3)}, false},
		{"an Id twice", []impl.Pin{pin(1, 9, 3), pin(1, 9, 3)}, false},
		{"an Id twice, of two states", []impl.Pin{pin(1, 9, 3), pin(2, 9, 3), pin(2, 8, 7)}, false},
		{"Ids that descend", []impl.Pin{pin(2, 9, 3), pin(1, 9, 3)}, false},
		{"Ids that descend at the end", []impl.Pin{pin(1, 9, 3), pin(3, 9, 3), pin(2, 9, 3)}, false},
		{"Tx 0", []impl.Pin{pin(1, 0, 3)}, false},
		{"Tx -1", []impl.Pin{pin(1, -1, 3)}, false},
		{"Tx above the store's", []impl.Pin{pin(1, 10, 3)}, false},
		{"Tx far above", []impl.Pin{pin(1, 1<<63-1, 3)}, false},
		{"Tx 0 at the second", []impl.Pin{pin(1, 9, 3), pin(2, 0, 3)}, false},
		{"a Root behind the end", []impl.Pin{pin(1, 9, 10)}, false},
		{"a Root of zeros", []impl.Pin{pin(1, 9, 2)}, false},
		{"a Root that is a meta", []impl.Pin{pin(1, 9, 1)}, false},
		{"a Root below 0", []impl.Pin{pin(1, 9, -1)}, false},
		{"a great Root", []impl.Pin{pin(1, 9, 1<<63-1)}, false},
		{"a Root that wraps round", []impl.Pin{pin(1, 9, 1<<32+3)}, false},
		{"a wrong Root at the end", append(slices.Clone(eight[:7]), pin(8, 9, 2)), false},
		{"a wrong Root at the front", append([]impl.Pin{pin(1, 9, 2)}, eight[1:]...), false},
		// LoadTree succeeds there.
		{"page 0", []impl.Pin{pin(1, 9, 0)}, true},
	} {
		pinned := s
		pinned.Pins = row.pins
		wantValid(t, row.what, pinned, row.valid)
		for _, p := range row.pins {
			if row.valid {
				want := impl.ScanRes{Ok: true, Pairs: modelPairs(modelLoad(s.Disk, "f", p.Root).Tree)}
				if got := impl.View(pinned, p.Id, "", ""); !sameScan(got, want) {
					t.Errorf("%s: pin %d: %v", row.what, p.Id, got)
				}
			}
		}
	}
}

// Do keeps no store that is not valid: whatever it is asked for, it answers with nothing.
func TestDoOfWhatIsNoStore(t *testing.T) {
	base := run(t, created(t, 60), "b +a c p b +b")
	for what, s := range map[string]impl.Store{
		"the zero store": {},
		"another Tx":     changedStore(base, func(s *impl.Store) { s.Tx++ }),
		"a dead disk":    changedStore(base, func(s *impl.Store) { s.Disk.Dead = true }),
		"a wrong Txn":    changedStore(base, func(s *impl.Store) { s.Txn = draw("ab:9") }),
		"a wrong pin":    changedStore(base, func(s *impl.Store) { s.Pins[0].Root = 1 }),
	} {
		for _, word := range []string{"b", "c", "r", "p", "u1", "u9", "+c", "*c", "-a"} {
			wantStoreRes(t, fmt.Sprint(what, " ", word), impl.Do(s, opOf(word)), impl.StoreRes{})
		}
		wantStoreRes(t, what+", no Kind", impl.Do(s, impl.Op{}), impl.StoreRes{})
	}
}
