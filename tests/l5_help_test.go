package tests

import (
	"bytes"
	"fmt"
	"slices"
	"strconv"
	"strings"
	"testing"

	"loop.example/s02098/impl"
)

// sameStore takes an empty list and nil for the same.
func sameStore(a, b impl.Store) bool {
	return sameDisk(a.Disk, b.Disk) && a.Name == b.Name && a.Tx == b.Tx && a.Meta == b.Meta && sameTree(a.Tree, b.Tree) &&
		a.HasTxn == b.HasTxn && sameTree(a.Txn, b.Txn) && slices.Equal(a.Pins, b.Pins)
}

func tellStore(s impl.Store) string {
	var b bytes.Buffer
	fmt.Fprintf(&b, "%q tx %d meta %+v pins %v tree %s", s.Name, s.Tx, s.Meta, s.Pins, show(s.Tree))
	if s.HasTxn || len(s.Txn.Nodes) > 0 {
		fmt.Fprintf(&b, " txn (%v) %s", s.HasTxn, show(s.Txn))
	}
	fmt.Fprintf(&b, " %s", tell(s.Disk))
	return b.String()
}

func wantStore(t *testing.T, what string, got, want impl.Store) {
	t.Helper()
	if !sameStore(got, want) {
		t.Errorf("%s:\n got %s\nwant %s", what, tellStore(got), tellStore(want))
	}
}

func wantStoreRes(t *testing.T, what string, got, want impl.StoreRes) {
	t.Helper()
	if got.Code != want.Code || got.Pin != want.Pin {
		t.Errorf("%s: code %d pin %d, want %d and %d", what, got.Code, got.Pin, want.Code, want.Pin)
	}
	wantStore(t, what, got.Store, want.Store)
}

// wantRefusal asks for the code, and for the whole store as it was.
func wantRefusal(t *testing.T, what string, s impl.Store, op impl.Op, code int64) {
	t.Helper()
	wantStoreRes(t, what, impl.Do(s, op), impl.StoreRes{Code: code, Store: s})
}

// opOf reads a word: b(egin), c(ommit), r(ollback), p(in), u and a pin's Id, - and a key, + and a key for its short value of drawn trees, * and a key for the long one.
func opOf(word string) impl.Op {
	rest := word[1:]
	switch word[0] {
	case 'b':
		return impl.Op{Kind: impl.OpBegin}
	case 'c':
		return impl.Op{Kind: impl.OpCommit}
	case 'r':
		return impl.Op{Kind: impl.OpRollback}
	case 'p':
		return impl.Op{Kind: impl.OpPin}
	case 'u':
		id, _ := strconv.ParseInt(rest, 10, 64)
		return impl.Op{Kind: impl.OpUnpin, Pin: id}
	case '-':
		return impl.Op{Kind: impl.OpDel, Key: rest}
	case '+':
		return impl.Op{Kind: impl.OpPut, Key: rest, Val: shortVal(rest)}
	case '*':
		return impl.Op{Kind: impl.OpPut, Key: rest, Val: longVal(rest)}
	}
	panic("no word for an operation: " + word)
}

// run does operations of which each must be done.
func run(t *testing.T, s impl.Store, words string) impl.Store {
	t.Helper()
	for _, word := range strings.Fields(words) {
		r := impl.Do(s, opOf(word))
		if r.Code != impl.StOk {
			t.Fatalf("%q at %q: code %d: %s", words, word, r.Code, tellStore(s))
		}
		s = r.Store
	}
	return s
}

// created is a store in the file f, with the Id 7.
func created(t *testing.T, room int64) impl.Store {
	t.Helper()
	r := impl.CreateStore(impl.DiskNew(room), "f", 7)
	if r.Code != impl.StOk {
		t.Fatalf("not created: %d", r.Code)
	}
	return r.Store
}

// keysOf are the letters that a View tells, "none" where it tells nothing.
func keysOf(r impl.ScanRes) string {
	if !r.Ok {
		return "none"
	}
	out := ""
	for _, p := range r.Pairs {
		out += p.Key
	}
	return out
}

func wantKeys(t *testing.T, what string, s impl.Store, pin int64, keys string) {
	t.Helper()
	if got := keysOf(impl.View(s, pin, "", "")); got != keys {
		t.Errorf("%s: pin %d: %q, want %q", what, pin, got, keys)
	}
}

// wantNoView asks for the zero value.
func wantNoView(t *testing.T, what string, s impl.Store, pin int64) {
	t.Helper()
	for _, ends := range [][2]string{{"", ""}, {"a", "c"}} {
		if got := impl.View(s, pin, ends[0], ends[1]); got.Ok || len(got.Pairs) > 0 {
			t.Errorf("%s: pin %d: %+v", what, pin, got)
		}
	}
}

// withMeta lays the metas of their stamps beside the pages of a tree.
func (s sheaf) withMeta(tx, root, count int64) sheaf {
	return s.with(tx%2, stamped(metaPage(7, root, count), tx))
}

// opened is the store of the file f, which must be one.
func opened(t *testing.T, what string, d impl.Disk) impl.Store {
	t.Helper()
	r := impl.OpenStore(d, "f")
	if r.Code != impl.StOk {
		t.Fatalf("%s: code %d", what, r.Code)
	}
	return r.Store
}

// bulkStore has numbered pairs, four in a leaf, on the pages from 2 on.
func bulkStore(t *testing.T, count int, tx int64) impl.Store {
	t.Helper()
	p := impl.Place(impl.TreeBulk(numberedPairs(count)), tx, nil)
	s := sheaf{}
	for i, num := range p.Nums {
		s[num] = p.Pages[i]
	}
	root := p.Tree.Nodes[0].Page
	return opened(t, fmt.Sprint(count, " pairs"), s.withMeta(tx, root, int64(count)).disk())
}

// The model: the words of the document once more, on the models of the chapters before.

func modelOpen(d impl.Disk, name string) impl.StoreRes {
	if _, ok := modelSeen(d); !ok || d.Dead || !modelName(name) {
		return impl.StoreRes{Code: impl.StBad}
	}
	m := modelMeta(d, name)
	if !m.Ok {
		return impl.StoreRes{Code: impl.StMeta}
	}
	l := modelLoad(d, name, m.Meta.Root)
	if !l.Ok || int64(len(modelPairs(l.Tree))) != m.Meta.Count {
		return impl.StoreRes{Code: impl.StTree}
	}
	return impl.StoreRes{Code: impl.StOk, Store: impl.Store{Disk: d, Name: name, Tx: m.Tx, Meta: m.Meta, Tree: l.Tree}}
}

// modelSteps writes pages, syncs, writes one page more and syncs again, and answers with the code and the disk where it stopped.
func modelSteps(d impl.Disk, name string, nums []int64, pages [][]byte, meta impl.Page) (int64, impl.Disk) {
	var steps []func(impl.Disk) impl.DiskRes
	for i, num := range nums {
		steps = append(steps, func(d impl.Disk) impl.DiskRes { return modelWrite(d, name, num, pages[i]) })
	}
	steps = append(steps, modelSync, func(d impl.Disk) impl.DiskRes { return modelWrite(d, name, meta.Tx%2, modelNew(meta)) }, modelSync)
	err, d := modelRun(d, steps)
	switch err {
	case impl.DiskFull:
		return impl.StFull, d
	case impl.DiskLost:
		return impl.StLost, d
	}
	return impl.StOk, d
}

// modelRun does steps until one fails, and answers with its Err and the disk where it stopped.
func modelRun(d impl.Disk, steps []func(impl.Disk) impl.DiskRes) (int64, impl.Disk) {
	for _, step := range steps {
		r := step(d)
		d = r.Disk
		switch r.Err {
		case impl.DiskBad:
			panic("the model's step is wrong")
		case impl.DiskFull, impl.DiskLost:
			return r.Err, d
		}
	}
	return impl.DiskOk, d
}

func modelCreate(d impl.Disk, name string, id int64) impl.StoreRes {
	_, ok := modelSeen(d)
	if !ok || d.Dead || len(d.Cache) > 0 || !modelName(name) || modelFind(d.Files, name) >= 0 || id < 1 || id > impl.NumMax {
		return impl.StoreRes{Code: impl.StBad}
	}
	pages := [][]byte{pageOf(0), pageOf(0), modelNew(stamped(leafPage(), 1))}
	code, d := modelSteps(d, name, []int64{0, 1, 2}, pages, stamped(metaPage(id, 2, 0), 1))
	if code != impl.StOk {
		return impl.StoreRes{Code: code, Store: impl.Store{Disk: d}}
	}
	return modelOpen(d, name)
}

func modelValidStore(s impl.Store) bool {
	now := modelOpen(s.Disk, s.Name)
	if now.Code != impl.StOk || now.Store.Tx != s.Tx || now.Store.Meta != s.Meta || !sameTree(now.Store.Tree, s.Tree) {
		return false
	}
	if s.HasTxn && !modelTxn(s.Txn, s.Tree) || !s.HasTxn && len(s.Txn.Nodes) > 0 {
		return false
	}
	for i, p := range s.Pins {
		if p.Id < 1 || i > 0 && s.Pins[i-1].Id >= p.Id || p.Tx < 1 || p.Tx > s.Tx || !modelLoad(s.Disk, s.Name, p.Root).Ok {
			return false
		}
	}
	return len(s.Pins) <= impl.PinMax
}

func modelTxn(txn, tree impl.Tree) bool {
	if !modelTreeValid(txn) {
		return false
	}
	had := wholeNodes(tree)
	for page, text := range wholeNodes(txn) {
		if had[page] != text {
			return false
		}
	}
	for _, n := range txn.Nodes {
		for i, over := range n.Over {
			if n.Page == 0 && over != 0 && !standsIn(tree, over, n.Vals[i]) {
				return false
			}
		}
	}
	return true
}

func standsIn(t impl.Tree, over int64, val string) bool {
	for _, n := range t.Nodes {
		for i := range n.Over {
			if n.Over[i] == over && n.Vals[i] == val {
				return true
			}
		}
	}
	return false
}

func modelDo(s impl.Store, op impl.Op) impl.StoreRes {
	if !modelValidStore(s) {
		return impl.StoreRes{}
	}
	code := modelRefusal(s, op)
	if code != impl.StOk {
		return impl.StoreRes{Code: code, Store: s}
	}
	switch op.Kind {
	case impl.OpBegin:
		s.HasTxn, s.Txn = true, s.Tree
	case impl.OpPut:
		s.Txn = modelTreePut(s.Txn, op.Key, op.Val).Tree
	case impl.OpDel:
		s.Txn = modelTreeDel(s.Txn, op.Key).Tree
	case impl.OpCommit:
		return modelCommit(s)
	case impl.OpRollback:
		s.HasTxn, s.Txn = false, impl.Tree{}
	case impl.OpPin:
		return modelPin(s)
	case impl.OpUnpin:
		s.Pins = slices.DeleteFunc(slices.Clone(s.Pins), func(p impl.Pin) bool { return p.Id == op.Pin })
	}
	return impl.StoreRes{Code: impl.StOk, Store: s}
}

// modelRefusal is StOk where nothing but the room may be in the way.
func modelRefusal(s impl.Store, op impl.Op) int64 {
	writes := op.Kind == impl.OpPut || op.Kind == impl.OpDel
	pinned := slices.ContainsFunc(s.Pins, func(p impl.Pin) bool { return p.Id == op.Pin })
	switch {
	case op.Kind < impl.OpBegin || op.Kind > impl.OpUnpin:
		return impl.StBad
	case op.Kind == impl.OpBegin && s.HasTxn:
		return impl.StBusy
	case (writes || op.Kind == impl.OpCommit || op.Kind == impl.OpRollback) && !s.HasTxn:
		return impl.StTxn
	case writes && (len(op.Key) < 1 || len(op.Key) > impl.KeyMax):
		return impl.StKey
	case op.Kind == impl.OpPut && len(op.Val) > impl.ValMax:
		return impl.StVal
	case op.Kind == impl.OpPut && !modelTreePut(s.Txn, op.Key, op.Val).Ok:
		return impl.StNodes
	case op.Kind == impl.OpPin && len(s.Pins) == impl.PinMax:
		return impl.StPins
	case op.Kind == impl.OpUnpin && !pinned:
		return impl.StPin
	}
	return impl.StOk
}

func modelCommit(s impl.Store) impl.StoreRes {
	taken := modelLoad(s.Disk, s.Name, s.Meta.Root).Pages
	for _, p := range s.Pins {
		taken = append(taken, modelLoad(s.Disk, s.Name, p.Root).Pages...)
	}
	placed := modelPlace(s.Txn, s.Tx+1, taken)
	if s.Tx == impl.NumMax || zeroPlaced(placed) {
		return impl.StoreRes{Code: impl.StFull, Store: s}
	}
	var pages [][]byte
	for _, p := range placed.Pages {
		pages = append(pages, modelNew(p))
	}
	meta := impl.Meta{Id: s.Meta.Id, Root: placed.Tree.Nodes[0].Page, Count: int64(len(modelPairs(s.Txn)))}
	code, d := modelSteps(s.Disk, s.Name, placed.Nums, pages, impl.Page{Kind: impl.PMeta, Tx: s.Tx + 1, Meta: meta})
	if s.Disk = d; code != impl.StOk {
		return impl.StoreRes{Code: code, Store: s}
	}
	s.Tx, s.Meta, s.Tree = s.Tx+1, meta, placed.Tree
	s.HasTxn, s.Txn = false, impl.Tree{}
	return impl.StoreRes{Code: impl.StOk, Store: s}
}

func modelPin(s impl.Store) impl.StoreRes {
	// The Ids ascend, so the first place where one is missing is the smallest.
	at := 0
	for at < len(s.Pins) && s.Pins[at].Id == int64(at)+1 {
		at++
	}
	id := int64(at) + 1
	s.Pins = slices.Insert(slices.Clone(s.Pins), at, impl.Pin{Id: id, Tx: s.Tx, Root: s.Meta.Root})
	return impl.StoreRes{Code: impl.StOk, Pin: id, Store: s}
}

func modelView(s impl.Store, pin int64, lo, hi string) impl.ScanRes {
	if !modelValidStore(s) {
		return impl.ScanRes{}
	}
	tree := impl.Tree{}
	switch {
	case pin == 0:
		tree = s.Tree
	case pin == -1:
		tree = s.Txn
	}
	for _, p := range s.Pins {
		if p.Id == pin {
			tree = modelLoad(s.Disk, s.Name, p.Root).Tree
		}
	}
	if len(tree.Nodes) == 0 {
		return impl.ScanRes{}
	}
	return impl.ScanRes{Ok: true, Pairs: modelScan(modelPairs(tree), lo, hi)}
}

func sameScan(a, b impl.ScanRes) bool { return a.Ok == b.Ok && slices.Equal(a.Pairs, b.Pairs) }
