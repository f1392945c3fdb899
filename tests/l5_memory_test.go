package tests

import (
	"fmt"
	"testing"

	"loop.example/s02098/impl"
)

func TestStoreMemory(t *testing.T) {
	words := []string{"b", "c", "r", "p", "u1", "u9", "+a", "*a", "+x", "*x", "-a", "-x"}
	for what, s := range memoryStores(t) {
		for _, word := range words {
			callCleanly(t, what+" "+word, impl.Do, s, opOf(word))
		}
		callCleanly(t, what+" without a Kind", impl.Do, s, impl.Op{})
		callCleanly(t, what+" at a key that is none", impl.Do, s, impl.Op{Kind: impl.OpPut})
		callCleanly(t, what+" ValidStore", impl.ValidStore, s)
		for pin := int64(-2); pin <= 3; pin++ {
			callCleanly(t, fmt.Sprint(what, " View of ", pin), impl.View, s, pin, "", "")
			callCleanly(t, fmt.Sprint(what, " narrow View of ", pin), impl.View, s, pin, "b", "d")
		}
		callCleanly(t, what+" OpenStore", impl.OpenStore, s.Disk, s.Name)
		callCleanly(t, what+" CreateStore", impl.CreateStore, s.Disk, "g", int64(5))
		callCleanly(t, what+" CreateStore of what is there", impl.CreateStore, s.Disk, "f", int64(5))
	}
	for _, row := range refusals(t) {
		callCleanly(t, row.what, impl.Do, row.s, row.op)
	}
	for _, row := range append(validDisks(), invalidDisks()...) {
		callCleanly(t, "OpenStore at "+row.what, impl.OpenStore, row.disk, "a")
		callCleanly(t, "CreateStore at "+row.what, impl.CreateStore, row.disk, "new", int64(5))
	}
	for fuel := int64(-1); fuel <= 6; fuel++ {
		for room := int64(0); room <= 4; room++ {
			d := impl.Disk{Cap: room, Fuel: fuel}
			callCleanly(t, fmt.Sprint("CreateStore with fuel ", fuel, " and room for ", room), impl.CreateStore, d, "f", int64(5))
		}
	}
}

// memoryStores are stores in every state, those that a full disk and a loss of power leave among them, and what is no store.
func memoryStores(t *testing.T) map[string]impl.Store {
	t.Helper()
	open := run(t, created(t, 60), "b +a *b +c +d +e c p b *f -a c p b +g *h")
	out := map[string]impl.Store{
		"created":               created(t, 60),
		"open":                  open,
		"just begun":            run(t, open, "r b"),
		"idle":                  run(t, open, "r"),
		"PinMax pins":           run(t, open, "p p p p p p"),
		"the zero store":        {},
		"a wrong Tx":            changedStore(open, func(s *impl.Store) { s.Tx++ }),
		"a wrong Txn":           changedStore(open, func(s *impl.Store) { s.Txn.Nodes[0].Page = 99 }),
		"no room":               withRoom(open, impl.PageCount(open.Disk, "f")),
		"room for one page":     withRoom(open, impl.PageCount(open.Disk, "f")+1),
		"a page in the cache":   changedStore(open, func(s *impl.Store) { s.Disk = impl.WritePage(s.Disk, "h", 0, pageOf(1)).Disk }),
		"after a full disk":     impl.Do(withRoom(open, impl.PageCount(open.Disk, "f")+1), opOf("c")).Store,
		"after a loss of power": impl.Do(changedStore(open, func(s *impl.Store) { s.Disk.Fuel = 2 }), opOf("c")).Store,
	}
	for fuel := range int64(9) {
		out[fmt.Sprint("fuel ", fuel)] = changedStore(open, func(s *impl.Store) { s.Disk.Fuel = fuel })
	}
	r := newDice(57)
	for i := range 25 {
		s := r.lived(t, r.pick(10, 30, 100), 30, r.keys(10))
		out[fmt.Sprint("drawn ", i)] = s
		out[fmt.Sprint("drawn and spoilt ", i)] = r.spoiltStore(s)
	}
	return out
}

// What is done to one answer is not seen in the next, nor in the store that it came from: nothing is kept between calls.
func TestAnswersOfTheStoreAreApart(t *testing.T) {
	for _, word := range []string{"b", "p", "+x", "*x", "-a", "c", "r", "u1"} {
		s := run(t, created(t, 60), "b +a *b +c +d +e c p b *f -a c")
		if word != "b" {
			s = run(t, s, "b +g *h")
		}
		before := changedStore(s, func(*impl.Store) {})
		first := impl.Do(s, opOf(word))
		kept := changedStore(first.Store, func(*impl.Store) {})
		second := impl.Do(s, opOf(word))
		wreck(second.Store)
		wantStore(t, word+", the store before", s, before)
		wantStore(t, word+", the first answer", first.Store, kept)
		third := impl.Do(s, opOf(word))
		wantStoreRes(t, word+", the third answer", third, impl.StoreRes{Code: first.Code, Pin: first.Pin, Store: kept})
		wreck(s)
		wantStore(t, word+", the third answer when the store is gone", third.Store, kept)
	}
}

// wreck writes into all lists of a store.
func wreck(s impl.Store) {
	for _, f := range s.Disk.Files {
		clear(f.Data)
	}
	for _, p := range s.Disk.Cache {
		clear(p.Data)
	}
	clear(s.Disk.Files)
	clear(s.Disk.Cache)
	clear(s.Pins)
	for _, x := range []impl.Tree{s.Tree, s.Txn} {
		for _, n := range x.Nodes {
			clear(n.Keys)
			clear(n.Vals)
			clear(n.Over)
			clear(n.Kids)
		}
		clear(x.Nodes)
	}
}
