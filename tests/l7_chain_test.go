package tests

import (
	"bytes"
	"cmp"
	"fmt"
	"slices"
	"testing"

	"loop.example/s02098/impl"
)

// saved is a chain with what was pinned at each of its texts.
type saved struct {
	chain []impl.Blob
	txs   []int64
	pairs [][]impl.Pair
	whole [][]byte // a full backup of each
}

func (v *saved) add(t *testing.T, s impl.Store, pin impl.Pin, base int64) {
	t.Helper()
	v.chain = append(v.chain, blobs(backedUp(t, s, pin.Id, base))...)
	v.whole = append(v.whole, backedUp(t, s, pin.Id, 0))
	v.txs = append(v.txs, pin.Tx)
	v.pairs = append(v.pairs, impl.View(s, pin.Id, "", "").Pairs)
}

// commits does so many small transactions; one for which there is no room is rolled back.
func (r dice) commits(t *testing.T, s impl.Store, keys []string, count int) impl.Store {
	t.Helper()
	for range count {
		s = run(t, s, "b")
		for range r.Intn(6) {
			op := impl.Op{Kind: impl.OpPut, Key: keys[r.Intn(len(keys))], Val: r.value()}
			if r.Intn(3) == 0 {
				op.Kind = impl.OpDel
			}
			s = impl.Do(s, op).Store
		}
		got := impl.Do(s, impl.Op{Kind: impl.OpCommit})
		if s = got.Store; got.Code != impl.StOk {
			s = run(t, s, "r")
		}
	}
	return s
}

// pinnedChain has pins at ascending Tx that all stay, and takes all backups at the end.
func (r dice) pinnedChain(t *testing.T, keys []string, count int) saved {
	t.Helper()
	s := created(t, impl.CapMax)
	for range count {
		s = run(t, r.commits(t, s, keys, 1+r.Intn(3)), "p")
	}
	s = r.commits(t, s, keys, r.Intn(3))
	pins := slices.SortedFunc(slices.Values(s.Pins), func(a, b impl.Pin) int { return cmp.Compare(a.Tx, b.Tx) })
	pins = slices.CompactFunc(pins, func(a, b impl.Pin) bool { return a.Tx == b.Tx })
	var out saved
	base := int64(0)
	for _, p := range pins {
		out.add(t, s, p, base)
		base = p.Tx
	}
	return out
}

// rollingChain lets each pin go as soon as its backup is told, so that its pages are used again.
func (r dice) rollingChain(t *testing.T, keys []string, count int) saved {
	t.Helper()
	s := created(t, impl.CapMax)
	var out saved
	base := int64(0)
	for range count {
		s = r.commits(t, s, keys, 1+r.Intn(2))
		if s.Tx == base {
			continue
		}
		s = run(t, s, "p")
		out.add(t, s, s.Pins[0], base)
		base = s.Tx
		s = run(t, s, "u1")
	}
	return out
}

// wantRestored asks for a file that is a store with just these pairs.
func wantRestored(t *testing.T, what string, r impl.RestoreRes, name string, tx int64, pairs []impl.Pair) impl.Store {
	t.Helper()
	o := impl.OpenStore(r.Disk, name)
	if r.Err != impl.RsOk || r.At != 0 || o.Code != impl.StOk {
		t.Fatalf("%s: Err %d at %d, code %d", what, r.Err, r.At, o.Code)
	}
	if got := impl.View(o.Store, 0, "", ""); !got.Ok || !slices.Equal(got.Pairs, pairs) {
		t.Errorf("%s: %q, want %q", what, got.Pairs, pairs)
	}
	if o.Store.Tx != tx || o.Store.Meta.Id != 7 || len(r.Disk.Cache) > 0 || modelFind(r.Disk.Files, "tmp") >= 0 || r.Disk.Dead {
		t.Errorf("%s: tx %d, meta %+v, %s", what, o.Store.Tx, o.Store.Meta, tell(r.Disk))
	}
	return o.Store
}

// wantChain restores a chain and each beginning of it, and what was restored once more from a backup of its own.
func wantChain(t *testing.T, what string, v saved) {
	t.Helper()
	for n := range v.chain {
		what := fmt.Sprint(what, ", ", n+1, " texts")
		s := wantRestored(t, what, impl.Restore(impl.DiskNew(impl.CapMax), "x", v.chain[:n+1]), "x", v.txs[n], v.pairs[n])
		whole := backedUp(t, run(t, s, "p"), 1, 0)
		if !bytes.Equal(whole, v.whole[n]) {
			t.Errorf("%s: its full backup is another than that of the pin", what)
		}
		again := wantRestored(t, what+", again", impl.Restore(s.Disk, "y", blobs(whole)), "y", v.txs[n], v.pairs[n])
		wantTree(t, what+", again", again.Tree, s.Tree)
		wantGoesOn(t, what, s, v.pairs[n])
		if t.Failed() {
			t.FailNow()
		}
	}
}

func TestChainsOfPins(t *testing.T) {
	texts := 0
	for seed := range int64(24) {
		r := newDice(1000 + seed)
		v := r.pinnedChain(t, r.keys(int(r.pick(2, 8, 20, 40))), 1+r.Intn(impl.PinMax))
		wantChain(t, fmt.Sprint("seed ", seed), v)
		texts += len(v.chain)
	}
	if texts < 80 {
		t.Errorf("only %d texts", texts)
	}
}

func TestChainsOfRollingPins(t *testing.T) {
	again, longest := 0, 0
	for seed := range int64(16) {
		r := newDice(1050 + seed)
		v := r.rollingChain(t, r.keys(int(r.pick(2, 8, 20))), 2+r.Intn(impl.ChainMax-1))
		wantChain(t, fmt.Sprint("seed ", seed), v)
		longest = max(longest, len(v.chain))
		told := map[int64]int{}
		for _, text := range v.chain {
			for _, p := range impl.ParseStream(text.Data).Stream.Pages {
				if told[p.Num]++; told[p.Num] == 2 {
					again++
				}
			}
		}
	}
	if again < 100 || longest < 15 {
		t.Errorf("only %d pages that later texts have again, %d texts at the most", again, longest)
	}
}

// The backups are taken while commits go on, each text a few steps at a time.
func TestChainsTakenHot(t *testing.T) {
	for seed := range int64(12) {
		r := newDice(1080 + seed)
		keys := r.keys(int(r.pick(3, 10)))
		s := created(t, impl.CapMax)
		var v saved
		base := int64(0)
		for range 2 + r.Intn(4) {
			s = run(t, r.commits(t, s, keys, 2), "p")
			pin := s.Pins[len(s.Pins)-1]
			v.pairs, v.txs = append(v.pairs, impl.View(s, pin.Id, "", "").Pairs), append(v.txs, pin.Tx)
			v.whole = append(v.whole, backedUp(t, s, pin.Id, 0))
			var stream []byte
			for b := started(t, s, pin.Id, base); !b.Ended; {
				s = r.commits(t, s, keys, r.Intn(2))
				step := impl.BackupStep(s, b)
				stream = append(stream, step.Chunk...)
				if b = step.Backup; step.Err != impl.BkOk {
					t.Fatalf("seed %d: Err %d", seed, step.Err)
				}
			}
			v.chain = append(v.chain, blobs(stream)...)
			base = pin.Tx
		}
		wantChain(t, fmt.Sprint("seed ", seed), v)
	}
}

// A text on a base holds what changed alone: it is no chain of its own, nor is one that leaves a text out.
func TestChainsWithGaps(t *testing.T) {
	refused := 0
	for seed := range int64(10) {
		r := newDice(1100 + seed)
		v := r.rollingChain(t, r.keys(8), 5)
		d := impl.DiskNew(impl.CapMax)
		for i := range v.chain {
			gap := slices.Delete(slices.Clone(v.chain), i, i+1)
			if i == len(v.chain)-1 {
				continue
			}
			wantRestoreRes(t, fmt.Sprint("seed ", seed, " without text ", i), impl.Restore(d, "x", gap), impl.RestoreRes{Err: impl.RsChain, At: int64(i), Disk: d})
			refused++
		}
	}
	if refused < 20 {
		t.Errorf("only %d gaps", refused)
	}
}
