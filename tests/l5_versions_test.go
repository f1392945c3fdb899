package tests

import (
	"fmt"
	"maps"
	"slices"
	"strings"
	"testing"

	"loop.example/s02098/impl"
)

// version is a state: what a map held when it was committed.
type version struct {
	tx    int64
	pairs map[string]string
}

// versioned is what a store is to those who use it: a map with a history. It knows nothing of pages.
type versioned struct {
	now  version
	open bool
	txn  map[string]string
	pins map[int64]version
}

func newVersioned() *versioned {
	return &versioned{now: version{1, map[string]string{}}, pins: map[int64]version{}}
}

// do answers with the code and the pin that a store with room must tell.
func (v *versioned) do(op impl.Op) (int64, int64) {
	switch op.Kind {
	case impl.OpBegin:
		if v.open {
			return impl.StBusy, 0
		}
		v.open, v.txn = true, maps.Clone(v.now.pairs)
	case impl.OpPut, impl.OpDel:
		return v.write(op), 0
	case impl.OpCommit:
		if !v.open {
			return impl.StTxn, 0
		}
		v.now = version{v.now.tx + 1, v.txn}
		v.open, v.txn = false, nil
	case impl.OpRollback:
		if !v.open {
			return impl.StTxn, 0
		}
		v.open, v.txn = false, nil
	case impl.OpPin:
		for id := int64(1); id <= impl.PinMax; id++ {
			if _, there := v.pins[id]; !there {
				v.pins[id] = v.now
				return impl.StOk, id
			}
		}
		return impl.StPins, 0
	case impl.OpUnpin:
		if _, there := v.pins[op.Pin]; !there {
			return impl.StPin, 0
		}
		delete(v.pins, op.Pin)
	default:
		return impl.StBad, 0
	}
	return impl.StOk, 0
}

func (v *versioned) write(op impl.Op) int64 {
	switch {
	case !v.open:
		return impl.StTxn
	case len(op.Key) == 0 || len(op.Key) > 8:
		return impl.StKey
	case op.Kind == impl.OpDel:
		delete(v.txn, op.Key)
	case len(op.Val) > 400:
		return impl.StVal
	default:
		v.txn[op.Key] = op.Val
	}
	return impl.StOk
}

// between are the pairs of a range, ascending.
func between(pairs map[string]string, lo, hi string) []impl.Pair {
	var out []impl.Pair
	for _, key := range slices.Sorted(maps.Keys(pairs)) {
		if lo <= key && (hi == "" || key < hi) {
			out = append(out, impl.Pair{Key: key, Val: pairs[key]})
		}
	}
	return out
}

// wantVersions looks at every state of the store, and at some that there are not.
func wantVersions(t *testing.T, what string, s impl.Store, v *versioned, ranges [][2]string) {
	t.Helper()
	if !impl.ValidStore(s) || s.Tx != v.now.tx || s.Meta.Count != int64(len(v.now.pairs)) || s.HasTxn != v.open {
		t.Errorf("%s: valid %v, tx %d, want %d", what, impl.ValidStore(s), s.Tx, v.now.tx)
	}
	states := map[int64]map[string]string{0: v.now.pairs}
	if v.open {
		states[-1] = v.txn
	} else {
		wantNoView(t, what, s, -1)
	}
	for id, pinned := range v.pins {
		states[id] = pinned.pairs
		at := slices.IndexFunc(s.Pins, func(p impl.Pin) bool { return p.Id == id })
		if at < 0 || s.Pins[at].Tx != pinned.tx {
			t.Errorf("%s: pin %d is of %d: %v", what, id, pinned.tx, s.Pins)
		}
	}
	free := int64(1)
	for v.pins[free].tx > 0 {
		free++
	}
	wantNoView(t, what, s, free)
	if len(s.Pins) != len(v.pins) {
		t.Errorf("%s: pins %v, want %d", what, s.Pins, len(v.pins))
	}
	for pin, pairs := range states {
		for _, ends := range ranges {
			got := impl.View(s, pin, ends[0], ends[1])
			if want := between(pairs, ends[0], ends[1]); !got.Ok || !slices.Equal(got.Pairs, want) {
				t.Errorf("%s: View of %d from %q to %q: %v, %q, want %q", what, pin, ends[0], ends[1], got.Ok, got.Pairs, want)
			}
		}
	}
}

// ranges are the whole one and a narrow one.
func (r dice) ranges(keys []string) [][2]string {
	a, b := keys[r.Intn(len(keys))], keys[r.Intn(len(keys))]
	narrow := [][2]string{{a, ""}, {"", a}, {min(a, b), max(a, b)}, {a, a + "\x00"}, {max(a, b), min(a, b)}}
	return [][2]string{{"", ""}, narrow[r.Intn(len(narrow))]}
}

// Long lists of operations: whatever is committed, every state that is pinned is as it was.
func TestStoreIsAVersionedMap(t *testing.T) {
	codes := map[int64]int{}
	for seed := range int64(14) {
		r := newDice(600 + seed)
		keys := r.keys(int(r.pick(2, 6, 12, 20)))
		s, v := created(t, impl.CapMax), newVersioned()
		for turn := range 110 {
			what := fmt.Sprint("seed ", seed, " turn ", turn)
			op := r.op(s, keys)
			got := impl.Do(s, op)
			code, pin := v.do(op)
			if got.Code != code || got.Pin != pin {
				t.Fatalf("%s: %+v: code %d pin %d, want %d and %d: %s", what, op, got.Code, got.Pin, code, pin, tellStore(s))
			}
			s = got.Store
			codes[code]++
			wantVersions(t, what, s, v, r.ranges(keys))
			if t.Failed() {
				t.Fatalf("%s: %+v: %s", what, op, tellStore(s))
			}
		}
	}
	for _, code := range []int64{impl.StOk, impl.StBad, impl.StBusy, impl.StTxn, impl.StKey, impl.StVal, impl.StPins, impl.StPin} {
		if codes[code] < 5 {
			t.Errorf("code %d only %d times", code, codes[code])
		}
	}
}

// Eight pins a commit apart, held over many commits that write every key anew, and let go in every order of a drawn kind.
func TestPinsOverManyCommits(t *testing.T) {
	for seed := range int64(8) {
		r := newDice(650 + seed)
		keys := r.keys(10)
		s, v := created(t, impl.CapMax), newVersioned()
		turn := func(op impl.Op) {
			t.Helper()
			got := impl.Do(s, op)
			if code, pin := v.do(op); got.Code != code || got.Pin != pin {
				t.Fatalf("seed %d: %+v: code %d pin %d, want %d and %d", seed, op, got.Code, got.Pin, code, pin)
			}
			s = got.Store
		}
		commit := func() {
			t.Helper()
			turn(impl.Op{Kind: impl.OpBegin})
			for range 1 + r.Intn(12) {
				op := impl.Op{Kind: r.pick(impl.OpPut, impl.OpPut, impl.OpDel), Key: keys[r.Intn(len(keys))], Val: r.value()}
				turn(op)
			}
			turn(impl.Op{Kind: impl.OpCommit})
		}
		for range impl.PinMax {
			turn(impl.Op{Kind: impl.OpPin})
			commit()
		}
		for range 10 {
			commit()
		}
		wantVersions(t, fmt.Sprint("seed ", seed, ", all pinned"), s, v, [][2]string{{"", ""}})
		for _, i := range r.Perm(impl.PinMax) {
			turn(impl.Op{Kind: impl.OpUnpin, Pin: int64(i) + 1})
			commit()
			wantVersions(t, fmt.Sprint("seed ", seed, " without pin ", i+1), s, v, [][2]string{{"", ""}, {keys[3], keys[7]}})
		}
		if t.Failed() {
			t.FailNow()
		}
	}
}

// The smallest Id that is free is given, wherever it stands.
func TestAnIdThatIsFreeAgain(t *testing.T) {
	for _, row := range []struct {
		words string
		ids   []int64
		next  int64
	}{
		{"", nil, 1},
		{"p", []int64{1}, 2},
		{"p u1", nil, 1},
		{"p p p", []int64{1, 2, 3}, 4},
		{"p p p u2", []int64{1, 3}, 2},
		{"p p p u1", []int64{2, 3}, 1},
		{"p p p u3", []int64{1, 2}, 3},
		{"p p p u1 u2", []int64{3}, 1},
		{"p p p u1 u2 p", []int64{1, 3}, 2},
		{"p p p u3 u1 u2", nil, 1},
		{"p p p p p u2 u4", []int64{1, 3, 5}, 2},
		{"p p p p p u4 u2 p", []int64{1, 2, 3, 5}, 4},
		{"p p p p p p p p u8", []int64{1, 2, 3, 4, 5, 6, 7}, 8},
		{"p p p p p p p p u1", []int64{2, 3, 4, 5, 6, 7, 8}, 1},
		{"p p p p p p p p u5", []int64{1, 2, 3, 4, 6, 7, 8}, 5},
	} {
		s := run(t, created(t, 60), "b +a c "+row.words)
		var ids []int64
		for _, p := range s.Pins {
			ids = append(ids, p.Id)
		}
		if !slices.Equal(ids, row.ids) {
			t.Errorf("%q: %d, want %d", row.words, ids, row.ids)
		}
		s = run(t, s, "b +b c")
		got := impl.Do(s, opOf("p"))
		want := s
		want.Pins = append(slices.Clone(s.Pins), impl.Pin{Id: row.next, Tx: s.Tx, Root: s.Meta.Root})
		slices.SortFunc(want.Pins, func(a, b impl.Pin) int { return int(a.Id - b.Id) })
		wantStoreRes(t, row.words, got, impl.StoreRes{Code: impl.StOk, Pin: row.next, Store: want})
		wantKeys(t, row.words, got.Store, row.next, "ab")
		for _, id := range row.ids {
			wantKeys(t, row.words, got.Store, id, "a")
		}
	}
	// Ids have no upper end; only how many there are has one.
	s := run(t, created(t, 60), "b +a c p p")
	s.Pins[0].Id, s.Pins[1].Id = 40, 1<<63-1
	if got := impl.Do(s, opOf("p")); got.Code != impl.StOk || got.Pin != 1 || !slices.Equal(got.Store.Pins, append([]impl.Pin{{Id: 1, Tx: 2, Root: 3}}, s.Pins...)) {
		t.Errorf("behind great Ids: %d, pin %d, %v", got.Code, got.Pin, got.Store.Pins)
	}
	wantKeys(t, "a great Id", s, 1<<63-1, "a")
	if got := impl.Do(s, impl.Op{Kind: impl.OpUnpin, Pin: 40}); got.Code != impl.StOk || !slices.Equal(got.Store.Pins, s.Pins[1:]) {
		t.Errorf("a great Id that goes: %d, %v", got.Code, got.Store.Pins)
	}
}

// Which pages a commit takes: those of the committed tree and of every pin stay, all others may be used again.
func TestPagesThatAreTaken(t *testing.T) {
	for _, row := range []struct {
		words, tree string
	}{
		{"", ":2"},
		{"b c", ":2"},
		{"b +a c", "a:3"},
		{"b +a c b +b c", "ab:2"},
		{"b +a c b +b c b +c c", "abc:3"},
		{"p b +a c b +b c", "ab:4"},
		{"p b +a c b +b c b +c c", "abc:3"},
		{"p b +a c p b +b c b +c c", "abc:5"},
		{"p b +a c p b +b c u1 b +c c", "abc:2"},
		{"p b +a c p b +b c u2 b +c c", "abc:3"},
		// A pin on what is committed holds nothing more, until the next commit.
		{"b +a c p p p b +b c", "ab:2"},
		{"b +a c p p p b +b c b +c c", "abc:4"},
		// A value that did not change stays on its pages, the ones behind its first, too.
		{"b *a c", "a^3:5"},
		{"b *a c b +b c", "a^3b:2"},
		{"b *a c b +b c b +c c", "a^3bc:5"},
		{"b *a c b *a c", "a^2:7"},
		{"b *a c b *a c b +b c", "a^2b:3"},
		{"b *a c p b *a c b +b c", "a^2b:8"},
		{"b *a c p b -a c b +b c", "b:6"},
		// What a rollback leaves is free.
		{"b *a *b r b +c c", "c:3"},
		{"b +a +b +c +d +e c", "(abc:3 de:4):5"},
		{"b +a +b +c +d +e c b -e c", "(ab:2 cd:6):7"},
		{"b +a +b +c +d +e +f c b +g c", "(abc:3 defg:2):6"},
		{"b +a +b +c +d +e +f c b +g c b -a c", "(bc:4 defg:2):5"},
		{"b +a +b +c +d +e +f c p b +g c b -a c", "(bc:7 defg:2):8"},
		{"b +a +b +c +d +e +f c p b +g c u1 b -a c", "(bc:4 defg:2):5"},
	} {
		s := run(t, created(t, 60), row.words)
		if got := show(s.Tree); got != row.tree {
			t.Errorf("%q: %s, want %s", row.words, got, row.tree)
		}
		commits := int64(strings.Count(" "+row.words, " c"))
		if want := commits + 1; s.Tx != want || impl.ReadMeta(s.Disk, "f").Tx != want || s.Meta.Root != s.Tree.Nodes[0].Page {
			t.Errorf("%q: tx %d, meta %+v, want %d", row.words, s.Tx, s.Meta, want)
		}
		if len(s.Disk.Cache) > 0 || s.Meta.Id != 7 {
			t.Errorf("%q: %d writes in the cache, Id %d", row.words, len(s.Disk.Cache), s.Meta.Id)
		}
	}
}

func TestViews(t *testing.T) {
	s := run(t, created(t, 60), "b +a +b +c +d +e c p b +f -a c p b +g -b")
	for _, row := range []struct {
		pin          int64
		lo, hi, keys string
	}{
		{0, "", "", "bcdef"}, {-1, "", "", "cdefg"}, {1, "", "", "abcde"}, {2, "", "", "bcdef"},
		{0, "c", "", "cdef"}, {0, "", "c", "b"}, {0, "c", "e", "cd"}, {0, "c", "c", ""}, {0, "e", "c", ""}, {0, "bb", "cc", "c"}, {0, "g", "", ""},
		{-1, "c", "d", "c"}, {-1, "f", "", "fg"}, {-1, "", "c", ""}, {1, "", "b", "a"}, {1, "b", "c", "b"}, {1, "e", "", "e"}, {2, "f", "g", "f"}, {2, "", "b", ""},
		{3, "", "", "none"}, {-2, "", "", "none"}, {9, "", "", "none"}, {1<<63 - 1, "", "", "none"}, {-1 << 63, "", "", "none"}, {1 << 32, "", "", "none"},
	} {
		if got := keysOf(impl.View(s, row.pin, row.lo, row.hi)); got != row.keys {
			t.Errorf("pin %d from %q to %q: %q, want %q", row.pin, row.lo, row.hi, got, row.keys)
		}
	}
	if got := impl.View(s, 1, "b", "d"); !slices.Equal(got.Pairs, []impl.Pair{{Key: "b", Val: "vb"}, {Key: "c", Val: "vc"}}) {
		t.Errorf("with values: %v", got.Pairs)
	}
	wantNoView(t, "after a rollback", run(t, s, "r"), -1)
	wantNoView(t, "after a commit", run(t, s, "c"), -1)
	wantNoView(t, "after the pin went", run(t, s, "u1"), 1)
	wantKeys(t, "the other pin", run(t, s, "u1"), 2, "bcdef")
	empty := created(t, 60)
	wantKeys(t, "an empty store", empty, 0, "")
	wantKeys(t, "an empty transaction", run(t, empty, "b"), -1, "")
	wantKeys(t, "an empty pin", run(t, empty, "p b +a c"), 1, "")
	for what, change := range map[string]func(s *impl.Store){
		"the zero store":    func(s *impl.Store) { *s = impl.Store{} },
		"another Tx":        func(s *impl.Store) { s.Tx++ },
		"a dead disk":       func(s *impl.Store) { s.Disk.Dead = true },
		"another name":      func(s *impl.Store) { s.Name = "g" },
		"a pin without Id":  func(s *impl.Store) { s.Pins = []impl.Pin{{Tx: 1, Root: s.Meta.Root}} },
		"a tree of its own": func(s *impl.Store) { s.Tree = draw("ab:2") },
	} {
		bad := s
		change(&bad)
		for pin := int64(-1); pin <= 2; pin++ {
			wantNoView(t, what, bad, pin)
		}
	}
}
