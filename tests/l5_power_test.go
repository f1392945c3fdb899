package tests

import (
	"fmt"
	"slices"
	"testing"

	"loop.example/s02098/impl"
)

// history is a list of operations on a created store as it goes without an end of the power.
type history struct {
	room  int64
	ops   []impl.Op
	codes []int64
	steps int64
}

func (r dice) history(t *testing.T, room int64, count int) history {
	t.Helper()
	h := history{room: room}
	keys := r.keys(2 + r.Intn(12))
	s := created(t, room)
	s.Disk.Fuel = impl.FuelMax
	for range count {
		op := r.op(s, keys)
		got := impl.Do(s, op)
		h.ops, h.codes = append(h.ops, op), append(h.codes, got.Code)
		s = got.Store
	}
	h.steps = impl.FuelMax - s.Disk.Fuel
	return h
}

// crashes are some choices of what is kept and torn: none, all, none but the last, and drawn ones.
func (r dice) crashes(d impl.Disk) []impl.Crash {
	n := len(d.Cache)
	all := slices.Repeat([]bool{true}, n)
	last := make([]bool, n+1)
	last[max(n-1, 0)] = true
	out := []impl.Crash{{Tear: -1}, {Keep: all, Tear: -1}, {Keep: last, Tear: -1}, {Tear: int64(n) - 1, At: r.Int63n(129)}, {Keep: all, Tear: int64(n) - 1, At: r.Int63n(129)}}
	for range 4 {
		out = append(out, r.crash(d))
	}
	return out
}

// wantReopened asks for one of two states behind a crash, and that the store goes on from there.
func wantReopened(t *testing.T, what string, s impl.Store, c impl.Crash, underWay bool) {
	t.Helper()
	what = fmt.Sprintf("%s, %v", what, c)
	now, txn := modelPairs(s.Tree), modelPairs(s.Txn)
	got := impl.OpenStore(impl.CrashDisk(s.Disk, c), "f")
	if got.Code != impl.StOk || got.Pin != 0 || got.Store.HasTxn || len(got.Store.Pins) > 0 || !impl.ValidStore(got.Store) {
		t.Fatalf("%s: code %d: %s", what, got.Code, tellStore(got.Store))
	}
	pairs := impl.View(got.Store, 0, "", "").Pairs
	switch {
	case got.Store.Tx == s.Tx && slices.Equal(pairs, now):
	case underWay && got.Store.Tx == s.Tx+1 && slices.Equal(pairs, txn):
	default:
		t.Fatalf("%s: tx %d %q, want that of %d %q", what, got.Store.Tx, pairs, s.Tx, now)
	}
	// The meta is the last that is written, and alone: kept whole it is the new state, lost the old one.
	meta := len(s.Disk.Cache) == 1 && s.Disk.Cache[0].Page < 2
	whole := meta && (c.Tear != 0 && len(c.Keep) > 0 && c.Keep[0] || c.Tear == 0 && c.At >= impl.PageBytes)
	lost := !meta || c.Tear != 0 && (len(c.Keep) == 0 || !c.Keep[0])
	if whole && got.Store.Tx != s.Tx+1 || lost && got.Store.Tx != s.Tx {
		t.Errorf("%s: tx %d, and %d before", what, got.Store.Tx, s.Tx)
	}
	wantGoesOn(t, what, got.Store, pairs)
}

// wantGoesOn pins, changes and commits, and looks at both states.
func wantGoesOn(t *testing.T, what string, s impl.Store, pairs []impl.Pair) {
	t.Helper()
	s.Disk.Cap = impl.CapMax
	for _, word := range []string{"p", "b", "*~", "+!", "c"} {
		got := impl.Do(s, opOf(word))
		if got.Code != impl.StOk {
			t.Fatalf("%s, then %s: code %d", what, word, got.Code)
		}
		s = got.Store
	}
	after := map[string]string{"~": longVal("~"), "!": shortVal("!")}
	for _, p := range pairs {
		if after[p.Key] == "" {
			after[p.Key] = p.Val
		}
	}
	wantVersion(t, what+", gone on", s, between(after, "", ""))
	if got := impl.View(s, 1, "", ""); !got.Ok || !slices.Equal(got.Pairs, pairs) || !impl.ValidStore(s) {
		t.Errorf("%s, the pin: %v %q", what, got.Ok, got.Pairs)
	}
}

// For drawn lists of operations the power goes at every step that there is.
func TestPowerAtEveryStep(t *testing.T) {
	underWay := 0
	for seed := range int64(24) {
		r := newDice(700 + seed)
		h := r.history(t, r.pick(8, 14, 25, 60, 100), 24)
		for fuel := int64(0); fuel <= h.steps+1; fuel++ {
			s := created(t, h.room)
			s.Disk.Fuel = fuel
			lost := false
			for i, op := range h.ops {
				got := impl.Do(s, op)
				what := fmt.Sprint("seed ", seed, " fuel ", fuel, " of ", h.steps, " turn ", i)
				if got.Code == impl.StLost {
					wantLost(t, what, s, op, got.Store)
					for _, c := range r.crashes(got.Store.Disk) {
						wantReopened(t, what, got.Store, c, true)
					}
					lost = true
					underWay++
					break
				}
				if got.Code != h.codes[i] {
					t.Fatalf("%s: code %d, want %d", what, got.Code, h.codes[i])
				}
				s = got.Store
			}
			if lost != (fuel < h.steps) {
				t.Errorf("seed %d fuel %d of %d: lost %v", seed, fuel, h.steps, lost)
			}
			if !lost {
				// What a full disk left in the cache is nothing that is needed.
				for _, c := range r.crashes(s.Disk) {
					wantReopened(t, fmt.Sprint("seed ", seed, " at the end"), s, c, false)
				}
			}
			if t.Failed() {
				t.FailNow()
			}
		}
	}
	if underWay < 150 {
		t.Errorf("only %d commits were under way", underWay)
	}
}

// wantLost asks that the loss came at a commit and changed the disk alone.
func wantLost(t *testing.T, what string, before impl.Store, op impl.Op, after impl.Store) {
	t.Helper()
	if op.Kind != impl.OpCommit || !after.Disk.Dead || after.Disk.Fuel != 0 {
		t.Errorf("%s: op %d, %s", what, op.Kind, tell(after.Disk))
	}
	rest := after
	rest.Disk = before.Disk
	wantStore(t, what, rest, before)
	if impl.ValidStore(after) || impl.Do(after, opOf("r")).Code != impl.StNone {
		t.Errorf("%s: a store on a dead disk", what)
	}
	wantNoView(t, what, after, 0)
}

// One store through crash after crash, beside a map: what was told is never lost, and what is there was told, or was under way.
func TestPowerAgainAndAgain(t *testing.T) {
	for seed := range int64(16) {
		r := newDice(750 + seed)
		keys := r.keys(int(r.pick(3, 10, 20)))
		s, v := created(t, impl.CapMax), newVersioned()
		lost := 0
		for turn := range 250 {
			what := fmt.Sprint("seed ", seed, " turn ", turn)
			if s.Disk.Fuel < 0 {
				s.Disk.Fuel = r.Int63n(25)
			}
			op := r.op(s, keys)
			got := impl.Do(s, op)
			if got.Code != impl.StLost {
				if code, pin := v.do(op); got.Code != code || got.Pin != pin {
					t.Fatalf("%s: %+v: code %d, want %d", what, op, got.Code, code)
				}
				s = got.Store
				continue
			}
			lost++
			s = opened(t, what, impl.CrashDisk(got.Store.Disk, r.crash(got.Store.Disk)))
			if s.Tx == v.now.tx+1 {
				v.now = version{s.Tx, v.txn}
			}
			v.open, v.txn = false, nil
			clear(v.pins)
			wantVersions(t, what, s, v, r.ranges(keys))
			if t.Failed() {
				t.FailNow()
			}
		}
		if lost < 3 {
			t.Errorf("seed %d: the power went only %d times", seed, lost)
		}
	}
}

// everyCrash is every choice of kept writes with none torn, and with each torn at each of the places.
func everyCrash(writes int, at []int64) []impl.Crash {
	var out []impl.Crash
	for bits := range 1 << writes {
		var keep []bool
		for i := range writes {
			keep = append(keep, bits>>i&1 == 1)
		}
		out = append(out, impl.Crash{Keep: keep, Tear: -1})
		for tear := range int64(writes) {
			for _, place := range at {
				out = append(out, impl.Crash{Keep: keep, Tear: tear, At: place})
			}
		}
	}
	return out
}

// Small commits, at every step, with every choice that a crash has.
func TestEveryCrashOfACommit(t *testing.T) {
	for _, words := range []string{
		"b", "b +a", "b +a c b +b", "b +a +b c b -a -b", "b +a c b +b c b *c", "p b +a c b +b", "b *a c b *a", "b +a +b +c +d c b +e", "b +a +b +c +d +e c b -e -d",
	} {
		s := run(t, created(t, 40), words)
		for fuel := int64(0); ; fuel++ {
			s.Disk.Fuel = fuel
			got := impl.Do(s, opOf("c"))
			if got.Code == impl.StOk {
				if got.Store.Disk.Fuel != 0 {
					t.Errorf("%q: fuel %d was more than enough", words, fuel)
				}
				break
			}
			what := fmt.Sprintf("%q fuel %d", words, fuel)
			wantLost(t, what, s, opOf("c"), got.Store)
			at := []int64{0, 1, 4, 8, 20, 119, 120, 123, 124, 127, 128}
			if len(got.Store.Disk.Cache) == 1 {
				at = everyPlace()
			}
			for _, c := range everyCrash(len(got.Store.Disk.Cache), at) {
				wantReopened(t, what, got.Store, c, true)
			}
			if t.Failed() {
				t.FailNow()
			}
		}
	}
}

// everyPlace is where a page can be torn.
func everyPlace() []int64 {
	var out []int64
	for at := range int64(impl.PageBytes + 1) {
		out = append(out, at)
	}
	return out
}

// The steps of a commit, one by one: which pages are in the cache, and when it is emptied.
func TestStepsOfACommit(t *testing.T) {
	s := run(t, created(t, 40), "b +a +b +c +d +e c p b *f")
	// Of "(abc:3 de^..f:4):5": the value on 2 and 6, the leaf on 7, the root on 8.
	nums := []int64{2, 6, 7, 8}
	kinds := []int64{impl.POver, impl.POver, impl.PLeaf, impl.PBranch}
	for fuel := int64(0); fuel <= 7; fuel++ {
		s.Disk.Fuel = fuel
		got := impl.Do(s, opOf("c"))
		code, cached := int64(impl.StLost), nums[:min(fuel, 4)]
		switch fuel {
		case 5:
			cached = nil
		case 6:
			cached = []int64{1}
		case 7:
			code, cached = impl.StOk, nil
		}
		var pages []int64
		for i, p := range got.Store.Disk.Cache {
			pages = append(pages, p.Page)
			page := impl.DecodePage(p.Data).Page
			kind := kinds[i]
			if fuel == 6 {
				kind = impl.PMeta
			}
			if p.Name != "f" || page.Tx != 3 || page.Kind != kind {
				t.Errorf("fuel %d: page %d is %+v", fuel, p.Page, page)
			}
		}
		d := got.Store.Disk
		if got.Code != code || !slices.Equal(pages, cached) || d.Fuel != 0 || d.Dead != (code == impl.StLost) {
			t.Errorf("fuel %d: code %d, pages %d, fuel %d, dead %v", fuel, got.Code, pages, d.Fuel, d.Dead)
		}
		durable := 6
		if fuel >= 5 {
			durable = 9
		}
		if len(d.Files[0].Data) != durable*impl.PageBytes {
			t.Errorf("fuel %d: %d bytes are durable", fuel, len(d.Files[0].Data))
		}
		if fuel == 6 {
			want := impl.Page{Kind: impl.PMeta, Tx: 3, Meta: impl.Meta{Id: 7, Root: 8, Count: 6}}
			if page := impl.DecodePage(d.Cache[0].Data).Page; !samePage(page, want) {
				t.Errorf("the meta: %+v", page)
			}
		}
	}
	s.Disk.Fuel = -1
	done := run(t, s, "c")
	wantTree(t, "the commit", done.Tree, draw("(abc:3 def^2:7):8"))
	if done.Tx != 3 || done.Meta != (impl.Meta{Id: 7, Root: 8, Count: 6}) || done.HasTxn || len(done.Txn.Nodes) > 0 || !slices.Equal(done.Pins, s.Pins) || done.Disk.Fuel != -1 {
		t.Errorf("the commit: %s", tellStore(done))
	}
	// The meta of the commit before stays where it is.
	if p := impl.DecodePage(impl.ReadPage(done.Disk, "f", 0)).Page; p.Tx != 2 || p.Meta.Root != 5 {
		t.Errorf("the meta before: %+v", p)
	}
}

// A creation that is cut off is a store without pairs, or none: never one that is broken.
func TestCreationCutOff(t *testing.T) {
	for fuel := range int64(6) {
		d := impl.DiskNew(9)
		d.Fuel = fuel
		got := impl.CreateStore(d, "f", 7)
		if got.Code != impl.StLost {
			t.Fatalf("fuel %d: code %d", fuel, got.Code)
		}
		lost := got.Store.Disk
		at := []int64{0, 1, 60, 120, 123, 124, 125, 127, 128}
		if fuel == 5 {
			at = everyPlace()
		}
		for _, c := range everyCrash(len(lost.Cache), at) {
			after := impl.CrashDisk(lost, c)
			o := impl.OpenStore(after, "f")
			what := fmt.Sprintf("fuel %d, %v", fuel, c)
			wantStoreRes(t, what, o, modelOpen(after, "f"))
			// Behind byte 125 the meta's code has only zeros, as the page has.
			whole := fuel == 5 && (c.Tear == 0 && c.At >= 125 || c.Tear < 0 && c.Keep[0])
			if want := map[bool]int64{true: impl.StOk, false: impl.StMeta}[whole]; o.Code != want {
				t.Errorf("%s: code %d, want %d", what, o.Code, want)
			}
			if o.Code == impl.StOk {
				wantGoesOn(t, what, o.Store, nil)
			}
			if t.Failed() {
				t.FailNow()
			}
		}
	}
}
