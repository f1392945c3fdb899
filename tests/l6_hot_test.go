package tests

import (
	"fmt"
	"slices"
	"testing"

	"loop.example/s02098/impl"
)

// hotStore is a store under operations, with what was done to it in the meantime.
type hotStore struct {
	store impl.Store
	keys  []string
	codes map[int64]int
	kinds map[int64]int
}

// meanwhile does drawn operations, any but one that lets a pin go that must stay.
func (h *hotStore) meanwhile(t *testing.T, r dice, stay ...int64) {
	t.Helper()
	for range r.Intn(6) {
		op := r.op(h.store, h.keys)
		if op.Kind == impl.OpUnpin && slices.Contains(stay, op.Pin) {
			continue
		}
		got := impl.Do(h.store, op)
		h.codes[got.Code]++
		if h.store = got.Store; got.Code == impl.StOk {
			h.kinds[op.Kind]++
		}
	}
}

// bases are 0, the last one, and one between.
func (r dice) bases(pin impl.Pin) []int64 {
	return slices.Compact([]int64{0, r.Int63n(pin.Tx), pin.Tx - 1})
}

// pinnedStore has lived, and has pins on some of its states.
func (r dice) pinnedStore(t *testing.T, keys []string) impl.Store {
	t.Helper()
	s := r.lived(t, r.pick(25, 60, 200, impl.CapMax), 50, keys)
	if len(s.Pins) == impl.PinMax {
		return s
	}
	return run(t, s, "p")
}

// wantMeanwhile asks that what was done between the steps was not all of one kind.
func wantMeanwhile(t *testing.T, codes, kinds map[int64]int) {
	t.Helper()
	for _, code := range []int64{impl.StOk, impl.StBad, impl.StBusy, impl.StTxn, impl.StKey, impl.StVal, impl.StFull, impl.StPins, impl.StPin} {
		if codes[code] < 5 {
			t.Errorf("code %d only %d times between the steps", code, codes[code])
		}
	}
	for kind := int64(impl.OpBegin); kind <= impl.OpUnpin; kind++ {
		if kinds[kind] < 10 {
			t.Errorf("operation %d done only %d times between the steps", kind, kinds[kind])
		}
	}
}

// Whatever is done between the steps of a backup, its chunks are those that are told without it, and so are the backups behind them.
func TestHotBackups(t *testing.T) {
	codes, kinds := map[int64]int{}, map[int64]int{}
	for seed := range int64(40) {
		r := newDice(700 + seed)
		keys := r.keys(int(r.pick(3, 8, 20)))
		s := r.pinnedStore(t, keys)
		pin := s.Pins[r.Intn(len(s.Pins))]
		for _, base := range r.bases(pin) {
			what := fmt.Sprint("seed ", seed, " pin ", pin.Id, " on ", base)
			cold := answersOf(t, s, started(t, s, pin.Id, base))
			hot := hotStore{s, keys, codes, kinds}
			hot.meanwhile(t, r, pin.Id)
			start := impl.BackupStart(hot.store, pin.Id, base)
			wantBackup(t, what+", the start", start, impl.BackupStart(s, pin.Id, base))
			b := start.Backup
			for i, want := range cold {
				hot.meanwhile(t, r, pin.Id)
				got := impl.BackupStep(hot.store, b)
				wantBackup(t, fmt.Sprint(what, ", step ", i), got, want)
				if b = got.Backup; t.Failed() {
					t.Fatalf("%s: %s", what, tellStore(hot.store))
				}
			}
			hot.meanwhile(t, r, pin.Id)
			wantBackupErr(t, what+", behind the end", impl.BackupStep(hot.store, b), impl.BkDone)
		}
	}
	wantMeanwhile(t, codes, kinds)
}

// turns is a backup that is told in turn with another one.
type turns struct {
	pin  impl.Pin
	cold []impl.BackupRes
	now  impl.Backup
	next int
}

func (b *turns) step(t *testing.T, what string, s impl.Store) {
	t.Helper()
	got := impl.BackupStep(s, b.now)
	wantBackup(t, fmt.Sprint(what, " pin ", b.pin.Id, " step ", b.next), got, b.cold[b.next])
	b.now = got.Backup
	b.next++
}

// Two backups of two pins, told in turn: neither is seen in the other, nor is what is done between.
func TestTwoHotBackups(t *testing.T) {
	codes, kinds := map[int64]int{}, map[int64]int{}
	mixed := 0
	for seed := range int64(40) {
		r := newDice(750 + seed)
		keys := r.keys(int(r.pick(3, 8, 20)))
		s := r.pinnedStore(t, keys)
		if len(s.Pins) < 2 {
			continue
		}
		var both []*turns
		for _, i := range r.Perm(len(s.Pins))[:2] {
			pin := s.Pins[i]
			b := started(t, s, pin.Id, r.pick(r.bases(pin)...))
			both = append(both, &turns{pin: pin, cold: answersOf(t, s, b), now: b})
		}
		if both[0].pin.Tx != both[1].pin.Tx {
			mixed++
		}
		hot := hotStore{s, keys, codes, kinds}
		for len(both) > 0 {
			hot.meanwhile(t, r, both[0].pin.Id, both[len(both)-1].pin.Id)
			at := r.Intn(len(both))
			both[at].step(t, fmt.Sprint("seed ", seed), hot.store)
			if t.Failed() {
				t.Fatalf("seed %d: %s", seed, tellStore(hot.store))
			}
			if both[at].next == len(both[at].cold) {
				// Its pin may go; the other one stays.
				hot.store = impl.Do(hot.store, impl.Op{Kind: impl.OpUnpin, Pin: both[at].pin.Id}).Store
				both = slices.Delete(both, at, at+1)
			}
		}
	}
	if mixed < 15 {
		t.Errorf("only %d pairs of pins on two states", mixed)
	}
	wantMeanwhile(t, codes, kinds)
}

// At each place between two steps in turn: commits that write every key anew and use again whatever page they may.
func TestCommitsAtEveryPlace(t *testing.T) {
	s := run(t, created(t, 40), "b +a *b +c +d +e +f *g c p b +h -a c p b +i c p")
	const burst = " b +a *b +c +d +e +f *g -h c b -a -b -c -d c b *z c b +a *b -z c"
	for _, pin := range s.Pins {
		for base := range pin.Tx {
			cold := answersOf(t, s, started(t, s, pin.Id, base))
			for place := range len(cold) + 1 {
				what := fmt.Sprint("pin ", pin.Id, " on ", base, ", commits ahead of step ", place)
				hot, b := s, started(t, s, pin.Id, base)
				for i, want := range cold {
					if i == place {
						hot = run(t, hot, burst)
					}
					got := impl.BackupStep(hot, b)
					wantBackup(t, fmt.Sprint(what, ", step ", i), got, want)
					b = got.Backup
				}
			}
		}
	}
}

// A commit that is refused for want of room leaves its pages in the cache; what is pinned is told all the same.
func TestBackupOverAFullDisk(t *testing.T) {
	s := run(t, created(t, 60), "b +a *b +c +d +e c p b +f c")
	for more := range int64(12) {
		tight := withRoom(s, impl.PageCount(s.Disk, "f")+more)
		cold := answersOf(t, tight, started(t, tight, 1, 0))
		hot, b := run(t, tight, "b *g *h *i *j *k"), started(t, tight, 1, 0)
		for i, want := range cold {
			r := impl.Do(hot, opOf("c"))
			if r.Code != impl.StFull || more > 0 && len(r.Store.Disk.Cache) == 0 {
				t.Fatalf("room for %d more: code %d, %d writes in the cache", more, r.Code, len(r.Store.Disk.Cache))
			}
			hot = r.Store
			got := impl.BackupStep(hot, b)
			wantBackup(t, fmt.Sprint("room for ", more, " more, step ", i), got, want)
			b = got.Backup
		}
	}
}

// The pages of a full stream are the pinned state; with those of a later pin on the first one's Tx they are that one's.
func TestStreamsHoldTheirStates(t *testing.T) {
	chains := 0
	for seed := range int64(25) {
		r := newDice(790 + seed)
		s := r.pinnedStore(t, r.keys(int(r.pick(3, 8, 20))))
		for _, first := range s.Pins {
			full := toldPages(answersOf(t, s, started(t, s, first.Id, 0)))
			wantHolds(t, fmt.Sprint("seed ", seed), full, s, first)
			for _, later := range s.Pins {
				if later.Tx <= first.Tx {
					continue
				}
				laid := codes{}
				for _, pages := range []codes{full, toldPages(answersOf(t, s, started(t, s, later.Id, first.Tx)))} {
					for num, page := range pages {
						laid[num] = page
					}
				}
				wantHolds(t, fmt.Sprint("seed ", seed, " on pin ", first.Id), laid, s, later)
				chains++
			}
		}
	}
	if chains < 50 {
		t.Errorf("only %d chains", chains)
	}
}

// wantHolds looks at the pages in a file of their own.
func wantHolds(t *testing.T, what string, pages codes, s impl.Store, pin impl.Pin) {
	t.Helper()
	got := impl.LoadTree(pages.disk(), "f", pin.Root)
	if want := impl.View(s, pin.Id, "", ""); !got.Ok || !slices.Equal(impl.TreeScan(got.Tree, "", ""), want.Pairs) {
		t.Errorf("%s: the pages told of pin %d are not its state: loaded %v", what, pin.Id, got.Ok)
	}
}
