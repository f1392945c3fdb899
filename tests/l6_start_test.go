package tests

import (
	"fmt"
	"slices"
	"testing"

	"loop.example/s02098/impl"
)

// wantLeft asks for the whole answer: nothing of the backup is told yet.
func wantLeft(t *testing.T, what string, s impl.Store, pin impl.Pin, base int64, left []int64) {
	t.Helper()
	want := impl.Backup{Pin: pin.Id, Id: s.Meta.Id, Tx: pin.Tx, Base: base, Root: pin.Root, Left: left}
	wantBackup(t, fmt.Sprint(what, ", pin ", pin.Id, " on ", base), impl.BackupStart(s, pin.Id, base), impl.BackupRes{Backup: want})
}

// What the commits of a store leave to be told, for every base that the pin has: lefts has the pages on base 0, then on 1, and so on.
func TestWhatIsLeft(t *testing.T) {
	for _, row := range []struct {
		words string
		pin   impl.Pin
		lefts [][]int64
	}{
		{"p", impl.Pin{Id: 1, Tx: 1, Root: 2}, [][]int64{{2}}},
		{"p b +a c", impl.Pin{Id: 1, Tx: 1, Root: 2}, [][]int64{{2}}},
		{"b +a c p", impl.Pin{Id: 1, Tx: 2, Root: 3}, [][]int64{{3}, {3}}},
		{"p p b +a c p", impl.Pin{Id: 3, Tx: 2, Root: 3}, [][]int64{{3}, {3}}},
		// Nothing was changed by the last commits: no page is left.
		{"b c p", impl.Pin{Id: 1, Tx: 2, Root: 2}, [][]int64{{2}, nil}},
		{"b c b c b c p", impl.Pin{Id: 1, Tx: 4, Root: 2}, [][]int64{{2}, nil, nil, nil}},
		{"b +a c b c p", impl.Pin{Id: 1, Tx: 3, Root: 3}, [][]int64{{3}, {3}, nil}},
		// (abc:3 de:4):5, then (abc:3 def:2):6
		{"b +a +b +c +d +e c p", impl.Pin{Id: 1, Tx: 2, Root: 5}, [][]int64{{3, 4, 5}, {3, 4, 5}}},
		{"b +a +b +c +d +e c p b +f c p", impl.Pin{Id: 1, Tx: 2, Root: 5}, [][]int64{{3, 4, 5}, {3, 4, 5}}},
		{"b +a +b +c +d +e c p b +f c p", impl.Pin{Id: 2, Tx: 3, Root: 6}, [][]int64{{2, 3, 6}, {2, 3, 6}, {2, 6}}},
		// a^3:5, then a^3b:2 with the value where it was: the root alone is new.
		{"b *a c p", impl.Pin{Id: 1, Tx: 2, Root: 5}, [][]int64{{3, 4, 5}, {3, 4, 5}}},
		{"b *a c b +b c p", impl.Pin{Id: 1, Tx: 3, Root: 2}, [][]int64{{2, 3, 4}, {2, 3, 4}, {2}}},
		{"b *a c b +b c b c p", impl.Pin{Id: 1, Tx: 4, Root: 2}, [][]int64{{2, 3, 4}, {2, 3, 4}, {2}, nil}},
		// a^2:7: the value was put anew, so its pages are new, too.
		{"b *a c b *a c p", impl.Pin{Id: 1, Tx: 3, Root: 7}, [][]int64{{2, 6, 7}, {2, 6, 7}, {2, 6, 7}}},
		// a^3b^2:7: one value new, one old.
		{"b *a c b *b c p", impl.Pin{Id: 1, Tx: 3, Root: 7}, [][]int64{{2, 3, 4, 6, 7}, {2, 3, 4, 6, 7}, {2, 6, 7}}},
	} {
		s := run(t, created(t, 60), row.words)
		if int64(len(row.lefts)) != row.pin.Tx || !slices.Contains(s.Pins, row.pin) {
			t.Fatalf("%q: the row is wrong: %v", row.words, s.Pins)
		}
		for base, left := range row.lefts {
			wantLeft(t, row.words, s, row.pin, int64(base), left)
		}
		wantBackupErr(t, row.words+", the pin's own Tx", impl.BackupStart(s, row.pin.Id, row.pin.Tx), impl.BkBase)
		// What is begun and not committed is not told, nor what is rolled back.
		open := run(t, s, "b +x *y -a")
		wantLeft(t, row.words+", a transaction", open, row.pin, 0, row.lefts[0])
		wantLeft(t, row.words+", a rollback", run(t, open, "r"), row.pin, 0, row.lefts[0])
	}
}

// stampedSheaf has the stamps that are given for some of its pages.
func stampedSheaf(s sheaf, stamps map[int64]int64) sheaf {
	for num, tx := range stamps {
		s = s.with(num, stamped(s[num], tx))
	}
	return s
}

// In a tree that no commit has laid every page is asked for its own stamp, whatever stands above it: leaves, branches and overflow pages.
func TestStampsAboveTheBase(t *testing.T) {
	deep := map[int64]int64{9: 1, 8: 7, 7: 2, 6: 6, 5: 3, 4: 5, 3: 4}
	chains := map[int64]int64{4: 1, 2: 2, 3: 3, 7: 4, 8: 5, 5: 6, 6: 7}
	for _, row := range []struct {
		what   string
		pages  sheaf
		stamps map[int64]int64
		root   int64
		nums   []int64
	}{
		{"three levels", deepSheaf().withMeta(9, 3, 8), deep, 3, []int64{3, 4, 5, 6, 7, 8, 9}},
		{"below the root", deepSheaf().withMeta(9, 3, 8), deep, 4, []int64{4, 5, 6}},
		{"a leaf", deepSheaf().withMeta(9, 3, 8), deep, 8, []int64{8}},
		{"long values", longSheaf().withMeta(9, 4, 4), chains, 4, []int64{2, 3, 4, 5, 6, 7, 8}},
		{"a leaf with a long value", longSheaf().withMeta(9, 4, 4), chains, 3, []int64{3, 5, 6}},
		{"stamps above the pin's Tx", deepSheaf().withMeta(9, 3, 8), map[int64]int64{9: 10, 8: impl.NumMax, 7: 20, 6: 6, 5: 9, 4: 11, 3: 8}, 3, []int64{3, 4, 5, 6, 7, 8, 9}},
		{"all of one stamp", deepSheaf().withMeta(9, 3, 8), map[int64]int64{9: 5, 8: 5, 7: 5, 6: 5, 5: 5, 4: 5, 3: 5}, 3, []int64{3, 4, 5, 6, 7, 8, 9}},
		{"all stamps 1", longSheaf().withMeta(9, 4, 4), nil, 4, []int64{2, 3, 4, 5, 6, 7, 8}},
	} {
		s := opened(t, row.what, stampedSheaf(row.pages, row.stamps).disk())
		for tx := int64(1); tx <= 9; tx += 4 {
			s.Pins = []impl.Pin{{Id: 3, Tx: tx, Root: row.root}}
			for base := range tx {
				var left []int64
				for _, num := range row.nums {
					if max(row.stamps[num], 1) > base {
						left = append(left, num)
					}
				}
				wantLeft(t, row.what, s, s.Pins[0], base, left)
			}
			wantBackupErr(t, row.what, impl.BackupStart(s, 3, tx), impl.BkBase)
		}
	}
}

// The root of a pin that was made by hand may stand on page 0, where no meta stands.
func TestBackupFromPage0(t *testing.T) {
	pages := deepSheaf().withMeta(9, 3, 8).with(0, stamped(branchPage(kid("", 7), kid("e", 4)), 5))
	s := opened(t, "with page 0", pages.disk())
	s.Pins = []impl.Pin{{Id: 1, Tx: 9, Root: 0}, {Id: 2, Tx: 9, Root: 3}}
	wantLeft(t, "page 0", s, s.Pins[0], 0, []int64{0, 4, 5, 6, 7, 8, 9})
	wantLeft(t, "page 0", s, s.Pins[0], 4, []int64{0})
	wantLeft(t, "page 0", s, s.Pins[0], 5, nil)
	wantLeft(t, "page 3", s, s.Pins[1], 0, []int64{3, 4, 5, 6, 7, 8, 9})
	page := modelNew(pages[0])
	answers := answersOf(t, s, started(t, s, 1, 4))
	if want := append(headChunk(started(t, s, 1, 4)), pageChunk(0, page)...); string(streamOf(answers[:2])) != string(want) {
		t.Errorf("the stream from page 0: % x", streamOf(answers))
	}
}

// The greatest numbers that a store can have.
func TestBackupOfTheLastTx(t *testing.T) {
	s := opened(t, "the last Tx", sheaf{999: stamped(leafPage(), impl.NumMax)}.with(0, stamped(metaPage(impl.NumMax, 999, 0), impl.NumMax)).disk())
	s.Pins = []impl.Pin{{Id: 1<<63 - 1, Tx: impl.NumMax, Root: 999}}
	wantLeft(t, "the last Tx", s, s.Pins[0], 0, []int64{999})
	wantLeft(t, "the last Tx", s, s.Pins[0], impl.NumMax-1, []int64{999})
	wantBackupErr(t, "the last Tx", impl.BackupStart(s, 1<<63-1, impl.NumMax), impl.BkBase)
	b := started(t, s, 1<<63-1, impl.NumMax-1)
	head := "BK\x00\x94\x35\x77\x00\x94\x35\x77\xff\x93\x35\x77\xe7\x03\x00\x00\x01\x00\x00\x00"
	if got := impl.BackupStep(s, b); string(got.Chunk) != head {
		t.Errorf("the greatest numbers: % x", got.Chunk)
	}
}

// brokenStores are none.
func brokenStores(base impl.Store) map[string]impl.Store {
	return map[string]impl.Store{
		"the zero store":        {},
		"no disk":               changedStore(base, func(s *impl.Store) { s.Disk = impl.Disk{} }),
		"a dead disk":           changedStore(base, func(s *impl.Store) { s.Disk.Dead = true }),
		"a wrong disk":          changedStore(base, func(s *impl.Store) { s.Disk.Fuel = -2 }),
		"another name":          changedStore(base, func(s *impl.Store) { s.Name = "g" }),
		"another Tx":            changedStore(base, func(s *impl.Store) { s.Tx++ }),
		"another Id":            changedStore(base, func(s *impl.Store) { s.Meta.Id++ }),
		"another tree":          changedStore(base, func(s *impl.Store) { s.Tree = draw("ab:2") }),
		"a Txn without HasTxn":  changedStore(base, func(s *impl.Store) { s.HasTxn, s.Txn = false, draw("ab") }),
		"a wrong Txn":           changedStore(base, func(s *impl.Store) { s.HasTxn, s.Txn = true, draw("ab:99") }),
		"a wrong pin behind it": changedStore(base, func(s *impl.Store) { s.Pins = append(s.Pins, impl.Pin{Id: 99, Tx: 1, Root: 1}) }),
		"a pin with Id 0":       changedStore(base, func(s *impl.Store) { s.Pins = append([]impl.Pin{{Tx: 1, Root: s.Meta.Root}}, s.Pins...) }),
		"too many pins": changedStore(base, func(s *impl.Store) {
			for id := int64(20); id < 28; id++ {
				s.Pins = append(s.Pins, impl.Pin{Id: id, Tx: s.Tx, Root: s.Meta.Root})
			}
		}),
	}
}

// Each Err, and which goes first where more than one fits.
func TestStartIsRefused(t *testing.T) {
	s := run(t, created(t, 60), "p b +a c p b +b c p b +c c u2")
	for what, broken := range brokenStores(s) {
		for _, pin := range []int64{1, 3, 0, -1, 2, 9} {
			for _, base := range []int64{0, 1, 2, 3, -1, 99} {
				wantBackupErr(t, fmt.Sprint(what, ", pin ", pin, " on ", base), impl.BackupStart(broken, pin, base), impl.BkStore)
			}
		}
	}
	for _, row := range []struct{ pin, base, err int64 }{
		{1, 0, impl.BkOk}, {1, 1, impl.BkBase}, {1, 2, impl.BkBase}, {1, -1, impl.BkBase},
		{3, 0, impl.BkOk}, {3, 1, impl.BkOk}, {3, 2, impl.BkOk}, {3, 3, impl.BkBase}, {3, 4, impl.BkBase}, {3, 5, impl.BkBase}, {3, -1, impl.BkBase},
		{3, 1<<63 - 1, impl.BkBase}, {3, -1 << 63, impl.BkBase}, {3, 1 << 32, impl.BkBase}, {3, 1<<32 + 1, impl.BkBase}, {3, impl.NumMax, impl.BkBase},
		{0, 0, impl.BkPin}, {-1, 0, impl.BkPin}, {2, 0, impl.BkPin}, {4, 0, impl.BkPin}, {9, 0, impl.BkPin}, {-2, 0, impl.BkPin}, {-3, 0, impl.BkPin},
		{1<<63 - 1, 0, impl.BkPin}, {-1 << 63, 0, impl.BkPin}, {1<<32 + 1, 0, impl.BkPin}, {1<<32 + 3, 2, impl.BkPin},
		{0, -1, impl.BkPin}, {-1, -1, impl.BkPin}, {2, -1, impl.BkPin}, {2, 99, impl.BkPin}, {0, 99, impl.BkPin}, {9, 1 << 62, impl.BkPin},
	} {
		what := fmt.Sprint("pin ", row.pin, " on ", row.base)
		if got := impl.BackupStart(s, row.pin, row.base); row.err != impl.BkOk {
			wantBackupErr(t, what, got, row.err)
		} else if got.Err != impl.BkOk {
			t.Errorf("%s: Err %d", what, got.Err)
		}
	}
	// A transaction that is open is no pin, nor is what is committed.
	open := run(t, s, "b +d")
	wantBackupErr(t, "the transaction", impl.BackupStart(open, -1, 0), impl.BkPin)
	wantBackupErr(t, "what is committed", impl.BackupStart(open, 0, 0), impl.BkPin)
	wantBackupErr(t, "a store without pins", impl.BackupStart(created(t, 60), 1, 0), impl.BkPin)
}
