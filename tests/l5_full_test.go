package tests

import (
	"fmt"
	"slices"
	"strings"
	"testing"

	"loop.example/s02098/impl"
)

// wantFull asks that a commit is refused for want of room after so many pages were written: only the disk is another, and that only in its cache.
func wantFull(t *testing.T, what string, s impl.Store, written int) impl.Store {
	t.Helper()
	got := impl.Do(s, opOf("c"))
	want := s
	want.Disk.Cache = got.Store.Disk.Cache
	wantStoreRes(t, what, got, impl.StoreRes{Code: impl.StFull, Store: want})
	cache := got.Store.Disk.Cache
	if len(cache) != len(s.Disk.Cache)+written {
		t.Errorf("%s: %d writes in the cache, %d before, want %d more", what, len(cache), len(s.Disk.Cache), written)
	}
	wantStoreRes(t, what, got, modelDo(s, opOf("c")))
	if !impl.ValidStore(got.Store) {
		t.Errorf("%s: not valid any more", what)
	}
	for _, p := range append([]impl.Pin{{Id: 0}, {Id: -1}}, s.Pins...) {
		if before, after := impl.View(s, p.Id, "", ""), impl.View(got.Store, p.Id, "", ""); !sameScan(before, after) {
			t.Errorf("%s: pin %d is %v, and was %v", what, p.Id, after.Pairs, before.Pairs)
		}
	}
	return got.Store
}

// withRoom is the store on a disk for so many pages.
func withRoom(s impl.Store, room int64) impl.Store {
	s.Disk.Cap = room
	return s
}

// Each transaction is committed with just the room that it takes, with one page less, and with less still, down to none.
func TestCommitsAndRoom(t *testing.T) {
	for _, row := range []struct {
		words string
		given int // pages that the commit writes
		grown int // those of them behind the file's end
	}{
		{"b", 0, 0},
		{"b +a", 1, 1},
		{"b *a", 3, 3},
		{"b +a c b +b", 1, 0},
		{"b +a c b *b", 3, 2},
		{"b +a +b +c +d +e", 3, 3},
		{"b +a +b +c +d +e c b +f", 2, 1},
		{"b +a +b +c +d +e c b +f c b +g", 2, 0},
		{"b +a +b +c +d +e c b -e", 3, 2},
		{"b +a +b +c +d +e c b -e -d", 1, 0},
		{"b *a *b *c *d c b *a *b *c *d", 9, 8},
		// What only a pin holds is not given.
		{"b +a c p b +b", 1, 0},
		{"p b +a c b +b", 1, 1},
		{"p b +a c p b +b c b +c", 1, 1},
		{"p b +a c p b +b c u1 b +c", 1, 0},
		{"b *a c p b -a c b *b", 3, 3},
		{"b *a c p b -a c u1 b *b", 3, 0},
		{"b *a c p p b -a c u1 b *b", 3, 3},
		{"b +a +b +c +d +e c p b +f c b +g", 2, 2},
	} {
		s := run(t, created(t, 200), row.words)
		had := impl.PageCount(s.Disk, "f")
		need := had + int64(row.grown)
		for room := had; room <= need+1; room++ {
			what := fmt.Sprintf("%q with room for %d", row.words, room)
			tight := withRoom(s, room)
			if room >= need {
				got := impl.Do(tight, opOf("c"))
				wantStoreRes(t, what, got, modelDo(tight, opOf("c")))
				if got.Code != impl.StOk || got.Store.HasTxn || impl.PageCount(got.Store.Disk, "f") != need {
					t.Errorf("%s: code %d, %d pages", what, got.Code, impl.PageCount(got.Store.Disk, "f"))
				}
				wantVersion(t, what, got.Store, impl.View(s, -1, "", "").Pairs)
				continue
			}
			// The pages within the file come first: they are the smaller numbers.
			written := row.given - row.grown + int(room-had)
			full := wantFull(t, what, tight, written)
			wantAfterFull(t, what, tight, full, need)
		}
	}
}

func wantVersion(t *testing.T, what string, s impl.Store, pairs []impl.Pair) {
	t.Helper()
	if got := impl.View(s, 0, "", ""); !got.Ok || !slices.Equal(got.Pairs, pairs) {
		t.Errorf("%s: %v, want %v", what, got.Pairs, pairs)
	}
}

// wantAfterFull goes on from a full disk in every way that the document leaves.
func wantAfterFull(t *testing.T, what string, before, full impl.Store, need int64) {
	t.Helper()
	txn := impl.View(before, -1, "", "").Pairs
	now := impl.View(before, 0, "", "").Pairs
	// Room again: the same transaction is committed, and all that was cached is durable.
	roomy := impl.Do(withRoom(full, need), opOf("c"))
	if roomy.Code != impl.StOk || len(roomy.Store.Disk.Cache) > 0 {
		t.Errorf("%s, room again: code %d", what, roomy.Code)
	}
	wantVersion(t, what+", room again", roomy.Store, txn)
	// Rolled back: what is committed is as it was, and a transaction that takes nothing is committed.
	back := run(t, full, "r")
	if back.HasTxn || !impl.ValidStore(back) || len(back.Disk.Cache) != len(full.Disk.Cache) {
		t.Errorf("%s, rolled back: %s", what, tellStore(back))
	}
	wantVersion(t, what+", rolled back", back, now)
	if next := run(t, back, "b c"); next.Tx != before.Tx+1 || len(next.Disk.Cache) > 0 {
		t.Errorf("%s, rolled back: %s", what, tellStore(next))
	} else {
		wantVersion(t, what+", rolled back and committed", next, now)
	}
	// The power goes: the cache holds nothing that is needed.
	for _, keep := range [][]bool{nil, slices.Repeat([]bool{true}, len(full.Disk.Cache))} {
		o := opened(t, what, impl.CrashDisk(full.Disk, impl.Crash{Keep: keep, Tear: 0, At: 60}))
		if o.Tx != before.Tx {
			t.Errorf("%s, after a crash: tx %d", what, o.Tx)
		}
		wantVersion(t, what+", after a crash", o, now)
	}
	// Once more on the full disk: it is as full, and what stood there is still in the cache.
	again := impl.Do(full, opOf("c"))
	wantStoreRes(t, what+", again", again, modelDo(full, opOf("c")))
	if again.Code != impl.StFull || len(again.Store.Disk.Cache) < len(full.Disk.Cache) {
		t.Errorf("%s, again: code %d, %d in the cache", what, again.Code, len(again.Store.Disk.Cache))
	}
}

// A pin that goes makes the room that was missing.
func TestRoomThatPinsHold(t *testing.T) {
	s := run(t, created(t, 200), "b *a *b c p b -a -b +c c b *a *b")
	s = withRoom(s, impl.PageCount(s.Disk, "f"))
	full := wantFull(t, "with the pin", s, 0)
	wantKeys(t, "with the pin", full, 1, "ab")
	free := run(t, full, "u1 c")
	wantKeys(t, "without it", free, 0, "abc")
	if impl.PageCount(free.Disk, "f") != s.Disk.Cap || len(free.Disk.Cache) > 0 {
		t.Errorf("without it: %d pages", impl.PageCount(free.Disk, "f"))
	}
	// Other files take room, too.
	other := impl.SyncDisk(impl.WritePage(created(t, 5).Disk, "g", 0, pageOf(1)).Disk).Disk
	o := run(t, opened(t, "beside a file", other), "b +a c")
	wantKeys(t, "beside a file", o, 0, "a")
	wantFull(t, "beside a file", run(t, o, "b +b +c +d +e"), 1)
}

// The cache is full before the disk is: not a page of a commit goes into it any more.
func TestAFullCache(t *testing.T) {
	s := run(t, created(t, 200), "b *a *b c b *a *b *c *d *e")
	s = withRoom(s, impl.PageCount(s.Disk, "f")+2)
	for len(s.Disk.Cache) < impl.CacheMax {
		before := len(s.Disk.Cache)
		got := impl.Do(s, opOf("c"))
		if got.Code != impl.StFull || len(got.Store.Disk.Cache) != min(before+3, impl.CacheMax) {
			t.Fatalf("%d in the cache: code %d, %d then", before, got.Code, len(got.Store.Disk.Cache))
		}
		s = got.Store
	}
	s = withRoom(s, impl.CapMax)
	wantFull(t, "a full cache", s, 0)
	wantKeys(t, "a full cache", s, 0, "ab")
	back := run(t, s, "r")
	wantFull(t, "a full cache, another transaction", run(t, back, "b +z"), 0)
	// A transaction that writes nothing begins with the sync.
	next := run(t, back, "b c b *a *b *c *d *e c")
	wantKeys(t, "behind the full cache", next, 0, "abcde")
	if next.Tx != s.Tx+2 {
		t.Errorf("tx %d, before %d", next.Tx, s.Tx)
	}
}

// No page number is left: nothing is written at all.
func TestNoPageNumberIsLeft(t *testing.T) {
	s := bulkStore(t, 2992, 4)
	if len(s.Tree.Nodes) != impl.CapMax-2 {
		t.Fatalf("%d nodes", len(s.Tree.Nodes))
	}
	for _, words := range []string{"b -0000", "b -0000 -0001 -0002", "b *0000"} {
		wantFull(t, words, run(t, s, words), 0)
	}
	if got := run(t, s, "b c"); got.Tx != 5 || got.Meta.Root != s.Meta.Root || impl.ReadMeta(got.Disk, "f").Tx != 5 {
		t.Errorf("a commit that takes nothing: %+v", got.Meta)
	}
	// Some numbers are left: the nodes on the way from the root down fit in, and a value beside them does not.
	s = bulkStore(t, 2992-7*4, 4)
	left := impl.CapMax - 2 - len(s.Tree.Nodes)
	if left < 6 || left > 10 {
		t.Fatalf("%d numbers left", left)
	}
	if got := run(t, s, "b -0001 c"); got.Meta.Count != 2963 || !impl.ValidStore(got) {
		t.Errorf("on the last numbers: %+v", got.Meta)
	}
	wantFull(t, "more than is left", run(t, s, "b *0001"), 0)
}

// Tx has an end, and it is the end of the commits, even of those that take nothing.
func TestTheLastTx(t *testing.T) {
	at := func(tx int64) impl.Store {
		return opened(t, fmt.Sprint("tx ", tx), sheaf{2: lettersLeaf("ab")}.withMeta(tx, 2, 2).disk())
	}
	s := at(impl.NumMax)
	wantFull(t, "NumMax", run(t, s, "b"), 0)
	wantFull(t, "NumMax, a change", run(t, s, "b +c"), 0)
	wantFull(t, "NumMax, with a pin", run(t, s, "p b +c"), 0)
	wantStore(t, "NumMax, rolled back", run(t, s, "b +c r"), s)
	last := run(t, at(impl.NumMax-1), "b +c c")
	if last.Tx != impl.NumMax || impl.ReadMeta(last.Disk, "f").Tx != impl.NumMax {
		t.Errorf("the last commit: tx %d", last.Tx)
	}
	wantKeys(t, "the last commit", last, 0, "abc")
	wantFull(t, "behind the last commit", run(t, last, "p b +d"), 0)
}

// refusals has, for each code and each pair of codes that fit at once, the one that is told.
func refusals(t *testing.T) []struct {
	what string
	s    impl.Store
	op   impl.Op
	code int64
} {
	type row = struct {
		what string
		s    impl.Store
		op   impl.Op
		code int64
	}
	idle := run(t, created(t, 60), "b +a *b c p b +c c")
	busy := run(t, idle, "b *d -a")
	pinned := run(t, idle, "p p p p p p p")
	tooLong := strings.Repeat("v", impl.ValMax+1)
	del := func(key string) impl.Op { return impl.Op{Kind: impl.OpDel, Key: key} }
	put := func(key, val string) impl.Op { return impl.Op{Kind: impl.OpPut, Key: key, Val: val} }
	rows := []row{
		{"begin twice", busy, opOf("b"), impl.StBusy},
		{"commit", idle, opOf("c"), impl.StTxn},
		{"rollback", idle, opOf("r"), impl.StTxn},
		{"put", idle, put("a", "v"), impl.StTxn},
		{"put of no key", idle, put("", "v"), impl.StTxn},
		{"put of a long key", idle, put("ninechars", "v"), impl.StTxn},
		{"put of a long value", idle, put("a", tooLong), impl.StTxn},
		{"put of no key and a long value", idle, put("", tooLong), impl.StTxn},
		{"del", idle, del("a"), impl.StTxn},
		{"del of no key", idle, del(""), impl.StTxn},
		{"del of a key that is not there", idle, del("x"), impl.StTxn},
		{"put of no key in a transaction", busy, put("", "v"), impl.StKey},
		{"put of nine bytes", busy, put("ninechars", "v"), impl.StKey},
		{"put of no key and a long value in a transaction", busy, put("", tooLong), impl.StKey},
		{"put of nine bytes and a long value", busy, put("ninechars", tooLong), impl.StKey},
		{"del of no key in a transaction", busy, del(""), impl.StKey},
		{"del of nine bytes", busy, del("ninechars"), impl.StKey},
		{"put of a long value in a transaction", busy, put("a", tooLong), impl.StVal},
		{"put of a long value at a new key", busy, put("x", tooLong), impl.StVal},
		{"put of a very long value", busy, put("x", strings.Repeat("v", 5000)), impl.StVal},
		{"a pin too many", pinned, opOf("p"), impl.StPins},
		{"a pin too many in a transaction", run(t, pinned, "b"), opOf("p"), impl.StPins},
	}
	for _, id := range []int64{2, 0, -1, -2, 9, 1<<32 + 1, 1<<63 - 1, -1 << 63} {
		rows = append(rows, row{fmt.Sprint("unpin of ", id), idle, impl.Op{Kind: impl.OpUnpin, Pin: id}, impl.StPin})
		rows = append(rows, row{fmt.Sprint("unpin of ", id, " in a transaction"), busy, impl.Op{Kind: impl.OpUnpin, Pin: id}, impl.StPin})
	}
	for _, kind := range []int64{0, -1, 8, 9, 255, 256, 257, 1 << 32, 1<<32 + 1, 1<<63 - 1, -1 << 63} {
		for _, s := range []impl.Store{idle, busy, pinned} {
			rows = append(rows, row{fmt.Sprint("Kind ", kind), s, impl.Op{Kind: kind, Key: "a", Val: "v", Pin: 1}, impl.StBad})
			rows = append(rows, row{fmt.Sprint("Kind ", kind, " with nothing right"), s, impl.Op{Kind: kind, Val: tooLong, Pin: 99}, impl.StBad})
		}
	}
	return rows
}

// Every refusal leaves the whole store as it was, its fuel and its cache, too.
func TestRefusalsChangeNothing(t *testing.T) {
	for _, row := range refusals(t) {
		wantRefusal(t, row.what, row.s, row.op, row.code)
		for _, fuel := range []int64{0, 1, impl.FuelMax} {
			s := row.s
			s.Disk.Fuel = fuel
			wantRefusal(t, fmt.Sprint(row.what, ", fuel ", fuel), s, row.op, row.code)
		}
		s := row.s
		s.Disk = impl.WritePage(s.Disk, "g", 0, pageOf(3)).Disk
		wantRefusal(t, row.what+", a write in the cache", s, row.op, row.code)
	}
}

// What an operation does not name is not looked at.
func TestWhatAnOpDoesNotName(t *testing.T) {
	tooLong := strings.Repeat("v", impl.ValMax+1)
	s := run(t, created(t, 60), "b +a +b c p")
	open := run(t, s, "b +c")
	for what, row := range map[string]struct {
		s        impl.Store
		op, bare impl.Op
	}{
		"begin":    {s, impl.Op{Kind: impl.OpBegin, Val: tooLong, Pin: 99}, opOf("b")},
		"commit":   {open, impl.Op{Kind: impl.OpCommit, Key: "ninechars", Val: tooLong, Pin: 99}, opOf("c")},
		"rollback": {open, impl.Op{Kind: impl.OpRollback, Key: "ninechars", Val: tooLong, Pin: 99}, opOf("r")},
		"del":      {open, impl.Op{Kind: impl.OpDel, Key: "a", Val: tooLong, Pin: 99}, opOf("-a")},
		"pin":      {open, impl.Op{Kind: impl.OpPin, Key: "ninechars", Val: tooLong, Pin: 99}, opOf("p")},
		"unpin":    {open, impl.Op{Kind: impl.OpUnpin, Key: "ninechars", Val: tooLong, Pin: 1}, opOf("u1")},
		"put":      {open, impl.Op{Kind: impl.OpPut, Key: "a", Val: "va", Pin: -5}, opOf("+a")},
	} {
		got := impl.Do(row.s, row.op)
		if got.Code != impl.StOk {
			t.Errorf("%s: code %d", what, got.Code)
		}
		wantStoreRes(t, what, got, impl.Do(row.s, row.bare))
	}
	gone := impl.Do(open, opOf("-x"))
	wantStoreRes(t, "del of a key that is not there", gone, impl.StoreRes{Code: impl.StOk, Store: open})
	for _, key := range []string{"8letters", "\x00", "\xff\xff\xff\xff\xff\xff\xff\xff"} {
		for _, size := range []int{0, impl.InlineMax, impl.InlineMax + 1, impl.ValMax} {
			val := strings.Repeat("v", size)
			put := impl.Do(open, impl.Op{Kind: impl.OpPut, Key: key, Val: val})
			if got := impl.View(put.Store, -1, key, key+"\x00"); put.Code != impl.StOk || !slices.Equal(got.Pairs, []impl.Pair{{Key: key, Val: val}}) {
				t.Errorf("put of %q with %d bytes: code %d, %v", key, size, put.Code, got.Pairs)
			}
		}
	}
}

// A transaction may have more nodes than there are pages, but not more than NodeMax.
func TestTooManyNodes(t *testing.T) {
	// 4 pairs in every leaf, and 4 children nearly everywhere: one new key parts nodes up to the root.
	s := run(t, bulkStore(t, 2992, 4), "b")
	wantRefusal(t, "a key that parts too much", s, opOf("+0000x"), impl.StNodes)
	wantRefusal(t, "with a long value", s, impl.Op{Kind: impl.OpPut, Key: "0000x", Val: ninetySix}, impl.StNodes)
	tooLong := strings.Repeat("v", impl.ValMax+1)
	wantRefusal(t, "a long value goes first", s, impl.Op{Kind: impl.OpPut, Key: "0000x", Val: tooLong}, impl.StVal)
	wantRefusal(t, "a key that is none goes first", s, impl.Op{Kind: impl.OpPut, Key: "0000xxxxx", Val: tooLong}, impl.StKey)
	wantRefusal(t, "no transaction goes first", run(t, s, "r"), opOf("+0000x"), impl.StTxn)
	wantStoreRes(t, "the same key anew", impl.Do(s, opOf("+0000")), modelDo(s, opOf("+0000")))
	// Where there is room in a leaf a key still comes in.
	less := run(t, s, "-0000 +0000x")
	if !impl.ValidStore(less) || keysOf(impl.View(less, -1, "", "0001")) != "0000x" {
		t.Errorf("in the room of another: %q", keysOf(impl.View(less, -1, "", "0001")))
	}
	// Up to NodeMax just fits in. The last leaves have room to part, one by one.
	many := run(t, bulkStore(t, 2980, 4), "b")
	refusedAt := 0
	for i := 0; i < 40 && refusedAt == 0; i++ {
		op := impl.Op{Kind: impl.OpPut, Key: fmt.Sprintf("z%03d", i), Val: "v"}
		got := impl.Do(many, op)
		wantStoreRes(t, fmt.Sprint("the end, key ", i), got, modelDo(many, op))
		if got.Code == impl.StNodes {
			refusedAt = len(many.Txn.Nodes)
		}
		many = got.Store
	}
	if refusedAt != impl.NodeMax || !impl.ValidStore(many) {
		t.Errorf("refused at %d nodes", refusedAt)
	}
}
