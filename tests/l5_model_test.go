package tests

import (
	"fmt"
	"slices"
	"strings"
	"testing"

	"loop.example/s02098/impl"
)

// op is mostly one that the store can do.
func (r dice) op(s impl.Store, keys []string) impl.Op {
	op := impl.Op{Key: keys[r.Intn(len(keys))], Val: r.value(), Pin: r.Int63n(impl.PinMax + 2)}
	switch n := r.Intn(100); {
	case n < 2:
		op.Kind = r.pick(-1, 0, 8, 9, 1<<32+1, 1<<63-1, -1<<63)
	case n < 10:
		op.Kind = 1 + r.Int63n(impl.OpUnpin)
	case n < 24:
		op.Kind = impl.OpPin
	case n < 27:
		op.Kind = impl.OpUnpin
	case !s.HasTxn:
		op.Kind = impl.OpBegin
	case n < 40:
		op.Kind = impl.OpCommit
	case n < 42:
		op.Kind = impl.OpRollback
	case n < 60:
		op.Kind = impl.OpDel
	default:
		op.Kind = impl.OpPut
	}
	switch r.Intn(30) {
	case 0:
		op.Key = []string{"", "ninechars", strings.Repeat("k", 300)}[r.Intn(3)]
	case 1:
		op.Val = strings.Repeat("v", int(r.pick(401, 402, 1000)))
	}
	if len(s.Pins) > 0 && r.Intn(2) == 0 {
		op.Pin = s.Pins[r.Intn(len(s.Pins))].Id
	}
	return op
}

// lived is a store behind so many drawn operations.
func (r dice) lived(t *testing.T, room int64, ops int, keys []string) impl.Store {
	t.Helper()
	s := created(t, room)
	for range ops {
		s = impl.Do(s, r.op(s, keys)).Store
	}
	return s
}

// spoiltStore has one thing changed; it may still be right.
func (r dice) spoiltStore(s impl.Store) impl.Store {
	s.Pins = slices.Clone(s.Pins)
	switch r.Intn(12) {
	case 0:
		s.Disk = r.spoilt(s.Disk)
	case 1:
		s.Disk.Dead = true
	case 2:
		s.Name = r.name()
	case 3:
		s.Tx = r.pick(s.Tx-2, s.Tx-1, s.Tx+1, s.Tx+2, 0, r.big())
	case 4:
		field := []*int64{&s.Meta.Id, &s.Meta.Root, &s.Meta.Count}[r.Intn(3)]
		*field = r.pick(*field-1, *field+1, 0, r.number())
	case 5:
		s.Tree = r.spoiltTree(s.Tree)
	case 6:
		s.HasTxn = !s.HasTxn
	case 7, 8:
		s.HasTxn = true
		if len(s.Txn.Nodes) == 0 {
			s.Txn = s.Tree
		}
		s.Txn = r.spoiltTxn(s)
	case 9, 10:
		r.spoilPins(&s)
	case 11:
		r.spoilPage(&s)
	}
	return s
}

func (r dice) spoiltTxn(s impl.Store) impl.Tree {
	switch r.Intn(5) {
	case 0:
		return r.paged(s.Txn)
	case 1:
		// The same tree, told as if nothing stood anywhere.
		return modelBulk(modelPairs(s.Txn))
	case 2:
		return s.Tree
	case 3:
		dirty := cloneTree(s.Txn)
		dirty.Nodes[r.Intn(len(dirty.Nodes))].Page = 0
		return dirty
	}
	return r.spoiltTree(s.Txn)
}

func (r dice) spoilPins(s *impl.Store) {
	pin := impl.Pin{Id: int64(len(s.Pins)) + 1, Tx: 1 + r.Int63n(s.Tx+1), Root: r.pick(s.Meta.Root, 2, 3, r.number(), 0, 1, -1)}
	if len(s.Pins) == 0 {
		s.Pins = []impl.Pin{pin}
		return
	}
	p := &s.Pins[r.Intn(len(s.Pins))]
	switch r.Intn(6) {
	case 0:
		p.Id = r.pick(-1, 0, 1, 2, 3, p.Id+1, 1<<63-1)
	case 1:
		p.Tx = r.pick(-1, 0, 1, s.Tx, s.Tx+1)
	case 2:
		p.Root = pin.Root
	case 3:
		s.Pins = append(s.Pins, *p)
	case 4:
		r.Shuffle(len(s.Pins), func(a, b int) { s.Pins[a], s.Pins[b] = s.Pins[b], s.Pins[a] })
	case 5:
		pin.Id = s.Pins[len(s.Pins)-1].Id + 5
		s.Pins = append(s.Pins, pin)
	}
}

// spoilPage writes one page of the file over another, as seen.
func (r dice) spoilPage(s *impl.Store) {
	count := impl.PageCount(s.Disk, s.Name)
	from, to := r.Int63n(count), r.Int63n(count)
	s.Disk = impl.WritePage(s.Disk, s.Name, to, impl.ReadPage(s.Disk, s.Name, from)).Disk
}

func (r dice) checkStore(t *testing.T, what string, s impl.Store, op impl.Op) impl.StoreRes {
	t.Helper()
	if valid := modelValidStore(s); impl.ValidStore(s) != valid {
		t.Errorf("%s: ValidStore %v", what, !valid)
	}
	wantStoreRes(t, what+" opened", impl.OpenStore(s.Disk, s.Name), modelOpen(s.Disk, s.Name))
	pin := r.pick(-2, -1, -1, 0, op.Pin, op.Pin, op.Pin, 1<<63-1)
	ends := [][2]string{{"", ""}, {op.Key, ""}, {"", op.Key}, {op.Key, op.Key + "\x00"}}[r.Intn(4)]
	if got := impl.View(s, pin, ends[0], ends[1]); !sameScan(got, modelView(s, pin, ends[0], ends[1])) {
		t.Errorf("%s: View of %d from %q to %q: %v, %d pairs", what, pin, ends[0], ends[1], got.Ok, len(got.Pairs))
	}
	got := impl.Do(s, op)
	wantStoreRes(t, fmt.Sprintf("%s %d", what, op.Kind), got, modelDo(s, op))
	if t.Failed() {
		t.Fatalf("%s: %+v at %s", what, op, tellStore(s))
	}
	return got
}

// Long lives of stores on disks with room of every sort, and now and then with an end of the power: every answer is the model's, to the last byte of the disk; and so it is at what is one step beside a store.
func TestStoresAreTheModel(t *testing.T) {
	counts := map[string]int{}
	for seed := range int64(32) {
		r := newDice(500 + seed)
		keys := r.keys(int(r.pick(3, 8, 20, 40)))
		s := created(t, r.pick(4, 6, 9, 15, 25, 40, 60, 80))
		for turn := range 90 {
			what := fmt.Sprint("seed ", seed, " turn ", turn)
			op := r.op(s, keys)
			if r.Intn(8) == 0 {
				s.Disk.Fuel = r.Int63n(8)
			} else {
				s.Disk.Fuel = -1
			}
			spoilt := r.spoiltStore(s)
			r.checkStore(t, what+" spoilt", spoilt, op)
			counts[fmt.Sprint("spoilt, valid ", impl.ValidStore(spoilt))]++
			got := r.checkStore(t, what, s, op)
			counts[fmt.Sprint("code ", got.Code)]++
			if s = got.Store; got.Code == impl.StLost {
				s = opened(t, what, impl.CrashDisk(s.Disk, r.crash(s.Disk)))
			}
		}
	}
	// The dice must have thrown every answer, or the comparison tells little. (StNodes needs a store of another size.)
	for _, code := range []int64{impl.StOk, impl.StBad, impl.StBusy, impl.StTxn, impl.StKey, impl.StVal, impl.StFull, impl.StPins, impl.StPin, impl.StLost} {
		if counts[fmt.Sprint("code ", code)] < 10 {
			t.Errorf("code %d only %d times", code, counts[fmt.Sprint("code ", code)])
		}
	}
	if counts["spoilt, valid true"] < 300 || counts["spoilt, valid false"] < 1000 {
		t.Errorf("spoilt stores are too much alike: %v", counts)
	}
}

func TestCreateAndOpenAreTheModel(t *testing.T) {
	r := newDice(55)
	codes := map[int64]int{}
	for i := range 3000 {
		d := r.disk()
		if r.Intn(2) == 0 {
			d.Cache = nil
		}
		if r.Intn(6) == 0 {
			d = r.spoilt(d)
		}
		what := fmt.Sprint("round ", i)
		name, id := r.name(), r.pick(0, -1, impl.NumMax+1, 1, impl.NumMax, r.big(), r.big(), r.big())
		got := impl.CreateStore(d, name, id)
		wantStoreRes(t, what+" created", got, modelCreate(d, name, id))
		wantStoreRes(t, what+" opened", impl.OpenStore(d, name), modelOpen(d, name))
		again := impl.CrashDisk(got.Store.Disk, r.crash(got.Store.Disk))
		wantStoreRes(t, what+" opened again", impl.OpenStore(again, name), modelOpen(again, name))
		if t.Failed() {
			t.Fatalf("%s: %q, %d at %s", what, name, id, tell(d))
		}
		codes[got.Code]++
	}
	for _, code := range []int64{impl.StOk, impl.StBad, impl.StFull, impl.StLost} {
		if codes[code] < 50 {
			t.Errorf("code %d only %d times", code, codes[code])
		}
	}
}
