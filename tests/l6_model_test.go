package tests

import (
	"fmt"
	"slices"
	"testing"

	"loop.example/s02098/impl"
)

// backup is one of the store's pins, some steps behind its start, if the store has a pin.
func (r dice) backup(s impl.Store) impl.Backup {
	if len(s.Pins) == 0 {
		return impl.Backup{Pin: 1, Id: s.Meta.Id, Tx: s.Tx, Root: s.Meta.Root, Left: []int64{2, 3}}
	}
	pin := s.Pins[r.Intn(len(s.Pins))]
	b := modelStart(s, pin.Id, r.pick(r.bases(pin)...)).Backup
	switch r.Intn(4) {
	case 0:
		return b
	case 1:
		b.Begun = true
	case 2:
		b.Begun, b.Left = true, nil
	case 3:
		b.Begun, b.Left = true, b.Left[r.Intn(len(b.Left)+1):]
	}
	b.Sum = r.Uint32()
	return b
}

// spoiltBackup has one thing changed; it may still be right.
func (r dice) spoiltBackup(b impl.Backup) impl.Backup {
	wild := r.pick(-1, 0, 1, r.big(), 1<<32, 1<<32+b.Pin, 1<<63-1, -1<<63)
	switch r.Intn(10) {
	case 0:
		b.Pin = r.pick(b.Pin-1, b.Pin+1, wild)
	case 1:
		b.Tx = r.pick(b.Tx-1, b.Tx+1, wild)
	case 2:
		b.Root = r.pick(b.Root-1, b.Root+1, r.number(), wild)
	case 3:
		b.Id = wild
	case 4:
		b.Base = wild
	case 5:
		b.Begun = !b.Begun
	case 6:
		b.Ended = !b.Ended
	case 7:
		b.Left = slices.Insert(slices.Clone(b.Left), 0, wild, r.number())
	case 8:
		b.Left = slices.Clone(b.Left)
		r.Shuffle(len(b.Left), func(i, j int) { b.Left[i], b.Left[j] = b.Left[j], b.Left[i] })
	case 9:
		b.Sum = uint32(wild)
	}
	return b
}

// Drawn stores and backups, and what is one step beside them: every answer is the model's.
func TestBackupsAreTheModel(t *testing.T) {
	starts, steps := map[int64]int{}, map[int64]int{}
	marks := map[byte]int{}
	for seed := range int64(120) {
		r := newDice(800 + seed)
		keys := r.keys(int(r.pick(3, 8, 20)))
		whole := r.lived(t, r.pick(15, 40, impl.CapMax), 40, keys)
		for round := range 12 {
			what := fmt.Sprint("seed ", seed, " round ", round)
			s, b := whole, r.backup(whole)
			if round%3 == 1 {
				b = r.spoiltBackup(b)
			}
			if round%3 == 2 {
				s = r.spoiltStore(s)
			}
			pin, base := r.pick(b.Pin, b.Pin, b.Pin, -1, 0, b.Pin+1, 9), r.pick(b.Base, b.Base, 0, b.Tx-1, b.Tx, b.Tx+1, -1)
			start := impl.BackupStart(s, pin, base)
			wantBackup(t, fmt.Sprint(what, ", start of ", pin, " on ", base), start, modelStart(s, pin, base))
			step := impl.BackupStep(s, b)
			wantBackup(t, what+", step", step, modelStepOf(s, b))
			if t.Failed() {
				t.Fatalf("%s: %+v at %s", what, b, tellStore(s))
			}
			starts[start.Err]++
			steps[step.Err]++
			if len(step.Chunk) > 0 {
				marks[step.Chunk[0]]++
			}
		}
	}
	// The dice must have thrown every answer, or the comparison tells little.
	for err := int64(impl.BkOk); err <= impl.BkDone; err++ {
		if err != impl.BkDone && starts[err] < 50 || err != impl.BkBase && steps[err] < 10 {
			t.Errorf("Err %d only %d times at the start, %d times at a step", err, starts[err], steps[err])
		}
	}
	for _, mark := range []byte("BPE") {
		if marks[mark] < 50 {
			t.Errorf("chunk %c only %d times", mark, marks[mark])
		}
	}
}
