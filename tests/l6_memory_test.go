package tests

import (
	"fmt"
	"slices"
	"testing"

	"loop.example/s02098/impl"
)

func TestBackupMemory(t *testing.T) {
	for what, s := range memoryStores(t) {
		for pin := int64(-1); pin <= 3; pin++ {
			for base := int64(-1); base <= 3; base++ {
				callCleanly(t, fmt.Sprint(what, " start of ", pin, " on ", base), impl.BackupStart, s, pin, base)
			}
		}
		for i, b := range handBackups(s) {
			callCleanly(t, fmt.Sprint(what, " step ", i), impl.BackupStep, s, b)
		}
	}
}

// handBackups are backups of all pins in every state, and some of none.
func handBackups(s impl.Store) []impl.Backup {
	out := []impl.Backup{{}, {Pin: 1, Tx: 1, Root: 2, Left: []int64{2, 3}}}
	for _, p := range s.Pins {
		for _, left := range [][]int64{nil, {p.Root}, {2, 3, 99, -1, 1 << 40}} {
			b := impl.Backup{Pin: p.Id, Id: 7, Tx: p.Tx, Root: p.Root, Left: left, Sum: 5}
			begun, ended := b, b
			begun.Begun, ended.Ended = true, true
			out = append(out, b, begun, ended)
		}
	}
	return out
}

// What is done to one answer is not seen in the next, nor in the backup that it came from: nothing is kept between calls.
func TestAnswersOfABackupAreApart(t *testing.T) {
	s := run(t, created(t, 60), "b +a *b +c +d +e c p b +f c")
	first := impl.BackupStart(s, 1, 0)
	kept := impl.BackupStart(s, 1, 0)
	clear(first.Backup.Left)
	wantBackup(t, "a start behind one that was written over", impl.BackupStart(s, 1, 0), kept)
	b := kept.Backup
	for !b.Ended {
		before := b
		before.Left = slices.Clone(b.Left)
		want := modelStepOf(s, b)
		spoilt := impl.BackupStep(s, b)
		clear(spoilt.Chunk)
		clear(spoilt.Backup.Left)
		if !sameBackup(b, before) {
			t.Errorf("the backup before: %+v, was %+v", b, before)
		}
		again := impl.BackupStep(s, b)
		wantBackup(t, "a step behind one that was written over", again, want)
		clear(b.Left)
		wantBackup(t, "a step when the backup before is gone", again, modelStepOf(s, before))
		if b = again.Backup; again.Err != impl.BkOk {
			t.Fatalf("Err %d", again.Err)
		}
	}
	start, wantStart := impl.BackupStart(s, 1, 0), modelStart(s, 1, 0)
	told := impl.BackupStep(s, impl.Backup{Pin: 1, Tx: 2, Root: start.Backup.Root, Begun: true, Left: []int64{2, 3}})
	chunk := pageChunk(2, impl.ReadPage(s.Disk, "f", 2))
	wreck(s)
	wantBackup(t, "a start when the store is gone", start, wantStart)
	if string(told.Chunk) != string(chunk) {
		t.Errorf("a chunk when the store is gone: % x", told.Chunk)
	}
}
