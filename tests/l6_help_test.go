package tests

import (
	"bytes"
	"encoding/binary"
	"hash/crc32"
	"slices"
	"testing"

	"loop.example/s02098/impl"
)

// sameBackup takes an empty list and nil for the same.
func sameBackup(a, b impl.Backup) bool {
	return a.Pin == b.Pin && a.Id == b.Id && a.Tx == b.Tx && a.Base == b.Base && a.Root == b.Root &&
		a.Begun == b.Begun && a.Ended == b.Ended && slices.Equal(a.Left, b.Left) && a.Sum == b.Sum
}

func wantBackup(t *testing.T, what string, got, want impl.BackupRes) {
	t.Helper()
	if got.Err != want.Err || !sameBackup(got.Backup, want.Backup) {
		t.Errorf("%s:\n got Err %d, %+v\nwant Err %d, %+v", what, got.Err, got.Backup, want.Err, want.Backup)
	}
	if !bytes.Equal(got.Chunk, want.Chunk) {
		t.Errorf("%s:\n got % x\nwant % x", what, got.Chunk, want.Chunk)
	}
}

// wantBackupErr asks for nothing beside the Err.
func wantBackupErr(t *testing.T, what string, got impl.BackupRes, err int64) {
	t.Helper()
	wantBackup(t, what, got, impl.BackupRes{Err: err})
}

// started is a backup that must begin.
func started(t *testing.T, s impl.Store, pin, base int64) impl.Backup {
	t.Helper()
	r := impl.BackupStart(s, pin, base)
	if r.Err != impl.BkOk {
		t.Fatalf("backup of pin %d on %d: Err %d: %s", pin, base, r.Err, tellStore(s))
	}
	return r.Backup
}

// answersOf are those of all steps of a backup, on a store that stays as it is.
func answersOf(t *testing.T, s impl.Store, b impl.Backup) []impl.BackupRes {
	t.Helper()
	var out []impl.BackupRes
	for !b.Ended {
		r := impl.BackupStep(s, b)
		if r.Err != impl.BkOk || len(out) > impl.CapMax+2 {
			t.Fatalf("step %d: Err %d: %+v", len(out), r.Err, b)
		}
		out = append(out, r)
		b = r.Backup
	}
	return out
}

// streamOf is all chunks, one behind the other.
func streamOf(answers []impl.BackupRes) []byte {
	var out []byte
	for _, r := range answers {
		out = append(out, r.Chunk...)
	}
	return out
}

// toldPages are the pages of a stream by their numbers.
func toldPages(answers []impl.BackupRes) codes {
	out := codes{}
	for _, r := range answers {
		if r.Chunk[0] == 'P' {
			out[int64(binary.LittleEndian.Uint32(r.Chunk[1:]))] = r.Chunk[5 : 5+impl.PageBytes]
		}
	}
	return out
}

// The model: the words of the document once more.

func modelStart(s impl.Store, pin, base int64) impl.BackupRes {
	if !modelValidStore(s) {
		return impl.BackupRes{Err: impl.BkStore}
	}
	at := slices.IndexFunc(s.Pins, func(p impl.Pin) bool { return p.Id == pin })
	if at < 0 {
		return impl.BackupRes{Err: impl.BkPin}
	}
	p := s.Pins[at]
	if base < 0 || base > p.Tx-1 {
		return impl.BackupRes{Err: impl.BkBase}
	}
	b := impl.Backup{Pin: pin, Id: s.Meta.Id, Tx: p.Tx, Base: base, Root: p.Root}
	seen, _ := modelSeen(s.Disk)
	for _, num := range modelLoad(s.Disk, s.Name, p.Root).Pages {
		if modelPageAt(seen, s.Name, num).Tx > base {
			b.Left = append(b.Left, num)
		}
	}
	return impl.BackupRes{Backup: b}
}

func modelStepOf(s impl.Store, b impl.Backup) impl.BackupRes {
	switch {
	case !modelValidStore(s):
		return impl.BackupRes{Err: impl.BkStore}
	case !slices.Contains(s.Pins, impl.Pin{Id: b.Pin, Tx: b.Tx, Root: b.Root}):
		return impl.BackupRes{Err: impl.BkPin}
	case b.Ended:
		return impl.BackupRes{Err: impl.BkDone}
	}
	var chunk []byte
	switch {
	case !b.Begun:
		chunk = headChunk(b)
		b.Begun = true
	case len(b.Left) > 0:
		chunk = pageChunk(b.Left[0], modelRead(s, b.Left[0]))
		b.Left = b.Left[1:]
	default:
		chunk = endChunk(b.Sum)
		b.Ended = true
	}
	b.Sum = crc32.Update(b.Sum, crc32.IEEETable, chunk)
	return impl.BackupRes{Chunk: chunk, Backup: b}
}

// modelRead is a page of the store's file as seen, zeros if there is none.
func modelRead(s impl.Store, num int64) []byte {
	seen, _ := modelSeen(s.Disk)
	if num < 0 || num >= modelPages(seen, s.Name) {
		return pageOf(0)
	}
	return seen[modelFind(seen, s.Name)].Data[num*impl.PageBytes : (num+1)*impl.PageBytes]
}

func headChunk(b impl.Backup) []byte {
	return fours([]byte("BK"), b.Id, b.Tx, b.Base, b.Root, int64(len(b.Left)))
}

func pageChunk(num int64, page []byte) []byte {
	body := append(fours(nil, num), page...)
	return fours(append([]byte("P"), body...), int64(crc32.ChecksumIEEE(body)))
}

func endChunk(sum uint32) []byte { return fours([]byte("E"), int64(sum)) }

// fours adds numbers of four bytes each, lowest first.
func fours(out []byte, nums ...int64) []byte {
	for _, num := range nums {
		out = binary.LittleEndian.AppendUint32(out, uint32(num))
	}
	return out
}
