package tests

import (
	"bytes"
	"encoding/binary"
	"fmt"
	"slices"
	"testing"

	"loop.example/s02098/impl"
)

// telling is a stream taken apart: the numbers of its head, and its frames.
type telling struct {
	head   [5]int64
	frames [][]byte
}

// toldBy asks for a whole stream.
func toldBy(b []byte) telling {
	var out telling
	for i := range out.head {
		out.head[i] = int64(binary.LittleEndian.Uint32(b[2+4*i:]))
	}
	out.frames = slices.Collect(slices.Chunk(bytes.Clone(b[22:len(b)-5]), 137))
	return out
}

func (s telling) text() []byte {
	return textOf(s.head[0], s.head[1], s.head[2], s.head[3], s.head[4], s.frames...)
}

// reframed has the sum of a frame made right.
func reframed(f []byte) []byte {
	return pageChunk(int64(binary.LittleEndian.Uint32(f[1:])), f[5:133])
}

// spoiltTelling has one thing changed behind which all sums are right again.
func (r dice) spoiltTelling(s telling) telling {
	n := len(s.frames)
	if n == 0 || r.Intn(5) == 0 {
		i := r.Intn(5)
		s.head[i] = r.pick(s.head[i]-1, s.head[i]+1, 0, 1, 2, 999, 1000, 1001, r.big(), 1<<32-1, s.head[1], s.head[1]-1)
		return s
	}
	at, other := r.Intn(n), r.Intn(n)
	f := bytes.Clone(s.frames[at])
	switch r.Intn(8) {
	case 0:
		f[5+r.Intn(128)] ^= byte(1 + r.Intn(255))
		f = reframed(f)
	case 1:
		f = pageChunk(r.pick(0, 1, 2, 3, 999, 1000, int64(f[1])+1, int64(f[1])-1, 1<<32-1), f[5:133])
	case 2:
		page := stamped(r.treePage(), r.pick(s.head[1], s.head[1], s.head[1], s.head[2], s.head[2]+1, s.head[1]+1, r.big()))
		copy(f[5:], modelNew(page))
		f = reframed(f)
	case 3:
		f[0] = byte(r.pick('P', 'E', 'B', 0, 'p'))
	case 4:
		f = bytes.Clone(s.frames[other])
	case 5:
		s.frames = slices.Delete(slices.Clone(s.frames), at, at+1)
		s.head[4] -= r.pick(0, 1, 1, 1)
		return s
	case 6:
		s.frames = slices.Insert(slices.Clone(s.frames), other, f)
		s.head[4] += r.pick(0, 1, 1)
		return s
	case 7:
		f[133+r.Intn(4)] ^= 1
	}
	s.frames = slices.Clone(s.frames)
	s.frames[at] = f
	return s
}

// spoiltText has one thing changed; it may still be a stream.
func (r dice) spoiltText(b []byte) []byte {
	b = bytes.Clone(b)
	switch r.Intn(12) {
	case 0:
		return b[:r.Intn(len(b)+1)]
	case 1:
		b[r.Intn(len(b))] ^= byte(1 + r.Intn(255))
		return b
	case 2:
		return append(b, r.page()[:1+r.Intn(100)]...)
	case 3:
		b[len(b)-1-r.Intn(4)]++
		return b
	case 4:
		if r.Intn(4) == 0 {
			return append(b, make([]byte, impl.StreamMax-len(b)+r.Intn(3))...)
		}
		b[r.Intn(2)] = byte(r.pick('B', 'K', 0))
		return b
	}
	return r.spoiltTelling(toldBy(b)).text()
}

// Streams of drawn backups, and what is one step beside them: every answer is the model's.
func TestParseIsTheModel(t *testing.T) {
	counts := map[int64]int{}
	changed := 0
	for seed := range int64(60) {
		r := newDice(1400 + seed)
		s := r.pinnedStore(t, r.keys(int(r.pick(3, 8, 20))))
		pin := s.Pins[r.Intn(len(s.Pins))]
		b := backedUp(t, s, pin.Id, r.pick(r.bases(pin)...))
		for round := range 60 {
			wrong := r.spoiltText(b)
			want := modelParse(wrong)
			wantParsed(t, fmt.Sprint("seed ", seed, " round ", round), wrong, want)
			counts[want.Err]++
			if want.Err == impl.RsOk && !bytes.Equal(wrong, b) {
				changed++
			}
			if t.Failed() {
				t.Fatalf("seed %d round %d: % x", seed, round, wrong)
			}
		}
	}
	// The dice must have thrown every answer, or the comparison tells little.
	for err := int64(impl.RsOk); err <= impl.RsTail; err++ {
		if counts[err] < 30 {
			t.Errorf("Err %d only %d times", err, counts[err])
		}
	}
	if changed < 100 {
		t.Errorf("only %d other streams", changed)
	}
}

// Bytes that no backup ever told, with a beginning like one or not.
func TestParseOfNoise(t *testing.T) {
	r := newDice(1470)
	for i := range 3000 {
		b := []byte(r.text(0, 400))
		copy(b, "BK"[:r.Intn(3)])
		if len(b) > 22 && r.Intn(2) == 0 {
			copy(b, textOf(r.big(), r.big(), 0, r.number(), r.pick(0, 1, 2))[:22])
			b[22] = byte(r.pick('P', 'E', 'Q'))
		}
		wantParsed(t, fmt.Sprint("round ", i), b, modelParse(b))
		if t.Failed() {
			t.Fatalf("round %d: % x", i, b)
		}
	}
}

// spoiltChain has one thing changed; it may still be a chain.
func (r dice) spoiltChain(chain []impl.Blob) []impl.Blob {
	out := slices.Clone(chain)
	if len(out) == 0 {
		return out
	}
	at, other := r.Intn(len(out)), r.Intn(len(out))
	switch r.Intn(8) {
	case 0:
		return out[:r.Intn(len(out)+1)]
	case 1:
		return slices.Delete(out, at, at+1)
	case 2:
		out[at], out[other] = out[other], out[at]
	case 3:
		return slices.Insert(out, at, out[other])
	case 4:
		s := toldBy(out[at].Data)
		s.head[r.Intn(4)] += r.pick(-1, 1)
		out[at].Data = s.text()
	case 5:
		for len(out) <= impl.ChainMax {
			out = append(out, chain...)
		}
	default:
		out[at].Data = r.spoiltText(out[at].Data)
	}
	return out
}

// Drawn chains and disks, and what is one step beside them: every answer is the model's, to the last byte of the disk.
func TestRestoreIsTheModel(t *testing.T) {
	counts := map[int64]int{}
	places := map[int64]int{}
	for seed := range int64(110) {
		r := newDice(1500 + seed)
		v := r.rollingChain(t, r.keys(2+r.Intn(10)), 1+r.Intn(6))
		for round := range 40 {
			what := fmt.Sprint("seed ", seed, " round ", round)
			chain := v.chain[:r.Intn(len(v.chain)+1)]
			if r.Intn(2) == 0 {
				chain = r.spoiltChain(chain)
			}
			d := r.disk()
			if r.Intn(6) > 0 {
				d.Cache, d.Dead = nil, false
			}
			if r.Intn(2) == 0 {
				d.Cap, d.Fuel = r.pick(30, 60, impl.CapMax), r.pick(-1, -1, r.Int63n(40))
			}
			if r.Intn(10) == 0 {
				d = r.spoilt(d)
			}
			name := r.name()
			got, want := impl.Restore(d, name, chain), modelRestore(d, name, chain)
			wantRestoreRes(t, what, got, want)
			if t.Failed() {
				t.Fatalf("%s: %q, %d texts, at %s", what, name, len(chain), tell(d))
			}
			counts[got.Err]++
			places[got.At]++
		}
	}
	for err := int64(impl.RsOk); err <= impl.RsLost; err++ {
		if err != impl.RsLong && err != impl.RsTail && counts[err] < 15 {
			t.Errorf("Err %d only %d times", err, counts[err])
		}
	}
	for at := range int64(4) {
		if places[at] < 20 {
			t.Errorf("place %d only %d times", at, places[at])
		}
	}
}

// Trees that no store would have, told in one text or in two: what of them is loaded is put.
func TestRestoreOfDrawnTreesIsTheModel(t *testing.T) {
	counts := map[int64]int{}
	for seed := range int64(120) {
		r := newDice(1560 + seed)
		placed := r.anywhere(int(r.pick(0, 1, 3, 5, 12)))
		s := sheaf{}
		for i, num := range placed.Nums {
			s[num] = stamped(placed.Pages[i], 1+r.Int63n(9))
		}
		if seed%3 > 0 {
			s = r.spoiltSheaf(s)
		}
		root := placed.Tree.Nodes[0].Page
		early, late := sheaf{}, sheaf{}
		for num, p := range s {
			if p.Tx <= 4 || p.Tx > 9 {
				early[num] = stamped(p, min(p.Tx, 4))
			} else {
				late[num] = p
			}
		}
		for what, chain := range map[string][]impl.Blob{
			"one text": blobs(s.text(impl.NumMax, 0, root)), "two texts": blobs(early.text(4, 0, root), late.text(9, 4, root)), "the first alone": blobs(early.text(4, 0, root)),
		} {
			d := withFile(impl.DiskNew(impl.CapMax), fileOf("x", 1))
			got := impl.Restore(d, "x", chain)
			wantRestoreRes(t, fmt.Sprint("seed ", seed, ", ", what), got, modelRestore(d, "x", chain))
			counts[got.Err]++
		}
		if t.Failed() {
			t.FailNow()
		}
	}
	if counts[impl.RsOk] < 60 || counts[impl.RsTree] < 60 {
		t.Errorf("Errs %v", counts)
	}
}

// Drawn stores on disks with room and fuel of every sort, and what is one step beside them.
func TestCompactIsTheModel(t *testing.T) {
	counts := map[int64]int{}
	for seed := range int64(80) {
		r := newDice(1700 + seed)
		whole := r.lived(t, r.pick(15, 40, impl.CapMax), 40, r.keys(int(r.pick(3, 8, 20))))
		for round := range 20 {
			what := fmt.Sprint("seed ", seed, " round ", round)
			s := whole
			if r.Intn(3) == 0 {
				r.spoilPage(&s)
			}
			d := s.Disk
			if r.Intn(8) > 0 {
				d = impl.SyncDisk(d).Disk
			}
			for range r.Intn(3) {
				if name := r.name(); modelName(name) && modelFind(d.Files, name) < 0 {
					d = withFile(d, fileOf(name, r.page()[:1+r.Intn(3)]...))
				}
			}
			d.Cap, d.Fuel, d.Dead = min(impl.CapMax, modelTotal(d.Files)+r.pick(0, 5, 30, 600, 600)), r.pick(-1, -1, r.Int63n(30)), r.Intn(20) == 0
			if r.Intn(10) == 0 {
				d = r.spoilt(d)
			}
			from, to := "f", r.name()
			if r.Intn(4) == 0 {
				from = r.name()
			}
			if r.Intn(4) == 0 {
				to = from
			}
			got := impl.Compact(d, from, to)
			wantRestoreRes(t, what, got, modelCompact(d, from, to))
			if t.Failed() {
				t.Fatalf("%s: from %q to %q at %s", what, from, to, tell(d))
			}
			counts[got.Err]++
		}
	}
	for _, err := range []int64{impl.RsOk, impl.RsTree, impl.RsDisk, impl.RsFull, impl.RsLost} {
		if counts[err] < 50 {
			t.Errorf("Err %d only %d times", err, counts[err])
		}
	}
}
