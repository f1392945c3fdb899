package tests

import (
	"fmt"
	"hash/crc32"
	"testing"

	"loop.example/s02098/impl"
)

// The stream of an empty store, byte by byte.
func TestTheSmallestStream(t *testing.T) {
	s := run(t, created(t, 60), "p")
	leaf := framed(1, impl.PLeaf, 0, nil)
	head := "BK\x07\x00\x00\x00\x01\x00\x00\x00\x00\x00\x00\x00\x02\x00\x00\x00\x01\x00\x00\x00"
	page := "P\x02\x00\x00\x00" + string(leaf)
	page += string(fours(nil, int64(crc32.ChecksumIEEE([]byte(page[1:])))))
	end := "E" + string(fours(nil, int64(crc32.ChecksumIEEE([]byte(head+page)))))
	sum := func(text string) uint32 { return crc32.ChecksumIEEE([]byte(text)) }

	b := impl.Backup{Pin: 1, Id: 7, Tx: 1, Root: 2, Left: []int64{2}}
	wantBackup(t, "the start", impl.BackupStart(s, 1, 0), impl.BackupRes{Backup: b})
	b.Begun, b.Sum = true, sum(head)
	r := impl.BackupStep(s, started(t, s, 1, 0))
	wantBackup(t, "the head", r, impl.BackupRes{Chunk: []byte(head), Backup: b})
	b.Left, b.Sum = nil, sum(head+page)
	r = impl.BackupStep(s, r.Backup)
	wantBackup(t, "the page", r, impl.BackupRes{Chunk: []byte(page), Backup: b})
	b.Ended, b.Sum = true, sum(head+page+end)
	r = impl.BackupStep(s, r.Backup)
	wantBackup(t, "the end", r, impl.BackupRes{Chunk: []byte(end), Backup: b})
	wantBackupErr(t, "behind the end", impl.BackupStep(s, r.Backup), impl.BkDone)
}

// wantStream asks for every chunk, and for every backup behind one, in words of its own.
func wantStream(t *testing.T, what string, s impl.Store, b impl.Backup) {
	t.Helper()
	answers := answersOf(t, s, b)
	if len(answers) != len(b.Left)+2 {
		t.Fatalf("%s: %d chunks for %d pages", what, len(answers), len(b.Left))
	}
	stream := []byte{}
	for i, got := range answers {
		want := b
		want.Begun = true
		var chunk []byte
		switch {
		case i == 0:
			chunk = headChunk(b)
		case i <= len(b.Left):
			want.Left = b.Left[i:]
			chunk = pageChunk(b.Left[i-1], impl.ReadPage(s.Disk, s.Name, b.Left[i-1]))
		default:
			want.Left, want.Ended = nil, true
			chunk = endChunk(crc32.ChecksumIEEE(stream))
		}
		stream = append(stream, chunk...)
		want.Sum = crc32.ChecksumIEEE(stream)
		wantBackup(t, fmt.Sprint(what, ", chunk ", i), got, impl.BackupRes{Chunk: chunk, Backup: want})
	}
	last := answers[len(answers)-1].Backup
	wantBackupErr(t, what+", behind its end", impl.BackupStep(s, last), impl.BkDone)
}

func TestStreams(t *testing.T) {
	for _, words := range []string{
		"p", "b +a c p", "b c p", "b +a +b +c +d +e c p b +f c p", "b *a c b +b c p", "b *a +b *c *d +e *f c p b -a +g c p b *a c p",
		"b +a +b +c +d +e +f +g +h +i +j +k +l c p b +m -a c b c p",
	} {
		s := run(t, created(t, 90), words)
		for _, pin := range s.Pins {
			for base := range pin.Tx {
				wantStream(t, fmt.Sprint(words, ", pin ", pin.Id, " on ", base), s, started(t, s, pin.Id, base))
			}
		}
	}
	big := bulkStore(t, 700, 5)
	big.Pins = []impl.Pin{{Id: 4, Tx: 5, Root: big.Meta.Root}}
	b := started(t, big, 4, 0)
	if len(b.Left) != 175+44+11+3+1 {
		t.Fatalf("a great tree: %d pages", len(b.Left))
	}
	wantBackup(t, "a great tree", impl.BackupStep(big, b), modelStepOf(big, b))
	// Every step looks at the whole store, so only some of them are told.
	for _, told := range []int{0, 1, 100, len(b.Left) - 1, len(b.Left)} {
		part := b
		part.Begun, part.Left = true, b.Left[told:]
		wantBackup(t, fmt.Sprint("a great tree behind ", told), impl.BackupStep(big, part), modelStepOf(big, part))
	}
}

// The order of the Errs: the store, then the pin, then the end.
func TestStepIsRefused(t *testing.T) {
	s := run(t, created(t, 60), "b +a +b +c c p b +d +e c p")
	fresh := started(t, s, 1, 0)
	answers := answersOf(t, s, fresh)
	states := map[string]impl.Backup{"started": fresh, "begun": answers[0].Backup, "told": answers[1].Backup, "ended": answers[2].Backup}
	if !states["ended"].Ended || states["told"].Ended {
		t.Fatalf("the test is wrong: %+v", states)
	}
	for state, b := range states {
		for what, broken := range brokenStores(s) {
			wantBackupErr(t, state+" at "+what, impl.BackupStep(broken, b), impl.BkStore)
		}
		for what, words := range map[string]string{
			"let go":                         "u1",
			"all let go":                     "u1 u2",
			"given again with both changed":  "u1 p",
			"given again after a commit":     "u1 b +f c p",
			"given again with another Tx":    "u1 b c p",
			"given again beside another one": "u1 u2 b -a c p p",
		} {
			wantBackupErr(t, state+", "+what, impl.BackupStep(run(t, s, words), b), impl.BkPin)
		}
		for what, change := range map[string]func(b *impl.Backup){
			"another Pin":          func(b *impl.Backup) { b.Pin = 2 },
			"no Pin":               func(b *impl.Backup) { b.Pin = 0 },
			"Pin -1":               func(b *impl.Backup) { b.Pin = -1 },
			"a Pin that wraps":     func(b *impl.Backup) { b.Pin += 1 << 32 },
			"another Tx":           func(b *impl.Backup) { b.Tx++ },
			"a lower Tx":           func(b *impl.Backup) { b.Tx-- },
			"a Tx that wraps":      func(b *impl.Backup) { b.Tx += 1 << 32 },
			"another Root":         func(b *impl.Backup) { b.Root++ },
			"no Root":              func(b *impl.Backup) { b.Root = 0 },
			"a Root that wraps":    func(b *impl.Backup) { b.Root += 1 << 32 },
			"Tx of the other":      func(b *impl.Backup) { b.Tx = s.Pins[1].Tx },
			"Root of the other":    func(b *impl.Backup) { b.Root = s.Pins[1].Root },
			"the other's but Pin":  func(b *impl.Backup) { b.Tx, b.Root = s.Pins[1].Tx, s.Pins[1].Root },
			"the other's but Tx":   func(b *impl.Backup) { b.Pin, b.Root = 2, s.Pins[1].Root },
			"the other's but Root": func(b *impl.Backup) { b.Pin, b.Tx = 2, s.Pins[1].Tx },
		} {
			wrong := b
			change(&wrong)
			wantBackupErr(t, state+", "+what, impl.BackupStep(s, wrong), impl.BkPin)
		}
		// All three are the other's: it is a backup of that pin.
		other := b
		other.Pin, other.Tx, other.Root = 2, s.Pins[1].Tx, s.Pins[1].Root
		wantBackup(t, state+", the other's", impl.BackupStep(s, other), modelStepOf(s, other))
	}
	for what, b := range map[string]impl.Backup{"the zero backup": {}, "an ended one": {Ended: true}, "one of no pin": {Tx: 2, Root: 3}} {
		for _, words := range []string{"", "u1", "u1 u2"} {
			wantBackupErr(t, what+" "+words, impl.BackupStep(run(t, s, words), b), impl.BkPin)
		}
	}
	for _, b := range []impl.Backup{
		{Pin: 1, Tx: 2, Root: 3, Ended: true},
		{Pin: 1, Tx: 2, Root: 3, Ended: true, Begun: true, Left: []int64{3}},
		{Pin: 1, Tx: 2, Root: 3, Ended: true, Left: []int64{3}, Sum: 9},
	} {
		wantBackupErr(t, fmt.Sprintf("ended: %+v", b), impl.BackupStep(s, b), impl.BkDone)
	}
}

// An Id that was given again to the same Tx with another Root can only be made by hand.
func TestAnIdGivenAgainByHand(t *testing.T) {
	s := opened(t, "deep", deepSheaf().withMeta(9, 3, 8).disk())
	s.Pins = []impl.Pin{{Id: 1, Tx: 9, Root: 3}}
	b := started(t, s, 1, 0)
	for _, pin := range []impl.Pin{{Id: 1, Tx: 9, Root: 4}, {Id: 1, Tx: 8, Root: 3}, {Id: 2, Tx: 9, Root: 3}, {Id: 1, Tx: 1, Root: 7}} {
		other := s
		other.Pins = []impl.Pin{pin}
		wantBackupErr(t, fmt.Sprint("pin ", pin), impl.BackupStep(other, b), impl.BkPin)
	}
	// A pin that was let go and is there again on the same state is the one that was asked for.
	s = run(t, created(t, 60), "b +a c p p p")
	b = started(t, s, 2, 1)
	wantBackupErr(t, "let go", impl.BackupStep(run(t, s, "u2"), b), impl.BkPin)
	wantBackup(t, "there again", impl.BackupStep(run(t, s, "u2 b +z r p"), b), impl.BackupStep(s, b))
}

// A backup made by hand is told as it stands: its numbers as they are, its pages as seen, zeros where there are none.
func TestBackupsByHand(t *testing.T) {
	s := run(t, created(t, 60), "b +a *b +c +d +e c p b +f c")
	s.Disk = impl.WritePage(s.Disk, "g", 0, pageOf(9)).Disk
	last := impl.PageCount(s.Disk, "f") - 1
	pin := s.Pins[0]
	hand := func(change func(b *impl.Backup)) impl.Backup {
		b := impl.Backup{Pin: pin.Id, Id: 7, Tx: pin.Tx, Root: pin.Root, Begun: true}
		change(&b)
		return b
	}
	for _, num := range []int64{0, 1, 2, 3, pin.Root, s.Meta.Root, last, last + 1, 999, 1000, 1001, -1, -2, 255, 256, 65535, 65536, 1<<24 + 1, 1<<31 - 1, 1 << 31, 1<<32 - 1, 1 << 32, 1<<32 + 2, 1<<63 - 1, -1 << 63} {
		for _, rest := range [][]int64{nil, {2}, {num}, {num, num, -5, 1 << 40}} {
			b := hand(func(b *impl.Backup) { b.Left = append([]int64{num}, rest...) })
			page := pageOf(0)
			if num >= 0 && num <= last {
				page = impl.ReadPage(s.Disk, "f", num)
			}
			want := b
			want.Left = rest
			chunk := pageChunk(num, page)
			want.Sum = crc32.ChecksumIEEE(chunk)
			wantBackup(t, fmt.Sprint("page ", num, " ahead of ", rest), impl.BackupStep(s, b), impl.BackupRes{Chunk: chunk, Backup: want})
		}
	}
	// The chunk tells no more of a number than four bytes: page 2 is there, 1<<32+2 is not.
	far := impl.BackupStep(s, hand(func(b *impl.Backup) { b.Left = []int64{1<<32 + 2} })).Chunk
	if want := "P\x02\x00\x00\x00" + string(make([]byte, 128)); string(far[:133]) != want {
		t.Errorf("a number that wraps: % x", far)
	}
	for _, num := range []int64{0, 1, 7, 8, 255, 256, 1<<31 - 1, 1 << 31, 1<<32 - 1, 1 << 32, 1<<40 + 5, impl.NumMax, -1, -2, -256, 1<<63 - 1, -1 << 63} {
		for count := range int64(3) {
			b := hand(func(b *impl.Backup) { b.Begun, b.Id, b.Base, b.Left = false, num, num-1, make([]int64, count) })
			want := b
			want.Begun = true
			chunk := fours([]byte("BK"), num, pin.Tx, num-1, pin.Root, count)
			want.Sum = crc32.ChecksumIEEE(chunk)
			wantBackup(t, fmt.Sprint("head with ", num), impl.BackupStep(s, b), impl.BackupRes{Chunk: chunk, Backup: want})
		}
	}
	many := hand(func(b *impl.Backup) { b.Begun, b.Left = false, make([]int64, 70000) })
	if got := impl.BackupStep(s, many).Chunk; string(got[18:]) != "\x70\x11\x01\x00" {
		t.Errorf("70000 pages: % x", got)
	}
}

// Sum goes on from whatever it is, and the end tells it as it was before.
func TestSumsByHand(t *testing.T) {
	s := run(t, created(t, 60), "b +a c p")
	for _, sum := range []uint32{0, 1, 255, 256, 0x01020304, 0x7fffffff, 0x80000000, 0xfffffffe, 0xffffffff, 0xcbf43926} {
		for _, begun := range []bool{false, true} {
			for _, left := range [][]int64{nil, {}, {3}, {3, 3}, {77}} {
				b := impl.Backup{Pin: 1, Id: 7, Tx: 2, Base: 1, Root: 3, Begun: begun, Left: left, Sum: sum}
				for !b.Ended {
					got := impl.BackupStep(s, b)
					want := modelStepOf(s, b)
					wantBackup(t, fmt.Sprintf("sum %x, %+v", sum, b), got, want)
					if b = want.Backup; got.Err != impl.BkOk {
						t.Fatalf("sum %x: Err %d", sum, got.Err)
					}
				}
			}
		}
		end := impl.BackupStep(s, impl.Backup{Pin: 1, Tx: 2, Root: 3, Begun: true, Sum: sum})
		if want := string(fours([]byte("E"), int64(sum))); string(end.Chunk) != want || end.Backup.Sum != crc32.Update(sum, crc32.IEEETable, []byte(want)) {
			t.Errorf("sum %x: % x, then %x", sum, end.Chunk, end.Backup.Sum)
		}
	}
}

// What is told is what is seen, with the writes that are only in the cache, of the store's file alone.
func TestPagesAsSeen(t *testing.T) {
	s := run(t, created(t, 60), "b +a +b c p b +c c b +d c")
	pin := s.Pins[0]
	cached := changedStore(s, func(s *impl.Store) {
		end := impl.PageCount(s.Disk, "f")
		for _, w := range []struct {
			name string
			page int64
			b    byte
		}{{"e", 0, 1}, {"f", end, 2}, {"f", end + 1, 3}, {"f", end, 4}, {"g", 0, 5}, {"g", 1, 6}} {
			s.Disk = impl.WritePage(s.Disk, w.name, w.page, pageOf(w.b)).Disk
		}
	})
	end := impl.PageCount(s.Disk, "f")
	b := impl.Backup{Pin: pin.Id, Tx: pin.Tx, Root: pin.Root, Begun: true, Left: []int64{end, end + 1, end + 2, 0, 1, 2, pin.Root}}
	for i, page := range [][]byte{pageOf(4), pageOf(3), pageOf(0), impl.ReadPage(s.Disk, "f", 0), impl.ReadPage(s.Disk, "f", 1), impl.ReadPage(s.Disk, "f", 2), impl.ReadPage(s.Disk, "f", pin.Root)} {
		r := impl.BackupStep(cached, b)
		if r.Err != impl.BkOk || string(r.Chunk) != string(pageChunk(b.Left[0], page)) {
			t.Errorf("page %d: Err %d, % x", b.Left[0], r.Err, r.Chunk)
		}
		if b = r.Backup; len(b.Left) != 6-i {
			t.Fatalf("left: %d", b.Left)
		}
	}
	// A pin's tree may stand in the cache, too; its stamps are asked for there.
	whole := opened(t, "cached", deepSheaf().withMeta(9, 3, 8).codes().cached())
	whole.Pins = []impl.Pin{{Id: 1, Tx: 9, Root: 3}}
	whole.Disk = impl.WritePage(whole.Disk, "f", 8, modelNew(stamped(lettersLeaf("cd"), 6))).Disk
	wantLeft(t, "a page written over in the cache", whole, whole.Pins[0], 5, []int64{8})
	wantStream(t, "a file in the cache", whole, started(t, whole, 1, 0))
}

// A backup goes on with no fuel and no room: it only reads.
func TestStepsNeedNoFuel(t *testing.T) {
	s := run(t, created(t, 60), "b +a *b +c +d +e c p b +f c")
	want := streamOf(answersOf(t, s, started(t, s, 1, 0)))
	dry := changedStore(withRoom(s, impl.PageCount(s.Disk, "f")), func(s *impl.Store) { s.Disk.Fuel = 0 })
	if got := streamOf(answersOf(t, dry, started(t, dry, 1, 0))); string(got) != string(want) {
		t.Errorf("without fuel: %d bytes, want %d", len(got), len(want))
	}
}
