package tests

import (
	"bytes"
	"fmt"
	"hash/crc32"
	"slices"
	"testing"

	"loop.example/s02098/impl"
)

// wantGivenBack asks for what the backup itself says, page by page.
func wantGivenBack(t *testing.T, what string, answers []impl.BackupRes, s impl.Store, b impl.Backup) {
	t.Helper()
	want := impl.Stream{Id: b.Id, Tx: b.Tx, Base: b.Base, Root: b.Root}
	for _, num := range b.Left {
		want.Pages = append(want.Pages, impl.NumPage{Num: num, Data: impl.ReadPage(s.Disk, s.Name, num)})
	}
	wantParsed(t, what, streamOf(answers), impl.StreamRes{Stream: want})
}

// wantCutsRefused asks that every beginning is too short: what stands there is right so far.
func wantCutsRefused(t *testing.T, what string, b []byte) {
	t.Helper()
	for cut := range len(b) {
		wantParseErr(t, fmt.Sprint(what, " cut at ", cut), b[:cut], impl.RsShort)
	}
}

// wantChangesRefused changes one byte at every place, to each of the values that differ by these bits.
func wantChangesRefused(t *testing.T, what string, b []byte, bits ...byte) {
	t.Helper()
	wrong := bytes.Clone(b)
	for at := range wrong {
		for _, x := range bits {
			wrong[at] = b[at] ^ x
			got := impl.ParseStream(wrong)
			if got.Err == impl.RsOk || !sameStream(got.Stream, impl.Stream{}) {
				t.Errorf("%s: byte %d changed by %x: Err %d, %d pages", what, at, x, got.Err, len(got.Stream.Pages))
			}
			if want := modelParse(wrong).Err; got.Err != want {
				t.Errorf("%s: byte %d changed by %x: Err %d, want %d", what, at, x, got.Err, want)
			}
		}
		wrong[at] = b[at]
	}
}

// Every stream of a drawn backup, full or on a base, is given back.
func TestStreamsOfBackups(t *testing.T) {
	full, based := 0, 0
	for seed := range int64(30) {
		r := newDice(900 + seed)
		s := r.pinnedStore(t, r.keys(int(r.pick(3, 8, 20))))
		for _, pin := range s.Pins {
			for _, base := range r.bases(pin) {
				b := started(t, s, pin.Id, base)
				wantGivenBack(t, fmt.Sprint("seed ", seed, " pin ", pin.Id, " on ", base), answersOf(t, s, b), s, b)
				if base == 0 {
					full++
				} else {
					based++
				}
			}
		}
	}
	if full < 50 || based < 50 {
		t.Errorf("%d full, %d on a base", full, based)
	}
}

// Every stream of a drawn pin, with its end gone or one byte changed, at every place, is refused.
func TestTornStreams(t *testing.T) {
	full, based := 0, 0
	for seed := range int64(32) {
		r := newDice(950 + seed)
		s := r.pinnedStore(t, r.keys(int(r.pick(3, 8, 20))))
		pin := s.Pins[r.Intn(len(s.Pins))]
		for _, base := range r.bases(pin) {
			what := fmt.Sprint("seed ", seed, " pin ", pin.Id, " on ", base)
			stream := backedUp(t, s, pin.Id, base)
			wantCutsRefused(t, what, stream)
			wantChangesRefused(t, what, stream, 1<<r.Intn(8), byte(1+r.Intn(255)))
			if base == 0 {
				full++
			} else {
				based++
			}
		}
		if t.Failed() {
			t.FailNow()
		}
	}
	if full < 32 || based < 20 {
		t.Errorf("%d full, %d on a base", full, based)
	}
}

// The smallest stream that a store has, with every other byte at every place.
func TestEveryByteOfAStream(t *testing.T) {
	s := run(t, created(t, 60), "p")
	b := backedUp(t, s, 1, 0)
	wantCutsRefused(t, "the smallest stream", b)
	var bits []byte
	for x := 1; x < 256; x++ {
		bits = append(bits, byte(x))
	}
	wantChangesRefused(t, "the smallest stream", b, bits...)
}

// The first letters, and the length, which goes before them.
func TestTextsOfNoStream(t *testing.T) {
	wantParseErr(t, "nil", nil, impl.RsShort)
	wantParseErr(t, "nothing", []byte{}, impl.RsShort)
	for x := range 256 {
		err := int64(impl.RsHead)
		if x == 'B' {
			err = impl.RsShort
		}
		wantParseErr(t, fmt.Sprint("the byte ", x), []byte{byte(x)}, err)
	}
	for text, err := range map[string]int64{
		"BK": impl.RsShort, "BX": impl.RsHead, "XK": impl.RsHead, "KB": impl.RsHead, "bk": impl.RsHead, "B\x00": impl.RsHead, "BB": impl.RsHead, "KK": impl.RsHead,
		"XX": impl.RsHead, "BKK": impl.RsShort, "BXX": impl.RsHead, "XKX": impl.RsHead, " BK": impl.RsHead, "\x00\x00": impl.RsHead, "E": impl.RsHead, "P": impl.RsHead, "K": impl.RsHead,
	} {
		wantParseErr(t, text, []byte(text), err)
	}
	whole := textOf(7, 1, 0, 2, 0)
	for _, row := range []struct {
		what string
		b    []byte
		long int
		err  int64
	}{
		{"zeros", nil, impl.StreamMax, impl.RsHead}, {"zeros", nil, impl.StreamMax + 1, impl.RsLong}, {"zeros", nil, impl.StreamMax + 2, impl.RsLong}, {"zeros", nil, 2 * impl.StreamMax, impl.RsLong},
		{"a stream and more", whole, impl.StreamMax, impl.RsTail}, {"a stream and more", whole, impl.StreamMax + 1, impl.RsLong}, {"a stream and more", whole, impl.StreamMax - 1, impl.RsTail},
		{"a head and no frame", textOf(7, 1, 0, 2, 1)[:22], impl.StreamMax, impl.RsFrame}, {"a head and no frame", textOf(7, 1, 0, 2, 1)[:22], impl.StreamMax + 1, impl.RsLong},
		{"a wrong head", textOf(0, 1, 0, 2, 1), impl.StreamMax, impl.RsHead}, {"a wrong head", textOf(0, 1, 0, 2, 1), impl.StreamMax + 1, impl.RsLong},
	} {
		wantParseErr(t, fmt.Sprint(row.what, ", ", row.long, " bytes"), append(bytes.Clone(row.b), make([]byte, row.long-len(row.b))...), row.err)
	}
}

// missummed has a wrong last sum, and one byte more behind it.
func missummed(b []byte) []byte { return append(b[:len(b)-1:len(b)-1], b[len(b)-1]+1, 'x') }

// sumErr is the Err of a text that was made so: what was wrong before goes before it.
func sumErr(err int64) int64 {
	if err == impl.RsOk {
		return impl.RsSum
	}
	return err
}

// Each of the five numbers at its ends and beyond them. A stream without pages is one, too.
func TestNumbersOfAHead(t *testing.T) {
	const top, far = impl.NumMax, 1<<32 - 1
	for _, row := range []struct {
		id, tx, base, root, count int64
		err                       int64
	}{
		{1, 1, 0, 2, 0, impl.RsOk}, {7, 9, 8, 500, 0, impl.RsOk}, {top, top, top - 1, 999, 0, impl.RsOk},
		{0, 9, 8, 500, 0, impl.RsHead}, {top + 1, 9, 8, 500, 0, impl.RsHead}, {1 << 31, 9, 8, 500, 0, impl.RsHead}, {far, 9, 8, 500, 0, impl.RsHead},
		{7, 0, 0, 500, 0, impl.RsHead}, {7, top + 1, 0, 500, 0, impl.RsHead}, {7, top + 1, top, 500, 0, impl.RsHead}, {7, 1 << 31, 0, 500, 0, impl.RsHead}, {7, far, 5, 500, 0, impl.RsHead},
		{7, 9, 0, 500, 0, impl.RsOk}, {7, 9, 1, 500, 0, impl.RsOk}, {7, 9, 9, 500, 0, impl.RsHead}, {7, 9, 10, 500, 0, impl.RsHead}, {7, 1, 1, 500, 0, impl.RsHead},
		{7, 9, 1 << 31, 500, 0, impl.RsHead}, {7, 9, far, 500, 0, impl.RsHead}, {7, top, top, 500, 0, impl.RsHead}, {7, 0, far, 500, 0, impl.RsHead},
		{7, 9, 8, 0, 0, impl.RsHead}, {7, 9, 8, 1, 0, impl.RsHead}, {7, 9, 8, 2, 0, impl.RsOk}, {7, 9, 8, 999, 0, impl.RsOk}, {7, 9, 8, 1000, 0, impl.RsHead}, {7, 9, 8, 258 + 65536, 0, impl.RsHead}, {7, 9, 8, far, 0, impl.RsHead},
		// With pages told that are not there, the next letter is read: it is E.
		{7, 9, 8, 500, 1, impl.RsFrame}, {7, 9, 8, 500, 999, impl.RsFrame}, {7, 9, 8, 500, 1000, impl.RsFrame}, {7, 9, 8, 500, 1001, impl.RsHead}, {7, 9, 8, 500, 1 << 16, impl.RsHead}, {7, 9, 8, 500, 1 << 31, impl.RsHead}, {7, 9, 8, 500, far, impl.RsHead},
		{0, 0, 0, 0, far, impl.RsHead}, {far, far, far, far, far, impl.RsHead},
	} {
		what := fmt.Sprint("a head of ", row)
		b := textOf(row.id, row.tx, row.base, row.root, row.count)
		if row.err != impl.RsOk {
			wantParseErr(t, what, b, row.err)
		} else {
			wantParsed(t, what, b, impl.StreamRes{Stream: impl.Stream{Id: row.id, Tx: row.tx, Base: row.base, Root: row.root}})
		}
		// The numbers are looked at when all five are read; what is wrong with them goes before what stands behind.
		for cut := 2; cut < 22; cut++ {
			wantParseErr(t, fmt.Sprint(what, " cut at ", cut), b[:cut], impl.RsShort)
		}
		alone := int64(impl.RsShort)
		if row.err == impl.RsHead {
			alone = impl.RsHead
		}
		wantParseErr(t, what+" alone", b[:22], alone)
		wantParseErr(t, what+" with a wrong sum and more", missummed(b), sumErr(row.err))
	}
}

// All page numbers there are, and more pages told than there are numbers.
func TestNumbersOfPages(t *testing.T) {
	leaf := stamped(leafPage(), 9)
	var frames [][]byte
	for num := int64(2); num < impl.CapMax; num++ {
		frames = append(frames, frameOf(num, leaf))
	}
	all := impl.ParseStream(textOf(7, 9, 8, 5, 998, frames...))
	if all.Err != impl.RsOk || len(all.Stream.Pages) != 998 || all.Stream.Pages[0].Num != 2 || all.Stream.Pages[997].Num != 999 {
		t.Fatalf("all pages: Err %d, %d pages", all.Err, len(all.Stream.Pages))
	}
	for _, row := range []struct {
		count int64
		more  []byte
		err   int64
	}{
		{997, nil, impl.RsFrame}, {999, nil, impl.RsFrame}, {1000, nil, impl.RsFrame}, {1001, nil, impl.RsHead},
		{999, frameOf(1000, leaf), impl.RsFrame}, {999, frameOf(999, leaf), impl.RsFrame}, {999, frameOf(2, leaf), impl.RsFrame}, {1000, slices.Concat(frameOf(1000, leaf), frameOf(1001, leaf)), impl.RsFrame},
	} {
		b := textOf(7, 9, 8, 5, row.count, append(slices.Clone(frames), row.more)...)
		wantParseErr(t, fmt.Sprint(row.count, " pages told, ", len(row.more), " bytes more"), b, row.err)
		if row.err == impl.RsFrame && row.count > 998 {
			wantParseErr(t, fmt.Sprint(row.count, " pages told, none more"), b[:22+998*137], impl.RsShort)
		}
	}
	for _, row := range []struct {
		nums []int64
		err  int64
	}{
		{[]int64{2}, impl.RsOk}, {[]int64{999}, impl.RsOk}, {[]int64{2, 3, 999}, impl.RsOk}, {[]int64{2, 500}, impl.RsOk}, {[]int64{255, 256, 257}, impl.RsOk},
		{[]int64{0}, impl.RsFrame}, {[]int64{1}, impl.RsFrame}, {[]int64{1000}, impl.RsFrame}, {[]int64{1<<32 - 1}, impl.RsFrame}, {[]int64{1 << 31}, impl.RsFrame}, {[]int64{2 + 1<<16}, impl.RsFrame},
		{[]int64{0, 2}, impl.RsFrame}, {[]int64{1, 2}, impl.RsFrame}, {[]int64{2, 2}, impl.RsFrame}, {[]int64{3, 2}, impl.RsFrame}, {[]int64{2, 4, 3}, impl.RsFrame}, {[]int64{2, 4, 4}, impl.RsFrame}, {[]int64{2, 4, 2}, impl.RsFrame}, {[]int64{999, 1000}, impl.RsFrame}, {[]int64{256, 255}, impl.RsFrame},
	} {
		var some [][]byte
		want := impl.Stream{Id: 7, Tx: 9, Base: 8, Root: 5}
		for _, num := range row.nums {
			some = append(some, frameOf(num, leaf))
			want.Pages = append(want.Pages, impl.NumPage{Num: num, Data: modelNew(leaf)})
		}
		if row.err != impl.RsOk {
			want = impl.Stream{}
		}
		wantParsed(t, fmt.Sprint("pages ", row.nums), textOf(7, 9, 8, 5, int64(len(some)), some...), impl.StreamRes{Err: row.err, Stream: want})
	}
}

// What the 128 bytes of a frame may be, and their stamps.
func TestCodesOfAFrame(t *testing.T) {
	kinds := map[string]impl.Page{
		"an empty leaf": leafPage(), "a leaf": lettersLeaf("abcd"), "a leaf with a long value": leafPage(long("c", 7, 100)), "a branch": branchPage(kid("", 3), kid("c", 2)), "overflow": overPage(0, "z"), "overflow that goes on": overPage(9, ninetySix),
	}
	// The two ends of 4..9, and 1..1, and the ends of all stamps.
	for _, span := range [][2]int64{{3, 9}, {0, 1}, {0, impl.NumMax}, {impl.NumMax - 1, impl.NumMax}, {8, 9}} {
		base, tx := span[0], span[1]
		for what, p := range kinds {
			for _, stamp := range []int64{1, base - 1, base, base + 1, tx - 1, tx, tx + 1, impl.NumMax} {
				if stamp < 1 || stamp > impl.NumMax {
					continue
				}
				b := textOf(7, tx, base, 5, 1, frameOf(5, stamped(p, stamp)))
				text := fmt.Sprint(what, " with stamp ", stamp, " in ", base, "..", tx)
				if stamp <= base || stamp > tx {
					wantParseErr(t, text, b, impl.RsFrame)
					continue
				}
				page := impl.NumPage{Num: 5, Data: modelNew(stamped(p, stamp))}
				wantParsed(t, text, b, impl.StreamRes{Stream: impl.Stream{Id: 7, Tx: tx, Base: base, Root: 5, Pages: []impl.NumPage{page}}})
			}
		}
		wantParseErr(t, "a meta", textOf(7, tx, base, 5, 1, frameOf(5, stamped(metaPage(7, 5, 0), tx))), impl.RsFrame)
	}
	for what, code := range notACode() {
		wantParseErr(t, what, textOf(7, impl.NumMax, 0, 5, 1, pageChunk(5, code)), impl.RsFrame)
	}
	wantParseErr(t, "an old meta", textOf(7, 9, 0, 5, 1, pageChunk(5, modelOld(metaPage(7, 5, 0)))), impl.RsFrame)
}

// A frame's letter and its sum, the last letter and the last sum, and one byte more.
func TestMarksAndSums(t *testing.T) {
	frames := [][]byte{frameOf(3, stamped(lettersLeaf("ab"), 9)), frameOf(5, stamped(overPage(0, "z"), 9))}
	b := textOf(7, 9, 8, 5, 2, frames...)
	end := len(b) - 5
	changed := func(at int, x byte) []byte {
		out := bytes.Clone(b)
		out[at] = x
		return out
	}
	for x := range 256 {
		for _, row := range []struct {
			at   int
			mark byte
		}{{22, 'P'}, {22 + 137, 'P'}, {end, 'E'}} {
			if byte(x) == row.mark {
				continue
			}
			text := fmt.Sprint("the letter ", x, " at ", row.at)
			wrong := resealed(changed(row.at, byte(x)))
			if row.at == end {
				wrong = changed(row.at, byte(x))
			}
			wantParseErr(t, text, wrong, impl.RsFrame)
			// The letter is looked at when it is read, whether the text goes on or not.
			for _, cut := range []int{row.at + 1, row.at + 2, row.at + 4} {
				wantParseErr(t, fmt.Sprint(text, ", cut at ", cut), wrong[:cut], impl.RsFrame)
			}
			wantParseErr(t, text+" cut before it", wrong[:row.at], impl.RsShort)
		}
	}
	for at := range 4 {
		wantParseErr(t, fmt.Sprint("byte ", at, " of a frame's sum"), resealed(changed(22+133+at, b[22+133+at]+1)), impl.RsFrame)
		wantParseErr(t, fmt.Sprint("byte ", at, " of the second frame's sum"), resealed(changed(22+137+133+at, b[22+137+133+at]^0x80)), impl.RsFrame)
		wrong := changed(end+1+at, b[end+1+at]+1)
		wantParseErr(t, fmt.Sprint("byte ", at, " of the last sum"), wrong, impl.RsSum)
		wantParseErr(t, fmt.Sprint("byte ", at, " of the last sum, and more"), append(wrong, 0), impl.RsSum)
	}
	for x := range 256 {
		wantParseErr(t, fmt.Sprint("the byte ", x, " behind it"), append(bytes.Clone(b), byte(x)), impl.RsTail)
	}
	wantParseErr(t, "the stream twice", append(bytes.Clone(b), b...), impl.RsTail)
	wantParseErr(t, "its end twice", append(bytes.Clone(b), b[end:]...), impl.RsTail)
	// Sums of something else: with the letter E, of the last frame alone, of nothing.
	for what, sum := range map[string]uint32{"with the E": crc32.ChecksumIEEE(b[:end+1]), "without the BK": crc32.ChecksumIEEE(b[2:end]), "of a frame": crc32.ChecksumIEEE(frames[1]), "of nothing": 0} {
		wantParseErr(t, "a sum "+what, append(b[:end:end], endChunk(sum)...), impl.RsSum)
	}
	// A frame's sum is that of its number and page: not with its letter, nor of the page alone.
	code := modelNew(stamped(leafPage(), 9))
	body := append(fours(nil, 5), code...)
	for what, sum := range map[string]uint32{"with its letter": crc32.ChecksumIEEE(append([]byte("P"), body...)), "of the page alone": crc32.ChecksumIEEE(code), "of nothing": 0} {
		wantParseErr(t, "a frame's sum "+what, textOf(7, 9, 8, 5, 1, fours(append([]byte("P"), body...), int64(sum))), impl.RsFrame)
	}
}

// Where more than one fault is there, the one that is read first is told; in a frame only the letter is looked at ahead of its end.
func TestFaultsInOrder(t *testing.T) {
	good := frameOf(3, stamped(lettersLeaf("ab"), 9))
	none := frameOf(1, stamped(leafPage(), 9))
	summed := bytes.Clone(good)
	summed[136]++
	letter := append([]byte("Q"), good[1:]...)
	for what, row := range map[string]struct {
		frames [][]byte
		err    int64
	}{
		"a wrong number":                  {[][]byte{none, good}, impl.RsFrame},
		"a wrong number behind":           {[][]byte{good, none}, impl.RsFrame},
		"a wrong sum":                     {[][]byte{summed, good}, impl.RsFrame},
		"a wrong letter":                  {[][]byte{letter, good}, impl.RsFrame},
		"a wrong letter behind":           {[][]byte{good, letter}, impl.RsFrame},
		"a frame twice":                   {[][]byte{good, good}, impl.RsFrame},
		"a frame too few":                 {[][]byte{good}, impl.RsFrame},
		"a frame too many":                {[][]byte{good, frameOf(4, stamped(leafPage(), 9)), frameOf(5, stamped(leafPage(), 9))}, impl.RsFrame},
		"a wrong number, then no more":    {[][]byte{none}, impl.RsFrame},
		"two frames and nothing is wrong": {[][]byte{good, frameOf(4, stamped(leafPage(), 9))}, impl.RsOk},
	} {
		b := textOf(7, 9, 8, 5, 2, row.frames...)
		if got := impl.ParseStream(b); got.Err != row.err {
			t.Errorf("%s: Err %d, want %d", what, got.Err, row.err)
		}
		wantParseErr(t, what+", with a wrong last sum and more", missummed(b), sumErr(row.err))
		for cut := range len(b) {
			wantParseErr(t, fmt.Sprint(what, ", cut at ", cut), b[:cut], modelParse(b[:cut]).Err)
		}
	}
	// A frame that is wrong and ends too early is too short, up to its last byte.
	for _, frame := range [][]byte{none, summed} {
		for cut := 1; cut < 137; cut++ {
			wantParseErr(t, fmt.Sprint("a wrong frame cut at ", cut), append(textOf(7, 9, 8, 5, 1)[:22], frame[:cut]...), impl.RsShort)
		}
		wantParseErr(t, "a wrong frame and no more", append(textOf(7, 9, 8, 5, 1)[:22], frame...), impl.RsFrame)
	}
}
