package tests

import (
	"bytes"
	"fmt"
	"strings"
	"testing"

	"loop.example/s02098/impl"
)

// goneOn are the steps for a file of eight pages behind a log with this k.
var goneOn = []string{
	"-new -log " + conversions[8],
	"n3 n4 s l3 s n5 n6 n7 s l6 s n8 s n1 s r -log",
	"n4 s l3 s n5 n6 n7 s l6 s n8 s n1 s r -log",
	"n5 n6 n7 s l6 s n8 s n1 s r -log",
	"n6 n7 s l6 s n8 s n1 s r -log",
	"n7 s l6 s n8 s n1 s r -log",
	"n8 s n1 s r -log",
	"s n1 s r -log",
}

// logged is the disk with a log, and with a new of so many pages, each of which can be told from what a conversion writes.
func logged(d impl.Disk, log []byte, pages int64) impl.Disk {
	var news []byte
	for num := range pages {
		news = append(news, byte(100+num))
	}
	d = withFile(d, impl.File{Name: "log", Data: log})
	if pages == 0 {
		return d
	}
	return withFile(d, fileOf("new", news...))
}

// changedAt is a page with one byte changed.
func changedAt(b []byte, at int, to byte) []byte {
	b = bytes.Clone(b)
	b[at] = to
	return b
}

// Every k, with a new of every length: it goes on behind k if new has k + 2 pages, and leaves there what it has.
func TestEveryK(t *testing.T) {
	d := oldDisk(fillers(8))
	file := fileData(d, "x")
	for k := int64(0); k <= 12; k++ {
		for pages := int64(0); pages <= 14; pages++ {
			words := goneOn[0]
			switch {
			case k >= 1 && k <= 7 && pages >= k+2:
				words = goneOn[k]
			case pages == 0:
				words = strings.TrimPrefix(words, "-new ")
			}
			wantConversion(t, fmt.Sprint("k ", k, ", new of ", pages), logged(d, logPage("x", file, k), pages), "x", words)
		}
		if t.Failed() {
			t.FailNow()
		}
	}
	for _, k := range []int64{256, 257, 3 << 8, 3<<8 + 3, 999, 1000, 0x8000, 0xffff} {
		wantConversion(t, fmt.Sprint("k ", k), logged(d, logPage("x", file, k), 14), "x", goneOn[0])
	}
	// The ends of k for other lengths: 1 and n - 1 are right, 0 and n are not.
	for n := int64(2); n <= 5; n++ {
		d := oldDisk(fillers(n))
		for k := int64(0); k <= n+1; k++ {
			words := "-new -log " + conversions[n]
			if k >= 1 && k <= n-1 {
				// From page k + 2 on the words are those of the whole conversion.
				words = "s n1 s r -log"
				if at := strings.Index(conversions[n], fmt.Sprint(" n", k+2)); at >= 0 {
					words = strings.TrimSuffix(conversions[n][at:], " -log") + " -log"
				}
			}
			wantConversion(t, fmt.Sprint(n, " pages, k ", k), logged(d, logPage("x", fileData(d, "x"), k), n+1), "x", words)
		}
	}
}

// wrongLogs are one step beside a log of x with k 3.
func wrongLogs(file []byte) map[string][]byte {
	right := logPage("x", file, 3)
	out := map[string][]byte{
		"zeros": pageOf(0), "noise": pageOf(7), "the old file": file[:impl.PageBytes], "another first k": changedAt(right, 3, 6), "another second k": changedAt(right, 127, 6), "a first k of three bytes": changedAt(right, 2, 1), "a second k of three bytes": changedAt(right, 126, 1),
		"lowest first": changedAt(changedAt(changedAt(changedAt(right, 2, 3), 3, 0), 126, 3), 127, 0), "the letters turned": append([]byte("JM"), right[2:]...), "small letters": append([]byte("mj"), right[2:]...),
		"another name": logPage("y", file, 3), "a longer name": logPage("xx", file, 3), "a name of eight": logPage("xxxxxxxx", file, 3), "no name": logPage("", file, 3), "a name that begins with zero": append([]byte("MJ\x00\x03\x00x"), right[6:]...),
		"the sum of no bytes": logPage("x", nil, 3), "the sum of the meta": logPage("x", file[:impl.PageBytes], 3), "the sum without the last page": logPage("x", file[:len(file)-impl.PageBytes], 3), "the sum without the meta": logPage("x", file[impl.PageBytes:], 3), "the sum of what is turned": logPage("x", modelTurned(file), 3),
		"the sum highest first": append(append(bytes.Clone(right[:12]), right[15], right[14], right[13], right[12]), right[16:]...),
		"one byte later":        append([]byte{0}, right[:127]...), "one byte earlier": append(bytes.Clone(right[1:]), 0),
	}
	for at := range right {
		out[fmt.Sprint("byte ", at, " one more")] = changedAt(right, at, right[at]+1)
		out[fmt.Sprint("byte ", at, " with its highest bit")] = changedAt(right, at, right[at]^128)
		if right[at] != 0 {
			out[fmt.Sprint("byte ", at, " zero")] = changedAt(right, at, 0)
		}
	}
	return out
}

// A log that is wrong anywhere is none, whatever new has.
func TestWrongLogs(t *testing.T) {
	d := oldDisk(fillers(8))
	file := fileData(d, "x")
	wantConversion(t, "the right log", logged(d, logPage("x", file, 3), 5), "x", goneOn[3])
	for what, log := range wrongLogs(file) {
		wantConversion(t, what, logged(d, log, 9), "x", goneOn[0])
		// Nor does it help that the right one stands behind it.
		if strings.HasPrefix(what, "byte 1") {
			wantConversion(t, what+", and the right one behind", logged(d, append(bytes.Clone(log), logPage("x", file, 3)...), 9), "x", goneOn[0])
		}
		if t.Failed() {
			t.FailNow()
		}
	}
	// Page 0 alone is the log.
	for _, behind := range [][]byte{pageOf(0), pageOf(9), logPage("x", file, 6), logPage("y", nil, 1)} {
		wantConversion(t, "a right log of two pages", logged(d, append(logPage("x", file, 3), behind...), 5), "x", goneOn[3])
	}
	// A name of eight letters has no zeros behind it.
	eight := withFile(impl.DiskNew(90), impl.File{Name: "abcdefgh", Data: file})
	wantConversion(t, "eight letters", logged(eight, logPage("abcdefgh", file, 3), 5), "abcdefgh", goneOn[3])
	for _, name := range []string{"abcdefg", "abcdefgi", "bcdefgh", "x"} {
		wantConversion(t, "eight letters, the log of "+name, logged(eight, logPage(name, file, 3), 5), "abcdefgh", goneOn[0])
	}
	seven := withFile(impl.DiskNew(90), impl.File{Name: "abcdefg", Data: file})
	wantConversion(t, "seven letters, the log of eight", logged(seven, logPage("abcdefgh", file, 3), 5), "abcdefg", goneOn[0])
}

// A log that is torn at each place: over nothing, and over the one before it.
func TestTornLogs(t *testing.T) {
	d := oldDisk(fillers(8))
	file := fileData(d, "x")
	for at := range impl.PageBytes + 1 {
		three, six := logPage("x", file, 3), logPage("x", file, 6)
		first := append(bytes.Clone(three[:at]), make([]byte, impl.PageBytes-at)...)
		second := append(bytes.Clone(six[:at]), three[at:]...)
		words, again := goneOn[0], goneOn[0]
		if at == impl.PageBytes {
			words, again = goneOn[3], goneOn[6]
		}
		if at <= 3 {
			// What differs is not yet written.
			again = goneOn[3]
		}
		wantConversion(t, fmt.Sprint("the first log, torn at ", at), logged(d, first, 9), "x", words)
		wantConversion(t, fmt.Sprint("the second log, torn at ", at), logged(d, second, 9), "x", again)
		if t.Failed() {
			t.FailNow()
		}
	}
	// Both bytes of the number change from 255 to 258.
	long := withFile(impl.DiskNew(impl.CapMax), impl.File{Name: "x", Data: fillers(262).old().data()})
	file = fileData(long, "x")
	low, high := logPage("x", file, 255), logPage("x", file, 258)
	for _, at := range []int{0, 2, 3, 4, 64, 126, 127, 128} {
		torn := logged(long, append(bytes.Clone(high[:at]), low[at:]...), 262)
		words := "-new -log"
		switch {
		case at <= 2:
			words = "n257 n258 n259 s l258 s n260 n261 n262 s l261 s s n1 s r -log"
		case at == 128:
			words = "n260 n261 n262 s l261 s s n1 s r -log"
		}
		if at <= 2 || at == 128 {
			wantConversion(t, fmt.Sprint("258 over 255, torn at ", at), torn, "x", words)
			continue
		}
		torn.Fuel = 4
		got := impl.Migrate(torn, "x")
		wantRestoreRes(t, fmt.Sprint("258 over 255, torn at ", at), got, modelMigrate(torn, "x"))
		if got.Err != impl.MgLost || modelFind(got.Disk.Files, "new") >= 0 || modelFind(got.Disk.Files, "log") >= 0 || len(got.Disk.Cache) != 2 {
			t.Errorf("258 over 255, torn at %d: it does not begin anew", at)
		}
	}
}

// The conversion of one file is broken off at each step, and another one is converted: what is there is not its own.
func TestTheLogOfAnotherFile(t *testing.T) {
	d := withFile(oldDisk(fillers(8)), impl.File{Name: "y", Data: fillers(7).with(1, lettersLeaf("cd")).old().data()})
	for fuel := int64(0); fuel <= 21; fuel++ {
		broken := d
		broken.Fuel = fuel
		for keep := range 2 {
			left := impl.CrashDisk(impl.Migrate(broken, "x").Disk, impl.Crash{Keep: []bool{keep == 1, keep == 1, keep == 1, keep == 1, keep == 1}, Tear: -1})
			words := conversions[7]
			for _, name := range []string{"log", "new"} {
				if modelFind(left.Files, name) >= 0 {
					words = "-" + name + " " + words
				}
			}
			what := fmt.Sprint("fuel ", fuel, " keep ", keep)
			wantConversion(t, what, left, "y", words)
			done := impl.Migrate(left, "y").Disk
			wantMap(t, what, done, "y", mapOf(2, "cd"))
			// Behind step 19 it has its name.
			if fuel >= 19 {
				wantMap(t, what, done, "x", mapOf(2, "ab"))
				continue
			}
			wantMap(t, what, done, "x", mapOf(1, "ab"))
			wantConversion(t, what+", then the first", done, "x", conversions[8])
		}
		if t.Failed() {
			t.FailNow()
		}
	}
	// The same name, but another file: one byte of a page that nobody asks for is enough.
	d.Fuel = 8
	left := impl.CrashDisk(impl.Migrate(d, "x").Disk, impl.Crash{Tear: -1})
	wantConversion(t, "the same file", left, "x", goneOn[3])
	for num := int64(2); num < 8; num++ {
		other := withFile(without(left, "x"), impl.File{Name: "x", Data: fillers(8).with(num, overPage(0, "other")).old().data()})
		wantConversion(t, fmt.Sprint("page ", num, " is another"), other, "x", goneOn[0])
		wantMigrated(t, fmt.Sprint("page ", num, " is another"), other, "x", mapOf(1, "ab"))
	}
	other := withFile(without(left, "x"), impl.File{Name: "x", Data: fillers(9).old().data()})
	wantConversion(t, "a page more", other, "x", "-new -log "+conversions[9])
	other = withFile(without(left, "x"), impl.File{Name: "x", Data: fillers(4).old().data()})
	wantConversion(t, "fewer pages", other, "x", "-new -log "+conversions[4])
	// The same bytes under another name.
	wantConversion(t, "another name", impl.RenameFile(left, "x", "b").Disk, "b", goneOn[0])
}

// Pages of new from a run before, kept or torn or zeros, are written over from k on; those up to k stay.
func TestPagesOfARunBefore(t *testing.T) {
	d := oldDisk(longOld())
	want := impl.ReadAny(d, "x")
	// Behind the first log: n5, n6 and n7 are in the cache.
	d.Fuel = 11
	lost := impl.Migrate(d, "x").Disk
	for _, c := range everyCrash(3, []int64{0, 1, 8, 64, 119, 123, 127, 128}) {
		left := impl.CrashDisk(lost, c)
		what := fmt.Sprint("pages 5 to 7, ", c)
		wantConversion(t, what, left, "x", goneOn[3])
		wantMigrated(t, what, left, "x", want)
		if t.Failed() {
			t.FailNow()
		}
	}
	// At the end: the meta of new is there, or torn, and the log tells of page 6.
	d.Fuel = 17
	lost = impl.Migrate(d, "x").Disk
	for _, c := range everyCrash(1, everyPlace()) {
		left := impl.CrashDisk(lost, c)
		what := fmt.Sprint("the meta, ", c)
		wantConversion(t, what, left, "x", goneOn[6])
		wantMigrated(t, what, left, "x", want)
	}
	// A new that is longer than it will ever be leaves its pages behind the end of the tree.
	longer := logged(oldDisk(fillers(8)), logPage("x", fillers(8).old().data(), 7), 12)
	got := impl.Migrate(longer, "x")
	if data := fileData(got.Disk, "x"); got.Err != impl.MgOk || len(data) != 12*impl.PageBytes || !bytes.Equal(data[2*128:], fileData(longer, "new")[2*128:]) {
		t.Errorf("a longer new: Err %d, %d bytes", got.Err, len(data))
	}
}
