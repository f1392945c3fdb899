package tests

import (
	"bytes"
	"testing"

	"loop.example/s02098/impl"
)

// wantOneOrNone asks for the page whose code the bytes are, and for none if they are neither.
func wantOneOrNone(t *testing.T, at int, b []byte, before, after impl.Page) {
	t.Helper()
	got := impl.DecodePage(b)
	switch {
	case bytes.Equal(b, modelNew(before)):
		if !got.Ok || !samePage(got.Page, before) {
			t.Errorf("at %d: %+v, want the page before", at, got)
		}
	case bytes.Equal(b, modelNew(after)):
		if !got.Ok || !samePage(got.Page, after) {
			t.Errorf("at %d: %+v, want the page after", at, got)
		}
	case got.Ok || !zeroPage(got.Page):
		t.Errorf("at %d: %+v, of\n%+v\nand\n%+v", at, got, before, after)
	}
}

// The stamps are apart in one byte, in all, at their ends.
var stampPairs = [][2]int64{{1, 2}, {2, 1}, {1, 257}, {0x01010101, 0x01010102}, {0x01010101, 0x02010101}, {0x01010101, 0x01020101}, {0x01020304, 0x04030201}, {1, impl.NumMax}, {impl.NumMax, impl.NumMax - 1}, {0xffff, 0x10000}}

func TestTornPages(t *testing.T) {
	pages := edgePages()
	for i, a := range pages {
		for j, b := range pages {
			tx := stampPairs[(i+j)%len(stampPairs)]
			before, after := stamped(a.page, tx[0]), stamped(b.page, tx[1])
			old, now := impl.EncodePage(before), impl.EncodePage(after)
			for at := 0; at <= impl.PageBytes; at++ {
				wantOneOrNone(t, at, append(bytes.Clone(now[:at]), old[at:]...), before, after)
			}
		}
	}
}

func TestTornRandomPages(t *testing.T) {
	r := newDice(25)
	for range 200 {
		before := stamped(r.treePage(), r.big())
		after := stamped(r.treePage(), r.big())
		if r.Intn(2) == 0 {
			// The same content: only the stamps and the sum tell them apart.
			after = stamped(before, after.Tx)
		}
		if before.Tx == after.Tx {
			continue
		}
		old, now := impl.EncodePage(before), impl.EncodePage(after)
		for at := 0; at <= impl.PageBytes; at++ {
			wantOneOrNone(t, at, append(bytes.Clone(now[:at]), old[at:]...), before, after)
		}
	}
}

// A disk tears a page in the same way.
func TestPagesTornByTheDisk(t *testing.T) {
	before, after := stamped(leafPage(short("a", "before")), 6), stamped(branchPage(impl.Kid{Page: 2}, impl.Kid{Sep: "m", Page: 3}), 7)
	d := impl.SyncDisk(impl.WritePage(impl.DiskNew(4), "a", 0, impl.EncodePage(before)).Disk).Disk
	d = impl.WritePage(d, "a", 0, impl.EncodePage(after)).Disk
	for at := 0; at <= impl.PageBytes; at++ {
		left := impl.CrashDisk(d, impl.Crash{Tear: 0, At: int64(at)})
		wantOneOrNone(t, at, impl.ReadPage(left, "a", 0), before, after)
	}
	for at := 0; at < impl.PageBytes; at++ {
		empty := impl.WritePage(impl.DiskNew(4), "a", 0, impl.EncodePage(after)).Disk
		left := impl.CrashDisk(empty, impl.Crash{Tear: 0, At: int64(at)})
		// The last bytes of the second stamp are zeros: of a page of zeros they need not be written.
		if got := impl.DecodePage(impl.ReadPage(left, "a", 0)); got.Ok != (at >= 125) {
			t.Errorf("at %d, on a new page: %+v", at, got)
		}
	}
}
