package tests

import (
	"bytes"
	"encoding/hex"
	"fmt"
	"hash/crc32"
	"strings"
	"testing"

	"loop.example/s02098/impl"
)

func TestCrc(t *testing.T) {
	rows := []struct {
		c    uint32
		text string
		want uint32
	}{
		{0, "123456789", 0xcbf43926},
		{0, "", 0},
		{7, "", 7},
		{0xffffffff, "", 0xffffffff},
		{0, "a", 0xe8b7be43},
		{0, "\x00", 0xd202ef8d},
		{0, "\xff", 0xff000000},
	}
	for _, r := range rows {
		if got := impl.Crc(r.c, []byte(r.text)); got != r.want {
			t.Errorf("Crc(%#x, %q) is %#x, want %#x", r.c, r.text, got, r.want)
		}
	}
	if got := impl.Crc(0, nil); got != 0 {
		t.Errorf("Crc of nothing is %#x", got)
	}
	text := []byte("one behind the other\x00\xff\x80")
	for i := range len(text) + 1 {
		if got := impl.Crc(impl.Crc(0, text[:i]), text[i:]); got != impl.Crc(0, text) {
			t.Errorf("parted at %d: %#x", i, got)
		}
	}
	r := newDice(21)
	for range 300 {
		b := make([]byte, r.Intn(300))
		r.Read(b)
		c := r.Uint32()
		if got, want := impl.Crc(c, b), crc32.Update(c, crc32.IEEETable, b); got != want {
			t.Fatalf("Crc(%#x, % x) is %#x, want %#x", c, b, got, want)
		}
	}
}

// bytesOf reads two digits a byte, up to the dots; there zeros fill up to the tail.
func bytesOf(t *testing.T, text string) []byte {
	t.Helper()
	front, tail, _ := strings.Cut(strings.ReplaceAll(text, " ", ""), "..")
	a, err := hex.DecodeString(front)
	if err != nil {
		t.Fatal(err)
	}
	b, err := hex.DecodeString(tail)
	if err != nil {
		t.Fatal(err)
	}
	return append(append(a, make([]byte, impl.PageBytes-len(a)-len(b))...), b...)
}

// The codes here are written out to the last byte, sums and all.
func TestCodesWrittenOut(t *testing.T) {
	rows := []struct {
		f    codec
		page impl.Page
		code string
	}{
		{newCodec, stamped(metaPage(0x01020304, 0x0201, 0x05060708), 0x11121314), "14131211 01 00 0000 04030201 01020000 08070605 434f5732 .. 3c1b661a 14131211"},
		{newCodec, stamped(leafPage(), 1), "01000000 03 00 0000 .. de3ffbaa 01000000"},
		{newCodec, stamped(leafPage(short("ab", "xyz"), long("b", 0x0102, 0x0103)), impl.NumMax), "00943577 03 02 0000 02 6162 00 03 78797a 01 62 01 02010000 03010000 .. 3d89e22d 00943577"},
		{newCodec, stamped(branchPage(impl.Kid{Page: 2}, impl.Kid{Sep: "mn", Page: 999}), 256), "00010000 02 02 0000 02000000 02 6d6e e7030000 .. 658f2f7c 00010000"},
		{newCodec, stamped(overPage(0, "zy"), 3), "03000000 04 00 0000 00000000 02 7a79 .. 7bad35eb 03000000"},
		{oldCodec, metaPage(0x01020304, 0x0201, 0x05060708), "4f 01 00 0201 05060708 01020304 .. 77"},
		{oldCodec, leafPage(), "4f 03 00 .. 52"},
		{oldCodec, leafPage(short("ab", "xyz"), long("b", 0x0102, 0x0103)), "4f 03 02 02 6162000000000000 00 03 78797a 01 6200000000000000 01 0102 0103 .. f2"},
		{oldCodec, branchPage(impl.Kid{Page: 1}, impl.Kid{Sep: "mn", Page: 998}), "4f 02 02 0001 02 6d6e 03e6 .. 1a"},
		{oldCodec, overPage(0, "zy"), "4f 04 00 0000 02 7a79 .. 48"},
	}
	for i, r := range rows {
		want := bytesOf(t, r.code)
		if got := r.f.encode(r.page); !bytes.Equal(got, want) {
			t.Errorf("row %d:\n got % x\nwant % x", i, got, want)
		}
		if got := r.f.decode(want); !got.Ok || !samePage(got.Page, r.page) {
			t.Errorf("row %d: %+v", i, got)
		}
	}
}

func TestPagesThereAndBack(t *testing.T) {
	for _, r := range edgePages() {
		for _, tx := range []int64{1, 2, 255, 256, 0x01020304, impl.NumMax} {
			wantBack(t, newCodec, r.what, stamped(r.page, tx))
		}
		wantBack(t, oldCodec, r.what, r.page)
	}
}

func TestStamps(t *testing.T) {
	for _, r := range edgePages() {
		for _, tx := range []int64{0, -1, impl.NumMax + 1, 1 << 32, 1<<32 + 1, -1 << 63, 1<<63 - 1} {
			wantNoCode(t, newCodec, fmt.Sprintf("%s, Tx %d", r.what, tx), stamped(r.page, tx))
		}
		for _, tx := range []int64{1, -1, impl.NumMax, 256, 1 << 32} {
			wantNoCode(t, oldCodec, fmt.Sprintf("%s, Tx %d", r.what, tx), stamped(r.page, tx))
		}
	}
	for _, tx := range []uint32{0, impl.NumMax + 1, 1<<32 - 1} {
		wantNoPage(t, newCodec, fmt.Sprintf("a leaf of Tx %d", tx), framed(tx, impl.PLeaf, 0, nil))
	}
}

// numbered puts a page number into each field that has one.
var numbered = []struct {
	what string
	page func(n int64) impl.Page
}{
	{"Root", func(n int64) impl.Page { return metaPage(1, n, 0) }},
	{"the first Page", func(n int64) impl.Page { return branchPage(impl.Kid{Page: n}, impl.Kid{Sep: "m", Page: 3}) }},
	{"the last Page", func(n int64) impl.Page {
		return branchPage(impl.Kid{Page: 3}, impl.Kid{Sep: "m", Page: 4}, impl.Kid{Sep: "n", Page: n})
	}},
	{"Over", func(n int64) impl.Page { return leafPage(long("a", n, 9)) }},
	{"the last Over", func(n int64) impl.Page { return leafPage(short("a", ""), long("b", n, 400)) }},
	{"Next", func(n int64) impl.Page { return overPage(n, ninetySix) }},
}

func TestPageNumberEnds(t *testing.T) {
	far := []int64{-1, 1000, 1001, 65536 + 5, 1<<32 + 5, -1 << 63}
	for _, r := range numbered {
		for _, n := range []int64{2, 3, 998, impl.CapMax - 1} {
			wantBack(t, newCodec, fmt.Sprintf("%s %d", r.what, n), stamped(r.page(n), 9))
		}
		for _, n := range append(far, 1) {
			wantNoCode(t, newCodec, fmt.Sprintf("%s %d", r.what, n), stamped(r.page(n), 9))
		}
		for _, n := range []int64{1, 2, impl.CapMax - 2} {
			wantBack(t, oldCodec, fmt.Sprintf("%s %d", r.what, n), r.page(n))
		}
		for _, n := range append(far, 999) {
			wantNoCode(t, oldCodec, fmt.Sprintf("%s %d", r.what, n), r.page(n))
		}
		if r.what != "Next" {
			wantNoCode(t, newCodec, r.what+" 0", stamped(r.page(0), 9))
			wantNoCode(t, oldCodec, r.what+" 0", r.page(0))
		}
	}
	wantBack(t, newCodec, "Next 0", stamped(overPage(0, ninetySix), 9))
	wantBack(t, oldCodec, "Next 0", overPage(0, ninetySix))
}

func TestWrongPagesHaveNoCode(t *testing.T) {
	for _, r := range wrongPages() {
		for _, tx := range []int64{0, 1, impl.NumMax} {
			wantNoCode(t, newCodec, r.what, stamped(r.page, tx))
			wantNoCode(t, oldCodec, r.what, stamped(r.page, tx))
		}
	}
}

func TestCodesOfAnotherLength(t *testing.T) {
	for _, f := range []codec{newCodec, oldCodec} {
		code := f.encode(stamped(leafPage(short("a", "x")), f.tx))
		for n := range impl.PageBytes {
			wantNoPage(t, f, fmt.Sprintf("%d bytes", n), code[:n])
			wantNoPage(t, f, fmt.Sprintf("the last %d bytes", n), code[impl.PageBytes-n:])
		}
		wantNoPage(t, f, "129 bytes", append(bytes.Clone(code), 0))
		wantNoPage(t, f, "256 bytes", append(bytes.Clone(code), code...))
		wantNoPage(t, f, "nil", nil)
		wantNoPage(t, f, "zeros", make([]byte, impl.PageBytes))
		wantNoPage(t, f, "ones", pageOf(0xff))
	}
}

func TestOneByteChanged(t *testing.T) {
	for _, r := range edgePages() {
		for _, f := range []codec{newCodec, oldCodec} {
			code := f.encode(stamped(r.page, f.tx))
			for i := range code {
				for _, change := range []byte{1, 0x80, 0xff, byte(i)*2 + 3} {
					b := bytes.Clone(code)
					b[i] ^= change
					wantNoPage(t, f, fmt.Sprintf("%s, byte %d changed", r.what, i), b)
				}
			}
		}
	}
}

// Here the sums and stamps are right: it is the rest that makes no code.
func TestWrongCodes(t *testing.T) {
	over := "\x60" + ninetySix
	rows := []struct {
		what        string
		kind, count byte
		body        string
	}{
		{"Kind 0", 0, 0, ""}, {"Kind 5", 5, 0, ""}, {"Kind 255", 255, 0, ""},
		{"meta with a count", 1, 1, "\x01\x00\x00\x00\x02\x00\x00\x00\x00\x00\x00\x00COW2"},
		{"meta without letters", 1, 0, "\x01\x00\x00\x00\x02\x00\x00\x00\x00\x00\x00\x00"},
		{"meta with other letters", 1, 0, "\x01\x00\x00\x00\x02\x00\x00\x00\x00\x00\x00\x00COW1"},
		{"meta with bytes behind it", 1, 0, "\x01\x00\x00\x00\x02\x00\x00\x00\x00\x00\x00\x00COW2\x01"},
		{"meta with Id 0", 1, 0, "\x00\x00\x00\x00\x02\x00\x00\x00\x00\x00\x00\x00COW2"},
		{"meta with an Id that is too large", 1, 0, "\x01\x94\x35\x77\x02\x00\x00\x00\x00\x00\x00\x00COW2"},
		{"meta with Root 1", 1, 0, "\x01\x00\x00\x00\x01\x00\x00\x00\x00\x00\x00\x00COW2"},
		{"meta with Root 1000", 1, 0, "\x01\x00\x00\x00\xe8\x03\x00\x00\x00\x00\x00\x00COW2"},
		{"meta with a Root of 33 bits, nearly", 1, 0, "\x01\x00\x00\x00\x02\x00\x00\x80\x00\x00\x00\x00COW2"},
		{"meta with a Count that is too large", 1, 0, "\x01\x00\x00\x00\x02\x00\x00\x00\xff\xff\xff\xffCOW2"},
		{"branch of 0", 2, 0, ""}, {"branch of 1", 2, 1, "\x02\x00\x00\x00"},
		{"branch of 5", 2, 5, "\x02\x00\x00\x00\x01a\x03\x00\x00\x00\x01b\x03\x00\x00\x00\x01c\x03\x00\x00\x00\x01d\x03\x00\x00\x00"},
		{"branch of 255", 2, 255, "\x02\x00\x00\x00\x01a\x03\x00\x00\x00"},
		{"branch with a kid behind its count", 2, 2, "\x02\x00\x00\x00\x01a\x03\x00\x00\x00\x01b\x04\x00\x00\x00"},
		{"branch with too few kids for its count", 2, 3, "\x02\x00\x00\x00\x01a\x03\x00\x00\x00"},
		{"branch with an empty Sep", 2, 2, "\x02\x00\x00\x00\x00\x03\x00\x00\x00"},
		{"branch with a Sep of 9", 2, 2, "\x02\x00\x00\x00\x09123456789\x03\x00\x00\x00"},
		{"branch with a Sep up to the end", 2, 2, "\x02\x00\x00\x00\x6b" + strings.Repeat("s", 107)},
		{"branch with a Sep that goes on behind the end", 2, 2, "\x02\x00\x00\x00\xff" + strings.Repeat("s", 107)},
		{"branch whose Seps descend", 2, 3, "\x02\x00\x00\x00\x01b\x03\x00\x00\x00\x01a\x03\x00\x00\x00"},
		{"branch with a Sep twice", 2, 3, "\x02\x00\x00\x00\x01b\x03\x00\x00\x00\x01b\x03\x00\x00\x00"},
		{"branch with Page 1", 2, 2, "\x02\x00\x00\x00\x01a\x01\x00\x00\x00"},
		{"branch with Page 1000", 2, 2, "\xe8\x03\x00\x00\x01a\x02\x00\x00\x00"},
		{"leaf with a byte behind nothing", 3, 0, "\x01"},
		{"leaf of 5", 3, 5, "\x01a\x00\x00\x01b\x00\x00\x01c\x00\x00\x01d\x00\x00\x01e\x00\x00"},
		{"leaf of 255", 3, 255, "\x01a\x00\x00"},
		{"leaf with too few entries for its count", 3, 2, "\x01a\x00\x01x"},
		{"leaf with an entry behind its count", 3, 1, "\x01a\x00\x01x\x01b\x00\x01x"},
		{"leaf with a byte behind its entries", 3, 1, "\x01a\x00\x02xyz"},
		{"leaf with a byte far behind its entries", 3, 1, "\x01a\x00\x02xy" + strings.Repeat("\x00", 105) + "z"},
		{"leaf with an empty key", 3, 1, "\x00\x00\x01x"},
		{"leaf with a key of 9", 3, 1, "\x09123456789\x00\x00"},
		{"leaf with a key up to the end", 3, 1, "\x6f" + strings.Repeat("k", 111)},
		{"leaf with a key that goes on behind the end", 3, 1, "\xff" + strings.Repeat("k", 111)},
		{"leaf whose keys descend", 3, 2, "\x01b\x00\x00\x01a\x00\x00"},
		{"leaf with a key twice", 3, 2, "\x01b\x00\x00\x01b\x00\x00"},
		{"leaf with a value of 9", 3, 1, "\x01a\x00\x09123456789"},
		{"leaf with a value that goes on behind the end", 3, 1, "\x01a\x00\xff" + strings.Repeat("v", 100)},
		{"leaf with the way 2", 3, 1, "\x01a\x02\x05\x00\x00\x00\x09\x00\x00\x00"},
		{"leaf with the way 2 and a value", 3, 1, "\x01a\x02\x01x"},
		{"leaf with the way 255", 3, 1, "\x01a\xff\x05\x00\x00\x00\x09\x00\x00\x00"},
		{"leaf with Over 0", 3, 1, "\x01a\x01\x00\x00\x00\x00\x09\x00\x00\x00"},
		{"leaf with Over 0 and Size 0", 3, 1, "\x01a\x01\x00\x00\x00\x00\x00\x00\x00\x00"},
		{"leaf with Over 1", 3, 1, "\x01a\x01\x01\x00\x00\x00\x09\x00\x00\x00"},
		{"leaf with Over 1000", 3, 1, "\x01a\x01\xe8\x03\x00\x00\x09\x00\x00\x00"},
		{"leaf with Size 8", 3, 1, "\x01a\x01\x05\x00\x00\x00\x08\x00\x00\x00"},
		{"leaf with Size 401", 3, 1, "\x01a\x01\x05\x00\x00\x00\x91\x01\x00\x00"},
		{"overflow with a count", 4, 1, "\x00\x00\x00\x00\x01z"},
		{"overflow of no bytes", 4, 0, "\x00\x00\x00\x00\x00"},
		{"overflow of 97 bytes", 4, 0, "\x00\x00\x00\x00\x61v" + ninetySix},
		{"overflow that goes on behind the end", 4, 0, "\x00\x00\x00\x00\xff" + strings.Repeat("v", 107)},
		{"overflow with a byte behind it", 4, 0, "\x00\x00\x00\x00\x01zz"},
		{"full overflow with a byte behind it", 4, 0, "\x00\x00\x00\x00" + over + "z"},
		{"overflow with a last byte behind it", 4, 0, "\x00\x00\x00\x00\x01z" + strings.Repeat("\x00", 105) + "z"},
		{"short overflow with Next", 4, 0, "\x05\x00\x00\x00\x01z"},
		{"overflow with Next 1", 4, 0, "\x01\x00\x00\x00" + over},
		{"overflow with Next 1000", 4, 0, "\xe8\x03\x00\x00" + over},
	}
	for _, r := range rows {
		wantNoPage(t, newCodec, r.what, framed(7, r.kind, r.count, []byte(r.body)))
	}
	good := framed(7, 3, 1, []byte("\x01a\x00\x02xy"))
	if !impl.DecodePage(good).Ok {
		t.Fatal("the test's own code is wrong")
	}
	for _, i := range []int{6, 7, 14, 60, 118, 119} {
		b := bytes.Clone(good)
		b[i] = 1
		wantNoPage(t, newCodec, fmt.Sprintf("byte %d is no zero", i), summed(b))
	}
	for i := 124; i < 128; i++ {
		b := bytes.Clone(good)
		b[i]++
		wantNoPage(t, newCodec, fmt.Sprintf("the second stamp is off at byte %d", i), b)
	}
	for i := 120; i < 124; i++ {
		b := bytes.Clone(good)
		b[i]++
		wantNoPage(t, newCodec, fmt.Sprintf("the sum is off at byte %d", i), b)
	}
}

func TestWrongOldCodes(t *testing.T) {
	over := "\x60" + ninetySix
	rows := []struct {
		what        string
		kind, count byte
		body        string
	}{
		{"Kind 0", 0, 0, ""}, {"Kind 5", 5, 0, ""}, {"Kind 255", 255, 0, ""},
		{"meta with a count", 1, 1, "\x00\x01\x00\x00\x00\x00\x00\x00\x00\x01"},
		{"meta with a byte behind it", 1, 0, "\x00\x01\x00\x00\x00\x00\x00\x00\x00\x01C"},
		{"meta with Id 0", 1, 0, "\x00\x01\x00\x00\x00\x00\x00\x00\x00\x00"},
		{"meta with an Id that is too large", 1, 0, "\x00\x01\x00\x00\x00\x00\x77\x35\x94\x01"},
		{"meta with Root 0", 1, 0, "\x00\x00\x00\x00\x00\x00\x00\x00\x00\x01"},
		{"meta with Root 999", 1, 0, "\x03\xe7\x00\x00\x00\x00\x00\x00\x00\x01"},
		{"meta with a Count that is too large", 1, 0, "\x00\x01\xff\xff\xff\xff\x00\x00\x00\x01"},
		{"branch of 0", 2, 0, ""}, {"branch of 1", 2, 1, "\x00\x02"},
		{"branch of 5", 2, 5, "\x00\x02\x01a\x00\x03\x01b\x00\x03\x01c\x00\x03\x01d\x00\x03"},
		{"branch of 255", 2, 255, "\x00\x02\x01a\x00\x03"},
		{"branch with a kid behind its count", 2, 2, "\x00\x02\x01a\x00\x03\x01b\x00\x04"},
		{"branch with an empty Sep", 2, 2, "\x00\x02\x00\x00\x03"},
		{"branch with a Sep of 9", 2, 2, "\x00\x02\x09123456789\x00\x03"},
		{"branch with a Sep in 8 bytes", 2, 2, "\x00\x02\x01a\x00\x00\x00\x00\x00\x00\x00\x00\x03"},
		{"branch with a Sep that goes on behind the end", 2, 2, "\x00\x02\xff" + strings.Repeat("s", 121)},
		{"branch whose Seps descend", 2, 3, "\x00\x02\x01b\x00\x03\x01a\x00\x03"},
		{"branch with Page 0", 2, 2, "\x00\x00\x01a\x00\x03"},
		{"branch with Page 999", 2, 2, "\x00\x02\x01a\x03\xe7"},
		{"leaf with a byte behind nothing", 3, 0, "\x01"},
		{"leaf of 5", 3, 5, "\x01a\x00\x00\x00\x00\x00\x00\x00\x00\x00\x01b\x00\x00\x00\x00\x00\x00\x00\x00\x00\x01c\x00\x00\x00\x00\x00\x00\x00\x00\x00\x01d\x00\x00\x00\x00\x00\x00\x00\x00\x00\x01e\x00\x00\x00\x00\x00\x00\x00\x00\x00"},
		{"leaf of 255", 3, 255, "\x01a\x00\x00\x00\x00\x00\x00\x00\x00\x00"},
		{"leaf with an entry behind its count", 3, 1, "\x01a\x00\x00\x00\x00\x00\x00\x00\x00\x00\x01b\x00\x00\x00\x00\x00\x00\x00\x00\x00"},
		{"leaf with a byte behind its entries", 3, 1, "\x01a\x00\x00\x00\x00\x00\x00\x00\x00\x02xyz"},
		{"leaf with a last byte behind its entries", 3, 1, "\x01a\x00\x00\x00\x00\x00\x00\x00\x00\x02xy" + strings.Repeat("\x00", 110) + "z"},
		{"leaf with an empty key", 3, 1, "\x00\x00\x00\x00\x00\x00\x00\x00\x00\x00\x01x"},
		{"leaf with an empty key, filled", 3, 1, "\x00a\x00\x00\x00\x00\x00\x00\x00\x00\x01x"},
		{"leaf with a key of 9", 3, 1, "\x09123456789\x00\x00"},
		{"leaf with a key of 9 in 8 bytes", 3, 1, "\x0912345678\x00\x00"},
		{"leaf with a key that goes on behind the end", 3, 1, "\xff" + strings.Repeat("k", 123)},
		{"leaf with a key whose filling is no zeros", 3, 1, "\x01ab\x00\x00\x00\x00\x00\x00\x00\x00"},
		{"leaf with a key whose last filling is no zero", 3, 1, "\x01a\x00\x00\x00\x00\x00\x00b\x00\x00"},
		{"leaf with a last key whose filling is no zeros", 3, 2, "\x01a\x00\x00\x00\x00\x00\x00\x00\x00\x00\x07b\x00\x00\x00\x00\x00\x00b\x00\x00"},
		{"leaf with a key that is not filled", 3, 1, "\x01a\x00\x02xy"},
		{"leaf whose keys descend", 3, 2, "\x01b\x00\x00\x00\x00\x00\x00\x00\x00\x00\x01a\x00\x00\x00\x00\x00\x00\x00\x00\x00"},
		{"leaf with a key twice", 3, 2, "\x01b\x00\x00\x00\x00\x00\x00\x00\x00\x00\x01b\x00\x00\x00\x00\x00\x00\x00\x00\x00"},
		{"leaf with a value of 9", 3, 1, "\x01a\x00\x00\x00\x00\x00\x00\x00\x00\x09123456789"},
		{"leaf with a value that goes on behind the end", 3, 1, "\x01a\x00\x00\x00\x00\x00\x00\x00\x00\xff" + strings.Repeat("v", 110)},
		{"leaf with the way 2", 3, 1, "\x01a\x00\x00\x00\x00\x00\x00\x00\x02\x00\x05\x00\x09"},
		{"leaf with Over 0", 3, 1, "\x01a\x00\x00\x00\x00\x00\x00\x00\x01\x00\x00\x00\x09"},
		{"leaf with Over 0 and Size 0", 3, 1, "\x01a\x00\x00\x00\x00\x00\x00\x00\x01\x00\x00\x00\x00"},
		{"leaf with Over 999", 3, 1, "\x01a\x00\x00\x00\x00\x00\x00\x00\x01\x03\xe7\x00\x09"},
		{"leaf with Size 8", 3, 1, "\x01a\x00\x00\x00\x00\x00\x00\x00\x01\x00\x05\x00\x08"},
		{"leaf with Size 401", 3, 1, "\x01a\x00\x00\x00\x00\x00\x00\x00\x01\x00\x05\x01\x91"},
		{"overflow with a count", 4, 1, "\x00\x00\x01z"},
		{"overflow of no bytes", 4, 0, "\x00\x00\x00"},
		{"overflow of 97 bytes", 4, 0, "\x00\x00\x61v" + ninetySix},
		{"overflow that goes on behind the end", 4, 0, "\x00\x00\xff" + strings.Repeat("v", 121)},
		{"overflow with a byte behind it", 4, 0, "\x00\x00\x01zz"},
		{"short overflow with Next", 4, 0, "\x00\x05\x01z"},
		{"overflow with Next 999", 4, 0, "\x03\xe7" + over},
	}
	for _, r := range rows {
		wantNoPage(t, oldCodec, r.what, framedOld(r.kind, r.count, []byte(r.body)))
	}
	good := framedOld(3, 1, []byte("\x01a\x00\x00\x00\x00\x00\x00\x00\x00\x02xy"))
	if !impl.DecodeOld(good).Ok {
		t.Fatal("the test's own code is wrong")
	}
	for _, letter := range []byte{'o', 'N', 'P', 0} {
		b := bytes.Clone(good)
		b[0] = letter
		wantNoPage(t, oldCodec, "another letter", summedOld(b))
	}
	for change := 1; change < 256; change++ {
		b := bytes.Clone(good)
		b[127] += byte(change)
		wantNoPage(t, oldCodec, "the sum is off", b)
	}
}

// No code of the one format is one of the other, but by chance: a leaf of Tx 0x..4f begins like an old page.
func TestFormatsApart(t *testing.T) {
	for _, r := range edgePages() {
		wantNoPage(t, newCodec, r.what, impl.EncodeOld(r.page))
		for _, tx := range []int64{1, 'O', 'O' + 3<<8, impl.NumMax} {
			wantNoPage(t, oldCodec, r.what, impl.EncodePage(stamped(r.page, tx)))
		}
	}
}
