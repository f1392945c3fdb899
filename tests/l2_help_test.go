package tests

import (
	"bytes"
	"encoding/binary"
	"hash/crc32"
	"slices"
	"strings"
	"testing"

	"loop.example/s02098/impl"
)

// namedPage is a page without a stamp, as the old format has it, and with page numbers that both formats have; stamped gives it one.
type namedPage struct {
	what string
	page impl.Page
}

func stamped(p impl.Page, tx int64) impl.Page {
	p.Tx = tx
	return p
}

func metaPage(id, root, count int64) impl.Page {
	return impl.Page{Kind: impl.PMeta, Meta: impl.Meta{Id: id, Root: root, Count: count}}
}

func branchPage(kids ...impl.Kid) impl.Page { return impl.Page{Kind: impl.PBranch, Kids: kids} }

func leafPage(ents ...impl.Ent) impl.Page { return impl.Page{Kind: impl.PLeaf, Ents: ents} }

func overPage(next int64, data string) impl.Page {
	return impl.Page{Kind: impl.POver, Next: next, Data: data}
}

func short(key, val string) impl.Ent {
	return impl.Ent{Key: key, Val: val, Size: int64(len(val))}
}

func long(key string, over, size int64) impl.Ent {
	return impl.Ent{Key: key, Over: over, Size: size}
}

// framed brings a body into the new format, whatever it is: only the sum and the stamps are right.
func framed(tx uint32, kind, count byte, body []byte) []byte {
	b := binary.LittleEndian.AppendUint32(nil, tx)
	b = append(b, kind, count, 0, 0)
	b = append(b, body...)
	return summed(append(b, make([]byte, 120-len(b))...))
}

// summed makes a code of the first 120 bytes.
func summed(b []byte) []byte {
	b = slices.Clone(b[:120])
	b = binary.LittleEndian.AppendUint32(b, crc32.ChecksumIEEE(b))
	return append(b, b[:4]...)
}

func framedOld(kind, count byte, body []byte) []byte {
	b := append([]byte{'O', kind, count}, body...)
	return summedOld(append(b, make([]byte, 127-len(b))...))
}

func summedOld(b []byte) []byte {
	b = slices.Clone(b[:127])
	sum := 0
	for _, x := range b {
		sum += int(x)
	}
	return append(b, byte(sum%256))
}

// The model: the words of the document once more, as lists of bytes that grow.

func modelNew(p impl.Page) []byte {
	if p.Tx < 1 || p.Tx > impl.NumMax || !modelPage(p, 2, impl.CapMax-1) {
		return nil
	}
	var b []byte
	four := func(n int64) { b = binary.LittleEndian.AppendUint32(b, uint32(n)) }
	text := func(s string) { b = append(append(b, byte(len(s))), s...) }
	switch p.Kind {
	case impl.PMeta:
		four(p.Meta.Id)
		four(p.Meta.Root)
		four(p.Meta.Count)
		b = append(b, "COW2"...)
	case impl.POver:
		four(p.Next)
		text(p.Data)
	}
	for i, k := range p.Kids {
		if i > 0 {
			text(k.Sep)
		}
		four(k.Page)
	}
	for _, e := range p.Ents {
		text(e.Key)
		if e.Over == 0 {
			b = append(b, 0)
			text(e.Val)
		} else {
			b = append(b, 1)
			four(e.Over)
			four(e.Size)
		}
	}
	return framed(uint32(p.Tx), byte(p.Kind), byte(len(p.Kids)+len(p.Ents)), b)
}

func modelOld(p impl.Page) []byte {
	if p.Tx != 0 || !modelPage(p, 1, impl.CapMax-2) {
		return nil
	}
	var b []byte
	two := func(n int64) { b = binary.BigEndian.AppendUint16(b, uint16(n)) }
	four := func(n int64) { b = binary.BigEndian.AppendUint32(b, uint32(n)) }
	text := func(s string) { b = append(append(b, byte(len(s))), s...) }
	switch p.Kind {
	case impl.PMeta:
		two(p.Meta.Root)
		four(p.Meta.Count)
		four(p.Meta.Id)
	case impl.POver:
		two(p.Next)
		text(p.Data)
	}
	for i, k := range p.Kids {
		if i > 0 {
			text(k.Sep)
		}
		two(k.Page)
	}
	for _, e := range p.Ents {
		text(e.Key)
		b = append(b, make([]byte, 8-len(e.Key))...)
		if e.Over == 0 {
			b = append(b, 0)
			text(e.Val)
		} else {
			b = append(b, 1)
			two(e.Over)
			two(e.Size)
		}
	}
	return framedOld(byte(p.Kind), byte(len(p.Kids)+len(p.Ents)), b)
}

// modelPage looks at all of a page but its stamp.
func modelPage(p impl.Page, first, last int64) bool {
	number := func(n int64) bool { return first <= n && n <= last }
	key := func(s string) bool { return 1 <= len(s) && len(s) <= 8 }
	noMeta, noKids, noEnts, noOver := p.Meta == impl.Meta{}, len(p.Kids) == 0, len(p.Ents) == 0, p.Next == 0 && p.Data == ""
	switch p.Kind {
	case impl.PMeta:
		m := p.Meta
		return noKids && noEnts && noOver && 1 <= m.Id && m.Id <= 2000000000 && number(m.Root) && 0 <= m.Count && m.Count <= 2000000000
	case impl.PBranch:
		ok := noMeta && noEnts && noOver && 2 <= len(p.Kids) && len(p.Kids) <= 4
		for i, k := range p.Kids {
			ok = ok && number(k.Page) && (i > 0 || k.Sep == "") && (i == 0 || key(k.Sep)) && (i < 2 || p.Kids[i-1].Sep < k.Sep)
		}
		return ok
	case impl.PLeaf:
		ok := noMeta && noKids && noOver && len(p.Ents) <= 4
		for i, e := range p.Ents {
			inline := e.Over == 0 && e.Size == int64(len(e.Val)) && len(e.Val) <= 8
			away := number(e.Over) && e.Val == "" && 9 <= e.Size && e.Size <= 400
			ok = ok && key(e.Key) && (inline || away) && (i == 0 || p.Ents[i-1].Key < e.Key)
		}
		return ok
	case impl.POver:
		return noMeta && noKids && noEnts && 1 <= len(p.Data) && len(p.Data) <= 96 && (p.Next == 0 || number(p.Next) && len(p.Data) == 96)
	}
	return false
}

func samePage(a, b impl.Page) bool {
	return a.Kind == b.Kind && a.Tx == b.Tx && a.Meta == b.Meta && slices.Equal(a.Kids, b.Kids) && slices.Equal(a.Ents, b.Ents) && a.Next == b.Next && a.Data == b.Data
}

func zeroPage(p impl.Page) bool { return samePage(p, impl.Page{}) }

// codec is one of the two formats.
type codec struct {
	what   string
	tx     int64 // a stamp that its pages may have
	encode func(impl.Page) []byte
	decode func([]byte) impl.PageRes
	model  func(impl.Page) []byte
	resum  func([]byte) []byte
}

var (
	newCodec = codec{"new", 0x01020304, impl.EncodePage, impl.DecodePage, modelNew, summed}
	oldCodec = codec{"old", 0, impl.EncodeOld, impl.DecodeOld, modelOld, summedOld}
)

// wantBack asks that a page has the model's code, and that the code gives the page back.
func wantBack(t *testing.T, f codec, what string, p impl.Page) {
	t.Helper()
	want := f.model(p)
	if len(want) != impl.PageBytes {
		t.Fatalf("%s, %s: the test's page is wrong", f.what, what)
	}
	if got := f.encode(p); !bytes.Equal(got, want) {
		t.Errorf("%s, %s:\n got % x\nwant % x", f.what, what, got, want)
	}
	if got := f.decode(want); !got.Ok || !samePage(got.Page, p) {
		t.Errorf("%s, %s: decoded to %+v, want %+v", f.what, what, got, p)
	}
}

func wantNoCode(t *testing.T, f codec, what string, p impl.Page) {
	t.Helper()
	if got := f.encode(p); len(got) != 0 {
		t.Errorf("%s, %s: has the code % x", f.what, what, got)
	}
}

func wantNoPage(t *testing.T, f codec, what string, b []byte) {
	t.Helper()
	if got := f.decode(b); got.Ok || !zeroPage(got.Page) {
		t.Errorf("%s, %s: decoded to %+v", f.what, what, got)
	}
}

var (
	ninetySix = strings.Repeat("v", impl.OverBytes)
	longKey   = "abcdefgh"
)

// edgePages have a code in both formats, with the stamp of each.
func edgePages() []namedPage {
	return []namedPage{
		{"meta, lowest", metaPage(1, 2, 0)},
		{"meta, highest", metaPage(impl.NumMax, 998, impl.NumMax)},
		{"meta, Id 1 alone", metaPage(1, 500, impl.NumMax)},
		{"meta, Count 0 alone", metaPage(impl.NumMax, 500, 0)},
		{"meta, all bytes differ", metaPage(0x01020304, 0x0201, 0x05060708)},
		{"2 kids", branchPage(impl.Kid{Page: 2}, impl.Kid{Sep: "m", Page: 998})},
		{"3 kids", branchPage(impl.Kid{Page: 300}, impl.Kid{Sep: "a", Page: 301}, impl.Kid{Sep: "b", Page: 2})},
		{"4 kids", branchPage(impl.Kid{Page: 998}, impl.Kid{Sep: "a", Page: 2}, impl.Kid{Sep: "aa", Page: 256}, impl.Kid{Sep: "b", Page: 255})},
		{"kids on one page", branchPage(impl.Kid{Page: 7}, impl.Kid{Sep: "a", Page: 7})},
		{"Seps of KeyMax bytes", branchPage(impl.Kid{Page: 2}, impl.Kid{Sep: longKey, Page: 3}, impl.Kid{Sep: "abcdefgi", Page: 4}, impl.Kid{Sep: "b2345678", Page: 5})},
		{"Seps of zeros", branchPage(impl.Kid{Page: 2}, impl.Kid{Sep: "\x00", Page: 3}, impl.Kid{Sep: "\x00\x00", Page: 4}, impl.Kid{Sep: "\xff", Page: 5})},
		{"0 entries", leafPage()},
		{"1 entry", leafPage(short("a", "x"))},
		{"4 entries", leafPage(short("a", "1"), short("b", "22"), short("c", "333"), short("d", "4444"))},
		{"an empty value", leafPage(short("a", ""))},
		{"values of InlineMax bytes", leafPage(short("a", "12345678"), short("b", "87654321"))},
		{"keys of KeyMax bytes", leafPage(short(longKey, "12345678"), short("abcdefgi", ""), short("b2345678", "x"), short("c2345678", "y"))},
		{"keys of all lengths", leafPage(short("a", ""), short("ab", ""), short("abc", ""), short("abcdefg", ""))},
		{"keys of zeros", leafPage(short("\x00", "\x00"), short("\x00\x00", "\x00\x00"), short("\x00\x00\x00\x00\x00\x00\x00\x00", ""), short("\xff", "\xff"))},
		{"Size InlineMax + 1", leafPage(long("a", 2, impl.InlineMax+1))},
		{"Size ValMax", leafPage(long("a", 998, impl.ValMax))},
		{"all bytes of Over and Size", leafPage(long("a", 0x0201, 0x0103))},
		{"long and short values", leafPage(short("a", "x"), long("b", 300, 256), short("c", ""), long("d", 301, 255))},
		{"4 long values with long keys", leafPage(long(longKey, 300, 9), long("b2345678", 301, 10), long("c2345678", 302, 11), long("d2345678", 303, 400))},
		{"a byte of overflow", overPage(0, "z")},
		{"a zero byte of overflow", overPage(0, "\x00")},
		{"OverBytes - 1 bytes", overPage(0, ninetySix[1:])},
		{"OverBytes bytes at the end", overPage(0, ninetySix)},
		{"OverBytes bytes, and more", overPage(2, ninetySix)},
		{"overflow with the highest Next", overPage(998, ninetySix)},
		{"overflow of zeros", overPage(0x0201, strings.Repeat("\x00", 96))},
	}
}

// wrongPages have no code in either format, whatever their stamp.
func wrongPages() []namedPage {
	meta, branch, leaf, over := metaPage(1, 2, 0), branchPage(impl.Kid{Page: 2}, impl.Kid{Sep: "m", Page: 3}), leafPage(short("a", "x")), overPage(0, "z")
	with := func(p impl.Page, change func(p *impl.Page)) impl.Page {
		change(&p)
		return p
	}
	kids := func(p *impl.Page) { p.Kids = []impl.Kid{{Page: 2}, {Sep: "m", Page: 3}} }
	zeroKid := func(p *impl.Page) { p.Kids = []impl.Kid{{}} }
	ents := func(p *impl.Page) { p.Ents = []impl.Ent{short("a", "x")} }
	zeroEnt := func(p *impl.Page) { p.Ents = []impl.Ent{{}} }
	next := func(p *impl.Page) { p.Next = 5 }
	data := func(p *impl.Page) { p.Data = "z" }
	id := func(p *impl.Page) { p.Meta.Id = 1 }
	root := func(p *impl.Page) { p.Meta.Root = 2 }
	count := func(p *impl.Page) { p.Meta.Count = 1 }
	out := []namedPage{{"the zero page", impl.Page{}}}
	for _, kind := range []int64{-1, 0, 5, 255, 256, 257, 258, 259, 260, 1 << 32, 1<<32 + 3} {
		for _, p := range []impl.Page{meta, branch, leaf, over, {}} {
			p.Kind = kind
			out = append(out, namedPage{"an unknown Kind", p})
		}
	}
	return append(out, []namedPage{
		{"meta with kids", with(meta, kids)}, {"meta with a zero kid", with(meta, zeroKid)}, {"meta with entries", with(meta, ents)}, {"meta with a zero entry", with(meta, zeroEnt)}, {"meta with Next", with(meta, next)}, {"meta with Data", with(meta, data)},
		{"branch with an Id", with(branch, id)}, {"branch with a Root", with(branch, root)}, {"branch with a Count", with(branch, count)}, {"branch with entries", with(branch, ents)}, {"branch with a zero entry", with(branch, zeroEnt)}, {"branch with Next", with(branch, next)}, {"branch with Data", with(branch, data)},
		{"leaf with an Id", with(leaf, id)}, {"leaf with a Root", with(leaf, root)}, {"leaf with a Count", with(leaf, count)}, {"leaf with kids", with(leaf, kids)}, {"leaf with a zero kid", with(leaf, zeroKid)}, {"leaf with Next", with(leaf, next)}, {"leaf with Data", with(leaf, data)},
		{"overflow with an Id", with(over, id)}, {"overflow with a Root", with(over, root)}, {"overflow with a Count", with(over, count)}, {"overflow with kids", with(over, kids)}, {"overflow with a zero kid", with(over, zeroKid)}, {"overflow with entries", with(over, ents)}, {"overflow with a zero entry", with(over, zeroEnt)},
		{"Id 0", metaPage(0, 2, 0)}, {"Id -1", metaPage(-1, 2, 0)}, {"Id above NumMax", metaPage(impl.NumMax+1, 2, 0)}, {"Id of 33 bits", metaPage(1<<32+1, 2, 0)},
		{"Count -1", metaPage(1, 2, -1)}, {"Count above NumMax", metaPage(1, 2, impl.NumMax+1)}, {"Count of 33 bits", metaPage(1, 2, 1<<32)},
		{"no kids", branchPage()}, {"one kid", branchPage(impl.Kid{Page: 2})},
		{"5 kids", branchPage(impl.Kid{Page: 2}, impl.Kid{Sep: "a", Page: 3}, impl.Kid{Sep: "b", Page: 4}, impl.Kid{Sep: "c", Page: 5}, impl.Kid{Sep: "d", Page: 6})},
		{"a first Sep", branchPage(impl.Kid{Sep: "a", Page: 2}, impl.Kid{Sep: "b", Page: 3})},
		{"a second Sep that is empty", branchPage(impl.Kid{Page: 2}, impl.Kid{Page: 3})},
		{"a last Sep that is empty", branchPage(impl.Kid{Page: 2}, impl.Kid{Sep: "a", Page: 3}, impl.Kid{Page: 4})},
		{"Seps descend", branchPage(impl.Kid{Page: 2}, impl.Kid{Sep: "b", Page: 3}, impl.Kid{Sep: "a", Page: 4})},
		{"Seps descend at the end", branchPage(impl.Kid{Page: 2}, impl.Kid{Sep: "b", Page: 3}, impl.Kid{Sep: "c", Page: 4}, impl.Kid{Sep: "bb", Page: 4})},
		{"a Sep twice", branchPage(impl.Kid{Page: 2}, impl.Kid{Sep: "b", Page: 3}, impl.Kid{Sep: "b", Page: 4})},
		{"a Sep behind a longer one", branchPage(impl.Kid{Page: 2}, impl.Kid{Sep: "ba", Page: 3}, impl.Kid{Sep: "b", Page: 4})},
		{"a Sep of 9 bytes", branchPage(impl.Kid{Page: 2}, impl.Kid{Sep: "123456789", Page: 3})},
		{"a Sep of 300 bytes", branchPage(impl.Kid{Page: 2}, impl.Kid{Sep: strings.Repeat("s", 300), Page: 3})},
		{"5 entries", leafPage(short("a", ""), short("b", ""), short("c", ""), short("d", ""), short("e", ""))},
		{"an empty key", leafPage(short("", "x"))}, {"the zero entry", leafPage(impl.Ent{})}, {"a key of 9 bytes", leafPage(short("123456789", ""))}, {"a key of 300 bytes", leafPage(short(strings.Repeat("k", 300), ""))},
		{"keys descend", leafPage(short("b", ""), short("a", ""))}, {"a key twice", leafPage(short("a", ""), short("a", ""))}, {"a key behind a longer one", leafPage(short("ab", ""), short("a", ""))},
		{"keys descend at the end", leafPage(short("b", ""), short("c", ""), short("d", ""), short("cc", ""))}, {"bytes compared as signed", leafPage(short("\xff", ""), short("\x01", ""))},
		{"a value of InlineMax + 1 bytes", leafPage(short("a", "123456789"))}, {"a value of 400 bytes", leafPage(short("a", strings.Repeat("v", 400)))},
		{"Size above the value", leafPage(impl.Ent{Key: "a", Val: "x", Size: 2})}, {"Size below the value", leafPage(impl.Ent{Key: "a", Val: "xy", Size: 1})}, {"Size -1", leafPage(impl.Ent{Key: "a", Size: -1})}, {"Size without Over", leafPage(long("a", 0, 9))}, {"a value without Size", leafPage(impl.Ent{Key: "a", Val: "x"})},
		{"Over and Val", leafPage(impl.Ent{Key: "a", Val: "x", Over: 5, Size: 9})}, {"Over and a long Val", leafPage(impl.Ent{Key: "a", Val: "123456789", Over: 5, Size: 9})}, {"Over and a short value's Size", leafPage(impl.Ent{Key: "a", Val: "x", Over: 5, Size: 1})},
		{"Over with Size 0", leafPage(long("a", 5, 0))}, {"Over with Size InlineMax", leafPage(long("a", 5, 8))}, {"Over with Size above ValMax", leafPage(long("a", 5, 401))}, {"Over with Size -1", leafPage(long("a", 5, -1))}, {"Over with Size of 17 bits", leafPage(long("a", 5, 65536+9))}, {"Over with Size of 33 bits", leafPage(long("a", 5, 1<<32+9))},
		{"a wrong entry behind a right one", leafPage(short("a", "x"), impl.Ent{Key: "b", Val: "x"})},
		{"no Data", overPage(0, "")}, {"no Data, and more", overPage(5, "")}, {"Data too long", overPage(0, ninetySix+"v")}, {"Data too long, and more", overPage(5, ninetySix+"v")}, {"Data of 256 bytes", overPage(0, strings.Repeat("v", 256))}, {"Data of 257 bytes", overPage(0, strings.Repeat("v", 257))},
		{"Data too short, and more", overPage(5, ninetySix[1:])}, {"a byte of Data, and more", overPage(5, "z")},
	}...)
}
