package tests

import (
	"bytes"
	"slices"
	"sort"
	"testing"

	"loop.example/s02098/impl"
)

func (r dice) pick(n ...int64) int64 { return n[r.Intn(len(n))] }

func (r dice) text(from, to int) string {
	b := make([]byte, from+r.Intn(to-from+1))
	r.Read(b)
	if r.Intn(3) == 0 {
		clear(b[len(b)/2:])
	}
	return string(b)
}

func (r dice) keys(n int) []string {
	var out []string
	for len(out) < n {
		k := r.text(1, impl.KeyMax)
		if !slices.Contains(out, k) {
			out = append(out, k)
		}
	}
	sort.Strings(out)
	return out
}

func (r dice) number() int64 {
	return r.pick(2, 3, 255, 256, 257, impl.CapMax-2, 2+r.Int63n(impl.CapMax-3))
}

func (r dice) big() int64 {
	return r.pick(1, 2, 255, 256, 65535, 1<<24, impl.NumMax, 1+r.Int63n(impl.NumMax))
}

func (r dice) ent(key string) impl.Ent {
	if r.Intn(2) == 0 {
		return short(key, r.text(0, impl.InlineMax))
	}
	return long(key, r.number(), impl.InlineMax+1+r.Int63n(impl.ValMax-impl.InlineMax))
}

// treePage is a page of some kind without a stamp, right in both formats.
func (r dice) treePage() impl.Page {
	switch r.Intn(4) {
	case 0:
		return metaPage(r.big(), r.number(), r.big()-1)
	case 1:
		kids := []impl.Kid{{Page: r.number()}}
		for _, k := range r.keys(1 + r.Intn(impl.FanMax-1)) {
			kids = append(kids, impl.Kid{Sep: k, Page: r.number()})
		}
		return branchPage(kids...)
	case 2:
		var ents []impl.Ent
		for _, k := range r.keys(r.Intn(impl.FanMax + 1)) {
			ents = append(ents, r.ent(k))
		}
		return leafPage(ents...)
	}
	if r.Intn(2) == 0 {
		return overPage(r.number(), r.text(impl.OverBytes, impl.OverBytes))
	}
	return overPage(0, r.text(1, impl.OverBytes))
}

// spoiltPage changes something somewhere; it may still be right.
func (r dice) spoiltPage(p impl.Page) impl.Page {
	p.Kids, p.Ents = slices.Clone(p.Kids), slices.Clone(p.Ents)
	number := r.pick(-1, 0, 1, 2, 8, 9, 400, 401, 998, 999, 1000, 65536+7, 1<<32+7, impl.NumMax, impl.NumMax+1, -1<<63)
	text := string(bytes.Repeat([]byte{'k'}, int(r.pick(0, 1, 8, 9, 96, 97, 256, 257))))
	switch r.Intn(8) {
	case 0:
		p.Kind = r.pick(-1, 0, 1, 2, 3, 4, 5, 256+2, 1<<32+3)
	case 1:
		*[]*int64{&p.Meta.Id, &p.Meta.Root, &p.Meta.Count}[r.Intn(3)] = number
	case 2:
		p.Next = number
	case 3:
		p.Data = text
	case 4:
		p.Kids = append(p.Kids, impl.Kid{Sep: text, Page: number})
	case 5:
		p.Ents = append(p.Ents, impl.Ent{Key: text, Size: number})
	case 6:
		if len(p.Kids) > 0 {
			k := &p.Kids[r.Intn(len(p.Kids))]
			switch r.Intn(2) {
			case 0:
				k.Sep = text
			case 1:
				k.Page = number
			}
		}
	case 7:
		if len(p.Ents) > 0 {
			e := &p.Ents[r.Intn(len(p.Ents))]
			switch r.Intn(4) {
			case 0:
				e.Key = text
			case 1:
				e.Val = text
			case 2:
				e.Over = number
			case 3:
				e.Size = number
			}
		}
	}
	return p
}

func TestPagesAgainstTheModel(t *testing.T) {
	r := newDice(22)
	kept := 0
	for range 6000 {
		p := r.treePage()
		wantBack(t, newCodec, "random", stamped(p, r.big()))
		wantBack(t, oldCodec, "random", p)
		q := r.spoiltPage(p)
		for _, tx := range []int64{0, r.big(), impl.NumMax + 1} {
			s := stamped(q, tx)
			for _, f := range []codec{newCodec, oldCodec} {
				want := f.model(s)
				if got := f.encode(s); !bytes.Equal(got, want) {
					t.Fatalf("%s, %+v:\n got % x\nwant % x", f.what, s, got, want)
				}
				if len(want) > 0 {
					kept++
					wantBack(t, f, "spoilt, but right", s)
				}
			}
		}
		if t.Failed() {
			return
		}
	}
	if kept < 100 {
		t.Errorf("only %d changed pages were still right", kept)
	}
}

// Whatever is read is a code, and gives back just the bytes that were read.
func TestCodesThatAreRead(t *testing.T) {
	r := newDice(23)
	for _, f := range []codec{newCodec, oldCodec} {
		read := 0
		for range 30000 {
			p := r.treePage()
			if f.what == "new" {
				p.Tx = r.big()
			}
			b := f.encode(p)
			for range 1 + r.Intn(2) {
				b[r.Intn(40)] = byte(r.pick(0, 1, 2, 3, 4, 8, 9, 255, r.Int63n(256)))
			}
			b = f.resum(b)
			got := f.decode(b)
			if !got.Ok {
				if !zeroPage(got.Page) {
					t.Fatalf("%s: a page beside false: %+v", f.what, got)
				}
				continue
			}
			read++
			if !bytes.Equal(f.encode(got.Page), b) || !bytes.Equal(f.model(got.Page), b) {
				t.Fatalf("%s: % x is read as %+v", f.what, b, got.Page)
			}
		}
		if read < 3000 {
			t.Errorf("%s: only %d codes were read", f.what, read)
		}
	}
}

// Bytes of any kind, with right sums: an answer to all of them.
func TestNoiseIsAnswered(t *testing.T) {
	r := newDice(24)
	for range 30000 {
		b := make([]byte, impl.PageBytes)
		r.Read(b)
		b[1], b[4] = byte(r.Intn(6)), byte(r.Intn(6))
		b[2], b[5] = byte(r.pick(0, 1, 2, 4, 5, 255)), byte(r.pick(0, 1, 2, 4, 5, 255))
		for _, f := range []codec{newCodec, oldCodec} {
			b[6], b[7] = 0, 0
			if f.what == "old" {
				b[0], b[6], b[7] = 'O', byte(r.Intn(256)), byte(r.Intn(256))
			}
			if got := f.decode(f.resum(b)); got.Ok && !bytes.Equal(f.model(got.Page), f.resum(b)) {
				t.Fatalf("%s: % x is read as %+v", f.what, b, got.Page)
			}
		}
	}
}
