package tests

import (
	"testing"

	"loop.example/s02098/impl"
)

func TestPageMemory(t *testing.T) {
	rows := append(edgePages(), wrongPages()...)
	r := newDice(26)
	for range 300 {
		p := r.treePage()
		rows = append(rows, namedPage{"random", p}, namedPage{"spoilt", r.spoiltPage(p)})
	}
	for _, row := range rows {
		for _, tx := range []int64{0, 5} {
			p := stamped(row.page, tx)
			callCleanly(t, "EncodePage at "+row.what, impl.EncodePage, p)
			callCleanly(t, "EncodeOld at "+row.what, impl.EncodeOld, p)
			for _, code := range [][]byte{impl.EncodePage(p), impl.EncodeOld(p), make([]byte, impl.PageBytes)} {
				callCleanly(t, "DecodePage at "+row.what, impl.DecodePage, code)
				callCleanly(t, "DecodeOld at "+row.what, impl.DecodeOld, code)
				callCleanly(t, "Crc at "+row.what, impl.Crc, uint32(5), code)
			}
		}
	}
}

// The bytes that were decoded may be used again: the page stays.
func TestDecodedPageStays(t *testing.T) {
	for _, row := range edgePages() {
		for _, f := range []codec{newCodec, oldCodec} {
			p := stamped(row.page, f.tx)
			code := f.encode(p)
			got := f.decode(code)
			for i := range code {
				code[i] ^= 0xff
			}
			if !got.Ok || !samePage(got.Page, p) {
				t.Errorf("%s, %s: %+v", f.what, row.what, got)
			}
		}
	}
}
