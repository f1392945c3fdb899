package tests

import (
	"bytes"
	"encoding/binary"
	"hash/crc32"
	"maps"
	"slices"
	"strings"
	"testing"

	"loop.example/s02098/impl"
)

// textOf is a stream by hand: the number of pages is told as it is, the last sum is right.
func textOf(id, tx, base, root, count int64, frames ...[]byte) []byte {
	out := fours([]byte("BK"), id, tx, base, root, count)
	for _, f := range frames {
		out = append(out, f...)
	}
	return append(out, endChunk(crc32.ChecksumIEEE(out))...)
}

// frameOf is a page's frame, right but for what the number and the page are.
func frameOf(num int64, p impl.Page) []byte { return pageChunk(num, modelNew(p)) }

// text is a stream of Id 7 with all pages of the sheaf, each with the stamp that it has there.
func (s sheaf) text(tx, base, root int64) []byte {
	c := s.codes()
	var frames [][]byte
	for _, num := range slices.Sorted(maps.Keys(s)) {
		frames = append(frames, pageChunk(num, c[num]))
	}
	return textOf(7, tx, base, root, int64(len(frames)), frames...)
}

// stampedAll is the sheaf with one stamp on all pages.
func (s sheaf) stampedAll(tx int64) sheaf {
	out := sheaf{}
	for num, p := range s {
		out[num] = stamped(p, tx)
	}
	return out
}

// resealed is a text that was changed somewhere, with the sum at its end that it must have.
func resealed(b []byte) []byte {
	body := b[:len(b)-5]
	return append(bytes.Clone(body), endChunk(crc32.ChecksumIEEE(body))...)
}

func blobs(texts ...[]byte) []impl.Blob {
	var out []impl.Blob
	for _, b := range texts {
		out = append(out, impl.Blob{Data: b})
	}
	return out
}

// sameStream takes an empty list and nil for the same.
func sameStream(a, b impl.Stream) bool {
	return a.Id == b.Id && a.Tx == b.Tx && a.Base == b.Base && a.Root == b.Root &&
		slices.EqualFunc(a.Pages, b.Pages, func(x, y impl.NumPage) bool { return x.Num == y.Num && bytes.Equal(x.Data, y.Data) })
}

func wantParsed(t *testing.T, what string, b []byte, want impl.StreamRes) {
	t.Helper()
	if got := impl.ParseStream(b); got.Err != want.Err || !sameStream(got.Stream, want.Stream) {
		t.Errorf("%s: Err %d, %d pages, want Err %d, %d pages", what, got.Err, len(got.Stream.Pages), want.Err, len(want.Stream.Pages))
	}
}

// wantParseErr asks for nothing beside the Err.
func wantParseErr(t *testing.T, what string, b []byte, err int64) {
	t.Helper()
	wantParsed(t, what, b, impl.StreamRes{Err: err})
}

func wantRestoreRes(t *testing.T, what string, got, want impl.RestoreRes) {
	t.Helper()
	if got.Err != want.Err || got.At != want.At {
		t.Errorf("%s: Err %d at %d, want %d at %d", what, got.Err, got.At, want.Err, want.At)
	}
	wantDisk(t, what, got.Disk, want.Disk)
}

// backedUp is the stream of a pin, told at once.
func backedUp(t *testing.T, s impl.Store, pin, base int64) []byte {
	t.Helper()
	return streamOf(answersOf(t, s, started(t, s, pin, base)))
}

// chainOf is a full backup of the first pin and one of each next on its predecessor's Tx.
func chainOf(t *testing.T, s impl.Store, pins []impl.Pin) []impl.Blob {
	t.Helper()
	var out []impl.Blob
	base := int64(0)
	for _, p := range pins {
		out = append(out, blobs(backedUp(t, s, p.Id, base))...)
		base = p.Tx
	}
	return out
}

// letterChain is a chain of three texts, of "abcde", "abcdefg" and "cdefgh".
func letterChain(t *testing.T) []impl.Blob {
	t.Helper()
	s := run(t, created(t, 90), "b +a +b +c +d +e c p b +f *g c p b -a -b +h c p")
	return chainOf(t, s, s.Pins)
}

// The model: the words of the document once more.

func modelParse(b []byte) impl.StreamRes {
	switch {
	case len(b) > impl.StreamMax:
		return impl.StreamRes{Err: impl.RsLong}
	case len(b) < 2 && strings.HasPrefix("BK", string(b)):
		return impl.StreamRes{Err: impl.RsShort}
	case !bytes.HasPrefix(b, []byte("BK")):
		return impl.StreamRes{Err: impl.RsHead}
	case len(b) < 22:
		return impl.StreamRes{Err: impl.RsShort}
	}
	num := func(at int) int64 { return int64(binary.LittleEndian.Uint32(b[at:])) }
	s := impl.Stream{Id: num(2), Tx: num(6), Base: num(10), Root: num(14)}
	if s.Id < 1 || s.Id > impl.NumMax || s.Tx < 1 || s.Tx > impl.NumMax || s.Base > s.Tx-1 || s.Root < 2 || s.Root > 999 || num(18) > impl.CapMax {
		return impl.StreamRes{Err: impl.RsHead}
	}
	at := 22
	for range num(18) {
		p, err := modelFrame(b[at:], s)
		if err != impl.RsOk {
			return impl.StreamRes{Err: err}
		}
		s.Pages = append(s.Pages, p)
		at += 137
	}
	switch {
	case len(b) > at && b[at] != 'E':
		return impl.StreamRes{Err: impl.RsFrame}
	case len(b) < at+5:
		return impl.StreamRes{Err: impl.RsShort}
	case num(at+1) != int64(crc32.ChecksumIEEE(b[:at])):
		return impl.StreamRes{Err: impl.RsSum}
	case len(b) > at+5:
		return impl.StreamRes{Err: impl.RsTail}
	}
	return impl.StreamRes{Stream: s}
}

// modelFrame reads the next frame; s has all pages before it.
func modelFrame(b []byte, s impl.Stream) (impl.NumPage, int64) {
	if len(b) > 0 && b[0] != 'P' {
		return impl.NumPage{}, impl.RsFrame
	}
	if len(b) < 137 {
		return impl.NumPage{}, impl.RsShort
	}
	p := impl.NumPage{Num: int64(binary.LittleEndian.Uint32(b[1:])), Data: b[5:133]}
	code := impl.DecodePage(p.Data).Page
	right := p.Num >= 2 && p.Num <= 999 && binary.LittleEndian.Uint32(b[133:]) == crc32.ChecksumIEEE(b[1:133])
	right = right && slices.Contains([]int64{impl.PBranch, impl.PLeaf, impl.POver}, code.Kind) && code.Tx >= s.Base+1 && code.Tx <= s.Tx
	if n := len(s.Pages); !right || n > 0 && p.Num <= s.Pages[n-1].Num {
		return impl.NumPage{}, impl.RsFrame
	}
	return p, impl.RsOk
}

// modelMayPut is false where the answer is RsDisk.
func modelMayPut(d impl.Disk, names ...string) bool {
	for _, name := range names {
		if !modelName(name) || name == "tmp" {
			return false
		}
	}
	_, ok := modelSeen(d)
	return ok && !d.Dead && len(d.Cache) == 0
}

func modelRestore(d impl.Disk, name string, chain []impl.Blob) impl.RestoreRes {
	if !modelMayPut(d, name) {
		return impl.RestoreRes{Err: impl.RsDisk, Disk: d}
	}
	if len(chain) == 0 || len(chain) > impl.ChainMax {
		return impl.RestoreRes{Err: impl.RsChain, Disk: d}
	}
	pages := codes{}
	var last impl.Stream
	for i, text := range chain {
		r := modelParse(text.Data)
		if s := r.Stream; r.Err == impl.RsOk && (i == 0 && s.Base != 0 || i > 0 && (s.Base != last.Tx || s.Id != last.Id)) {
			r.Err = impl.RsChain
		}
		if r.Err != impl.RsOk {
			return impl.RestoreRes{Err: r.Err, At: int64(i), Disk: d}
		}
		for _, p := range r.Stream.Pages {
			pages[p.Num] = p.Data
		}
		last = r.Stream
	}
	if len(pages) == 0 {
		return impl.RestoreRes{Err: impl.RsTree, Disk: d}
	}
	load := modelLoad(pages.disk(), "f", last.Root)
	if !load.Ok {
		return impl.RestoreRes{Err: impl.RsTree, Disk: d}
	}
	return modelPutFile(d, name, pages, last.Tx, impl.Meta{Id: last.Id, Root: last.Root, Count: int64(len(modelPairs(load.Tree)))})
}

func modelCompact(d impl.Disk, from, to string) impl.RestoreRes {
	if !modelMayPut(d, from, to) {
		return impl.RestoreRes{Err: impl.RsDisk, Disk: d}
	}
	now := modelOpen(d, from)
	if now.Code != impl.StOk {
		return impl.RestoreRes{Err: impl.RsTree, Disk: d}
	}
	pairs := modelPairs(now.Store.Tree)
	placed := modelPlace(modelBulk(pairs), now.Store.Tx, nil)
	pages := codes{}
	for i, num := range placed.Nums {
		pages[num] = modelNew(placed.Pages[i])
	}
	return modelPutFile(d, to, pages, now.Store.Tx, impl.Meta{Id: now.Store.Meta.Id, Root: placed.Tree.Nodes[0].Page, Count: int64(len(pairs))})
}

// putData is all bytes of a file that is put.
func putData(pages codes, tx int64, meta impl.Meta) []byte {
	return pages.with(tx%2, modelNew(stamped(metaPage(meta.Id, meta.Root, meta.Count), tx))).data()
}

func modelPutFile(d impl.Disk, name string, pages codes, tx int64, meta impl.Meta) impl.RestoreRes {
	var steps []func(impl.Disk) impl.DiskRes
	if modelFind(d.Files, "tmp") >= 0 {
		steps = append(steps, func(d impl.Disk) impl.DiskRes { return modelMove(d, "tmp", "", false) })
	}
	for i, b := range slices.Collect(slices.Chunk(putData(pages, tx, meta), impl.PageBytes)) {
		steps = append(steps, func(d impl.Disk) impl.DiskRes { return modelWrite(d, "tmp", int64(i), b) })
	}
	steps = append(steps, modelSync, func(d impl.Disk) impl.DiskRes { return modelMove(d, "tmp", name, true) })
	err, d := modelRun(d, steps)
	switch err {
	case impl.DiskFull:
		return impl.RestoreRes{Err: impl.RsFull, Disk: d}
	case impl.DiskLost:
		return impl.RestoreRes{Err: impl.RsLost, Disk: d}
	}
	return impl.RestoreRes{Disk: d}
}
