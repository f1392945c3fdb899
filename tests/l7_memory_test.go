package tests

import (
	"bytes"
	"fmt"
	"testing"

	"loop.example/s02098/impl"
)

func TestParseMemory(t *testing.T) {
	r := newDice(1800)
	for what, chain := range manyChains(t) {
		for i, text := range chain {
			callCleanly(t, fmt.Sprint(what, " text ", i), impl.ParseStream, text.Data)
		}
	}
	for i, text := range letterChain(t) {
		for round := range 60 {
			callCleanly(t, fmt.Sprint("text ", i, " spoilt ", round), impl.ParseStream, r.spoiltText(text.Data))
		}
	}
	callCleanly(t, "a stream without pages", impl.ParseStream, textOf(7, 1, 0, 2, 0))
}

// putDisks are disks of every sort for something to be put on, or not.
func putDisks() []namedDisk {
	out := append(validDisks(), invalidDisks()...)
	out = append(out, unfitDisks()...)
	for fuel := int64(-1); fuel <= 14; fuel++ {
		for _, room := range []int64{4, 5, 9, 90} {
			for _, d := range []impl.Disk{xDisk(), withFile(xDisk(), fileOf("tmp", 7, 8))} {
				d.Cap, d.Fuel = room, fuel
				out = append(out, namedDisk{fmt.Sprint("room for ", room, ", fuel ", fuel, ", ", len(d.Files), " files"), d})
			}
		}
	}
	return out
}

func TestRestoreMemory(t *testing.T) {
	chains := manyChains(t)
	for _, row := range putDisks() {
		for what, chain := range chains {
			if len(chain) > 0 && len(chain[0].Data) > impl.StreamMax {
				continue
			}
			callCleanly(t, what+" at "+row.what, impl.Restore, row.disk, "x", chain)
		}
		callCleanly(t, "tmp at "+row.what, impl.Restore, row.disk, "tmp", chains["a right chain"])
	}
	callCleanly(t, "too long", impl.Restore, xDisk(), "x", chains["too long"])
}

func TestCompactMemory(t *testing.T) {
	for what, s := range memoryStores(t) {
		for _, d := range []impl.Disk{s.Disk, impl.SyncDisk(s.Disk).Disk, impl.CrashDisk(s.Disk, impl.Crash{Tear: -1})} {
			for _, to := range []string{"f", "g", "h", "tmp", ""} {
				callCleanly(t, what+" to "+to, impl.Compact, d, "f", to)
			}
			callCleanly(t, what+" from nothing", impl.Compact, d, "no", "g")
		}
	}
	store := run(t, created(t, 60), "b +a *b +c +d +e c").Disk
	for fuel := int64(-1); fuel <= 12; fuel++ {
		for room := impl.PageCount(store, "f"); room <= 20; room += 3 {
			d := withFile(store, fileOf("tmp", 1))
			d.Cap, d.Fuel = room+1, fuel
			callCleanly(t, fmt.Sprint("room for ", room, ", fuel ", fuel), impl.Compact, d, "f", "g")
			callCleanly(t, fmt.Sprint("room for ", room, ", fuel ", fuel, ", onto itself"), impl.Compact, d, "f", "f")
		}
	}
	for _, row := range putDisks() {
		callCleanly(t, row.what, impl.Compact, row.disk, "a", "x")
	}
}

// What is done to one answer is not seen in the next, nor in what it came from: nothing is kept between calls.
func TestAnswersOfRestoringAreApart(t *testing.T) {
	chain := letterChain(t)
	kept := chainCopy(chain)
	want := modelParse(kept[0].Data)
	first := impl.ParseStream(chain[0].Data)
	for _, p := range first.Stream.Pages {
		clear(p.Data)
	}
	clear(first.Stream.Pages)
	wantParsed(t, "a stream behind one that was written over", chain[0].Data, want)
	second := impl.ParseStream(chain[0].Data)

	d := withFile(xDisk(), fileOf("tmp", 1))
	before := withFile(xDisk(), fileOf("tmp", 1))
	wreck(impl.Store{Disk: impl.Restore(d, "x", chain).Disk})
	wantDisk(t, "the disk before", d, before)
	restored := impl.Restore(d, "x", chain)
	wantRestoreRes(t, "a file behind one that was written over", restored, modelRestore(before, "x", kept))
	small := impl.Compact(restored.Disk, "x", "y")
	wreck(impl.Store{Disk: impl.Compact(restored.Disk, "x", "y").Disk})
	wantRestoreRes(t, "the source of a compact copy", restored, modelRestore(before, "x", kept))

	wantSmall := modelCompact(modelRestore(before, "x", kept).Disk, "x", "y")
	wreck(impl.Store{Disk: restored.Disk})
	wantRestoreRes(t, "a compact copy when its source is gone", small, wantSmall)
	restored = impl.Restore(d, "x", chain)
	refused := impl.Restore(d, "tmp", chain)
	for _, text := range chain {
		clear(text.Data)
	}
	clear(chain)
	wreck(impl.Store{Disk: d})
	wantRestoreRes(t, "a file when disk and chain are gone", restored, modelRestore(before, "x", kept))
	wantRestoreRes(t, "a refusal when disk and chain are gone", refused, impl.RestoreRes{Err: impl.RsDisk, Disk: before})
	if !sameStream(second.Stream, want.Stream) {
		t.Errorf("a stream when its text is gone: %d pages", len(second.Stream.Pages))
	}
}

func chainCopy(chain []impl.Blob) []impl.Blob {
	var out []impl.Blob
	for _, text := range chain {
		out = append(out, blobs(bytes.Clone(text.Data))...)
	}
	return out
}
