package tests

import (
	"bytes"
	"encoding/binary"
	"fmt"
	"hash/crc32"
	"slices"
	"strings"
	"testing"

	"loop.example/s02098/impl"
)

// old is the pages of a file in the old format, on the numbers that they have there.
func (s sheaf) old() codes {
	out := codes{}
	for num, p := range s {
		out[num] = modelOld(p)
		if len(out[num]) == 0 {
			panic("the test's old page is wrong")
		}
	}
	return out
}

// shifted is the page with all its page numbers so many more; a Next or an Over of 0 is no number.
func shifted(p impl.Page, by int64) impl.Page {
	switch p.Kind {
	case impl.PMeta:
		p.Meta.Root += by
	case impl.PBranch:
		p.Kids = slices.Clone(p.Kids)
		for i := range p.Kids {
			p.Kids[i].Page += by
		}
	case impl.PLeaf:
		p.Ents = slices.Clone(p.Ents)
		for i, e := range p.Ents {
			if e.Over > 0 {
				p.Ents[i].Over += by
			}
		}
	case impl.POver:
		if p.Next > 0 {
			p.Next += by
		}
	}
	return p
}

// backdated is a tree of the new format in the old one, with a meta of Id 7.
func (s sheaf) backdated(root, count int64) sheaf {
	out := sheaf{0: metaPage(7, root-1, count)}
	for num, p := range s {
		out[num-1] = shifted(stamped(p, 0), -1)
	}
	return out
}

// smallOld is "(ab:2 cd:1):3", longOld "(a^4b:2 c^6d:1):3" with the pages 5 and 7 behind the first ones, both in the numbers of the old file.
func smallOld() sheaf { return smallSheaf().backdated(4, 4) }

func longOld() sheaf { return longSheaf().backdated(4, 4) }

// fillers has a leaf of "ab" on page 1, and behind it pages that nobody asks for, up to so many in all. Each of them is another.
func fillers(count int64) sheaf {
	s := sheaf{0: metaPage(7, 1, 2), 1: lettersLeaf("ab")}
	for num := int64(2); num < count; num++ {
		s[num] = overPage(num-1, strings.Repeat(string(rune('a'+num%26)), impl.OverBytes))
	}
	return s
}

// written is a disk with an old file of these pairs, as WriteOld gives it, and room for whatever comes.
func written(t *testing.T, d impl.Disk, name string, id int64, pairs []impl.Pair) impl.Disk {
	t.Helper()
	d.Cap = impl.CapMax
	r := impl.WriteOld(d, name, id, pairs)
	if r.Err != impl.MgOk {
		t.Fatalf("%s is not written: Err %d", name, r.Err)
	}
	return r.Disk
}

func sameMap(a, b impl.MapRes) bool {
	return a.Version == b.Version && a.Id == b.Id && slices.Equal(a.Pairs, b.Pairs)
}

func wantMap(t *testing.T, what string, d impl.Disk, name string, want impl.MapRes) {
	t.Helper()
	if got := impl.ReadAny(d, name); !sameMap(got, want) {
		t.Errorf("%s: version %d, id %d, %q, want %d, %d, %q", what, got.Version, got.Id, got.Pairs, want.Version, want.Id, want.Pairs)
	}
}

// wantNoMap asks for the zero value.
func wantNoMap(t *testing.T, what string, d impl.Disk, name string) {
	t.Helper()
	wantMap(t, what, d, name, impl.MapRes{})
}

// wantBad asks for MgBad and a copy of the disk.
func wantBad(t *testing.T, what string, got impl.RestoreRes, d impl.Disk) {
	t.Helper()
	wantRestoreRes(t, what, got, impl.RestoreRes{Err: impl.MgBad, Disk: d})
}

// fileData is nothing where there is no such file.
func fileData(d impl.Disk, name string) []byte {
	if i := modelFind(d.Files, name); i >= 0 {
		return d.Files[i].Data
	}
	return nil
}

// without is the disk with none of these files.
func without(d impl.Disk, names ...string) impl.Disk {
	d.Files = slices.DeleteFunc(modelCopy(d.Files), func(f impl.File) bool { return slices.Contains(names, f.Name) })
	return d
}

// logPage is what stands on page 0 of log.
func logPage(name string, file []byte, k int64) []byte {
	b := binary.BigEndian.AppendUint16([]byte("MJ"), uint16(k))
	b = append(b, name...)
	b = append(b, make([]byte, 12-len(b))...)
	b = binary.LittleEndian.AppendUint32(b, crc32.ChecksumIEEE(file))
	b = append(b, make([]byte, 126-len(b))...)
	return binary.BigEndian.AppendUint16(b, uint16(k))
}

// The steps of a conversion in words: -new and -log remove a file, z and a page write zeros to new, n and a page what is turned, l and a k write the log, s syncs, r renames.

func convertStep(d impl.Disk, name string, file []byte, word string) impl.DiskRes {
	var num int64
	fmt.Sscan(word[1:], &num)
	switch word[0] {
	case '-':
		return impl.RemoveFile(d, word[1:])
	case 'z':
		return impl.WritePage(d, "new", num, pageOf(0))
	case 'n':
		return impl.WritePage(d, "new", num, modelTurned(file)[num*impl.PageBytes:(num+1)*impl.PageBytes])
	case 'l':
		return impl.WritePage(d, "log", 0, logPage(name, file, num))
	case 's':
		return impl.SyncDisk(d)
	case 'r':
		return impl.RenameFile(d, "new", name)
	}
	panic("no word for a step: " + word)
}

// wantConversion asks for just these steps: with every fuel, the disk is as it is behind so many of them.
func wantConversion(t *testing.T, what string, d impl.Disk, name string, words string) {
	t.Helper()
	file := fileData(d, name)
	list := strings.Fields(words)
	behind := d
	behind.Fuel = -1
	for fuel := 0; ; fuel++ {
		now := d
		now.Fuel = int64(fuel)
		want := impl.RestoreRes{Err: impl.MgLost, Disk: behind}
		want.Disk.Fuel, want.Disk.Dead = 0, true
		if fuel == len(list) {
			want.Err, want.Disk.Dead = impl.MgOk, false
		}
		wantRestoreRes(t, fmt.Sprint(what, ", fuel ", fuel, " of ", len(list)), impl.Migrate(now, name), want)
		if fuel == len(list) || t.Failed() {
			break
		}
		r := convertStep(behind, name, file, list[fuel])
		if r.Err != impl.DiskOk {
			t.Fatalf("%s: the test's step %s is wrong: %d", what, list[fuel], r.Err)
		}
		behind = r.Disk
	}
	for _, more := range []int64{1, 7} {
		now, want := d, behind
		now.Fuel, want.Fuel = int64(len(list))+more, more
		wantRestoreRes(t, what+", more fuel", impl.Migrate(now, name), impl.RestoreRes{Disk: want})
	}
	d.Fuel = -1
	wantRestoreRes(t, what+", fuel without end", impl.Migrate(d, name), impl.RestoreRes{Disk: behind})
}

// The model: the words of the document once more.

func modelWriteOld(d impl.Disk, name string, id int64, pairs []impl.Pair) impl.RestoreRes {
	placed := modelPlace(modelBulk(pairs), 1, nil)
	if _, ok := modelSeen(d); !ok || d.Dead || len(d.Cache) > 0 || !modelName(name) || modelFind(d.Files, name) >= 0 || id < 1 || id > impl.NumMax || zeroPlaced(placed) {
		return impl.RestoreRes{Err: impl.MgBad, Disk: d}
	}
	c := codes{0: modelOld(metaPage(id, placed.Tree.Nodes[0].Page-1, int64(len(pairs))))}
	for i, num := range placed.Nums {
		c[num-1] = modelOld(shifted(stamped(placed.Pages[i], 0), -1))
	}
	var steps []func(impl.Disk) impl.DiskRes
	for num := range int64(len(c)) {
		steps = append(steps, func(d impl.Disk) impl.DiskRes { return modelWrite(d, name, num, c[num]) })
	}
	return modelConverted(d, append(steps, modelSync))
}

func modelConverted(d impl.Disk, steps []func(impl.Disk) impl.DiskRes) impl.RestoreRes {
	err, d := modelRun(d, steps)
	switch err {
	case impl.DiskFull:
		return impl.RestoreRes{Err: impl.MgFull, Disk: d}
	case impl.DiskLost:
		return impl.RestoreRes{Err: impl.MgLost, Disk: d}
	}
	return impl.RestoreRes{Disk: d}
}

// modelTurned is one page longer than the old file.
func modelTurned(file []byte) []byte {
	out := pageOf(0)
	for old := range slices.Chunk(file, impl.PageBytes) {
		b := pageOf(0)
		if p := impl.DecodeOld(old); p.Ok {
			b = modelNew(stamped(shifted(p.Page, 1), 1))
		}
		out = append(out, b...)
	}
	return out
}

func modelAny(d impl.Disk, name string) impl.MapRes {
	seen, ok := modelSeen(d)
	at := modelFind(seen, name)
	if !ok || at < 0 {
		return impl.MapRes{}
	}
	if m := modelMeta(d, name); m.Ok {
		l := modelLoad(d, name, m.Meta.Root)
		if pairs := modelPairs(l.Tree); l.Ok && int64(len(pairs)) == m.Meta.Count {
			return impl.MapRes{Version: 2, Id: m.Meta.Id, Pairs: pairs}
		}
	}
	meta := impl.DecodeOld(seen[at].Data[:impl.PageBytes]).Page
	if meta.Kind != impl.PMeta {
		return impl.MapRes{}
	}
	data := modelTurned(seen[at].Data)
	// No disk has room for a page 1000, but no page number is that high, either.
	data = data[:min(len(data), impl.CapMax*impl.PageBytes)]
	l := modelLoad(impl.Disk{Files: []impl.File{{Name: "f", Data: data}}, Cap: impl.CapMax}, "f", meta.Meta.Root+1)
	if pairs := modelPairs(l.Tree); l.Ok && int64(len(pairs)) == meta.Meta.Count {
		return impl.MapRes{Version: 1, Id: meta.Meta.Id, Pairs: pairs}
	}
	return impl.MapRes{}
}

// modelLogged is the k with which a conversion goes on, 0 where it begins.
func modelLogged(d impl.Disk, name string) int64 {
	log, file := fileData(d, "log"), fileData(d, name)
	if len(log) == 0 {
		return 0
	}
	for k := int64(1); k <= int64(len(file)/impl.PageBytes)-1; k++ {
		if bytes.Equal(log[:impl.PageBytes], logPage(name, file, k)) && modelPages(d.Files, "new") >= k+2 {
			return k
		}
	}
	return 0
}

func modelMigrate(d impl.Disk, name string) impl.RestoreRes {
	version := modelAny(d, name).Version
	if d.Dead || len(d.Cache) > 0 || name == "new" || name == "log" || version == 0 {
		return impl.RestoreRes{Err: impl.MgBad, Disk: d}
	}
	drop := func(file string) func(impl.Disk) impl.DiskRes {
		return func(d impl.Disk) impl.DiskRes {
			if modelFind(d.Files, file) < 0 {
				return impl.DiskRes{Disk: d}
			}
			return modelMove(d, file, "", false)
		}
	}
	write := func(file string, page int64, b []byte) func(impl.Disk) impl.DiskRes {
		return func(d impl.Disk) impl.DiskRes { return modelWrite(d, file, page, b) }
	}
	if version == 2 {
		return modelConverted(d, []func(impl.Disk) impl.DiskRes{drop("new"), drop("log")})
	}
	file := fileData(d, name)
	pages := slices.Collect(slices.Chunk(modelTurned(file), impl.PageBytes))
	var steps []func(impl.Disk) impl.DiskRes
	k := modelLogged(d, name)
	if k == 0 {
		steps = append(steps, drop("new"), drop("log"), write("new", 0, pageOf(0)), write("new", 1, pageOf(0)))
	}
	for p := k + 1; p <= int64(len(pages))-2; p++ {
		steps = append(steps, write("new", p+1, pages[p+1]))
		if p%impl.StepPages == 0 {
			steps = append(steps, modelSync, write("log", 0, logPage(name, file, p)), modelSync)
		}
	}
	rename := func(d impl.Disk) impl.DiskRes { return modelMove(d, "new", name, true) }
	return modelConverted(d, append(steps, modelSync, write("new", 1, pages[1]), modelSync, rename, drop("log")))
}
