package tests

import (
	"fmt"
	"slices"
	"strings"
	"testing"

	"loop.example/s02098/impl"
)

// oldRow is pairs and the pages of their old file.
type oldRow struct {
	what  string
	pairs []impl.Pair
	pages sheaf
}

func oldRows() []oldRow {
	long1 := impl.Pair{Key: "b", Val: strings.Repeat("x", 9)}
	long2 := impl.Pair{Key: "f", Val: strings.Repeat("y", 100)}
	whole := impl.Pair{Key: "g", Val: strings.Repeat("z", 96)}
	five := impl.Pair{Key: "h", Val: strings.Repeat("w", impl.ValMax)}
	return []oldRow{
		{"no pairs", nil, sheaf{0: metaPage(7, 1, 0), 1: leafPage()}},
		{"one pair", lettered("a"), sheaf{0: metaPage(7, 1, 1), 1: lettersLeaf("a")}},
		{"four pairs", lettered("abcd"), sheaf{0: metaPage(7, 1, 4), 1: lettersLeaf("abcd")}},
		{"five pairs", lettered("abcde"), sheaf{0: metaPage(7, 3, 5), 1: lettersLeaf("abc"), 2: lettersLeaf("de"), 3: branchPage(kid("", 1), kid("d", 2))}},
		{"a long value", []impl.Pair{long1}, sheaf{0: metaPage(7, 2, 1), 1: overPage(0, long1.Val), 2: leafPage(long("b", 1, 9))}},
		{"a value of two pages", []impl.Pair{long2}, sheaf{0: metaPage(7, 3, 1), 1: overPage(2, long2.Val[:96]), 2: overPage(0, "yyyy"), 3: leafPage(long("f", 1, 100))}},
		{"a page that is just full", []impl.Pair{whole}, sheaf{0: metaPage(7, 2, 1), 1: overPage(0, whole.Val), 2: leafPage(long("g", 1, 96))}},
		{"short, long and longest", []impl.Pair{{Key: "a", Val: ""}, long1, whole, five, {Key: "i", Val: "12345678"}}, sheaf{
			0: metaPage(7, 10, 5), 1: overPage(0, long1.Val), 2: overPage(0, whole.Val), 3: leafPage(short("a", ""), long("b", 1, 9), long("g", 2, 96)),
			4: overPage(5, five.Val[:96]), 5: overPage(6, five.Val[:96]), 6: overPage(7, five.Val[:96]), 7: overPage(8, five.Val[:96]), 8: overPage(0, five.Val[:16]),
			9: leafPage(long("h", 4, 400), short("i", "12345678")), 10: branchPage(kid("", 3), kid("h", 9)),
		}},
		{"two levels of branches", lettered("abcdefghijklmnopq"), sheaf{
			0: metaPage(7, 8, 17), 1: lettersLeaf("abcd"), 2: lettersLeaf("efgh"), 3: lettersLeaf("ijkl"), 4: branchPage(kid("", 1), kid("e", 2), kid("i", 3)),
			5: lettersLeaf("mno"), 6: lettersLeaf("pq"), 7: branchPage(kid("", 5), kid("p", 6)), 8: branchPage(kid("", 4), kid("m", 7)),
		}},
	}
}

func TestOldFilesRows(t *testing.T) {
	for _, row := range oldRows() {
		file := impl.File{Name: "x", Data: row.pages.old().data()}
		for _, d := range []impl.Disk{impl.DiskNew(90), {Files: []impl.File{fileOf("a", 1), fileOf("z", 2, 3)}, Cap: 90, Fuel: -1}} {
			got := impl.WriteOld(d, "x", 7, row.pairs)
			wantRestoreRes(t, row.what, got, impl.RestoreRes{Disk: withFile(d, file)})
			wantMap(t, row.what, got.Disk, "x", impl.MapRes{Version: 1, Id: 7, Pairs: row.pairs})
		}
		// The name is not in the file, and the Id only in its meta.
		for name, id := range map[string]int64{"a": 1, "abcdefgh": impl.NumMax, "new": 7, "log": 7, "tmp": 7} {
			got := impl.WriteOld(impl.DiskNew(90), name, id, row.pairs)
			pages := row.pages.with(0, metaPage(id, row.pages[0].Meta.Root, row.pages[0].Meta.Count))
			wantRestoreRes(t, row.what+" as "+name, got, impl.RestoreRes{Disk: withFile(impl.DiskNew(90), impl.File{Name: name, Data: pages.old().data()})})
		}
	}
}

// The pages of "abc" and "d" with a long value, byte by byte.
func TestOldFilesByteByByte(t *testing.T) {
	val := strings.Repeat("q", 300)
	d := written(t, impl.DiskNew(0), "x", 0x01020304, append(lettered("abc"), impl.Pair{Key: "dd", Val: val}, impl.Pair{Key: "eeeeeeee", Val: "12345678"}))
	text := func(s string) []byte { return []byte(s) }
	var want []byte
	for _, b := range [][]byte{
		framedOld(1, 0, text("\x00\x07"+"\x00\x00\x00\x05"+"\x01\x02\x03\x04")),
		framedOld(3, 3, text("\x01a\x00\x00\x00\x00\x00\x00\x00"+"\x00\x02va"+"\x01b\x00\x00\x00\x00\x00\x00\x00"+"\x00\x02vb"+"\x01c\x00\x00\x00\x00\x00\x00\x00"+"\x00\x02vc")),
		framedOld(4, 0, text("\x00\x03"+"\x60"+val[:96])), framedOld(4, 0, text("\x00\x04"+"\x60"+val[:96])), framedOld(4, 0, text("\x00\x05"+"\x60"+val[:96])), framedOld(4, 0, text("\x00\x00"+"\x0c"+val[:12])),
		framedOld(3, 2, text("\x02dd\x00\x00\x00\x00\x00\x00"+"\x01\x00\x02\x01\x2c"+"\x08eeeeeeee"+"\x00\x0812345678")),
		framedOld(2, 2, text("\x00\x01"+"\x02dd"+"\x00\x06")),
	} {
		want = append(want, b...)
	}
	if got := string(fileData(d, "x")); got != string(want) {
		t.Errorf("the file is\n% x\nwant\n% x", got, want)
	}
}

// One write a page in the order of the numbers, and one sync.
func TestStepsOfWriteOld(t *testing.T) {
	for _, row := range oldRows() {
		for _, base := range []impl.Disk{impl.DiskNew(40), {Files: []impl.File{fileOf("a", 1), fileOf("z", 2, 3)}, Cap: 40}} {
			data := row.pages.old().data()
			pages := slices.Collect(slices.Chunk(data, impl.PageBytes))
			for fuel := range len(pages) + 4 {
				d := base
				d.Fuel = int64(fuel)
				want := impl.RestoreRes{Err: impl.MgLost, Disk: base}
				want.Disk.Fuel, want.Disk.Dead = 0, true
				for i, b := range pages[:min(fuel, len(pages))] {
					want.Disk.Cache = append(want.Disk.Cache, impl.Pend{Name: "x", Page: int64(i), Data: b})
				}
				if fuel > len(pages) {
					want = impl.RestoreRes{Disk: withFile(base, impl.File{Name: "x", Data: data})}
					want.Disk.Fuel = int64(fuel - len(pages) - 1)
				}
				wantRestoreRes(t, fmt.Sprint(row.what, ", fuel ", fuel), impl.WriteOld(d, "x", 7, row.pairs), want)
			}
		}
	}
}

// A room for every page but so many: what was written stays in the cache.
func TestRoomForWriteOld(t *testing.T) {
	for _, row := range oldRows() {
		need := int64(len(row.pages)) + 3
		for room := int64(3); room <= need+1; room++ {
			d := impl.Disk{Files: []impl.File{fileOf("a", 1), fileOf("z", 2, 3)}, Cap: room, Fuel: -1}
			want := modelWriteOld(d, "x", 7, row.pairs)
			got := impl.WriteOld(d, "x", 7, row.pairs)
			wantRestoreRes(t, fmt.Sprint(row.what, ", room for ", room), got, want)
			if full := got.Err == impl.MgFull; full != (room < need) || full && int64(len(got.Disk.Cache)) != room-3 {
				t.Errorf("%s, room for %d of %d: Err %d, %d writes", row.what, room, need, got.Err, len(got.Disk.Cache))
			}
		}
	}
	many := impl.Disk{Files: manyFiles(impl.FileMax), Cap: 90, Fuel: -1}
	wantRestoreRes(t, "FileMax files", impl.WriteOld(many, "x", 7, nil), impl.RestoreRes{Err: impl.MgFull, Disk: many})
	// A disk that is full tells so before its fuel ends, and only then.
	for fuel := int64(0); fuel <= 3; fuel++ {
		err := int64(impl.MgFull)
		if fuel < 1 {
			err = impl.MgLost
		}
		if got := impl.WriteOld(impl.Disk{Cap: 1, Fuel: fuel}, "x", 7, nil); got.Err != err || len(got.Disk.Cache) != int(min(fuel, 1)) {
			t.Errorf("fuel %d: Err %d, %d writes", fuel, got.Err, len(got.Disk.Cache))
		}
	}
}

func TestWriteOldIsRefused(t *testing.T) {
	good := lettered("abc")
	for _, row := range unfitDisks() {
		for _, pairs := range [][]impl.Pair{nil, good} {
			wantBad(t, row.what, impl.WriteOld(row.disk, "q", 7, pairs), row.disk)
		}
	}
	d := xDisk()
	for _, name := range noNames {
		wantBad(t, fmt.Sprintf("%q", name), impl.WriteOld(d, name, 7, good), d)
	}
	for _, name := range []string{"a", "x", "z"} {
		wantBad(t, "a file that is there: "+name, impl.WriteOld(d, name, 7, good), d)
	}
	for _, id := range []int64{0, -1, impl.NumMax + 1, 1<<32 + 1, -1 << 63, 1<<63 - 1} {
		wantBad(t, fmt.Sprint("id ", id), impl.WriteOld(d, "q", id, good), d)
	}
	for _, id := range []int64{1, 2, impl.NumMax - 1, impl.NumMax} {
		got := impl.WriteOld(d, "q", id, good)
		wantMap(t, fmt.Sprint("id ", id), got.Disk, "q", impl.MapRes{Version: 1, Id: id, Pairs: good})
	}
	for what, pairs := range map[string][]impl.Pair{
		"pairs that descend": {{Key: "b"}, {Key: "a"}}, "a key twice": {{Key: "a"}, {Key: "a"}}, "a key twice at the end": {{Key: "a"}, {Key: "b"}, {Key: "b"}}, "a longer key first": {{Key: "ab"}, {Key: "a"}}, "an empty key": {{Key: ""}}, "an empty key first": {{Key: ""}, {Key: "a"}},
		"a key too long": {{Key: "123456789"}}, "a key too long behind others": {{Key: "1"}, {Key: "123456789"}}, "a value too long": {{Key: "a", Val: strings.Repeat("v", impl.ValMax+1)}}, "a value too long behind others": {{Key: "a"}, {Key: "b", Val: strings.Repeat("v", impl.ValMax+1)}},
	} {
		wantBad(t, what, impl.WriteOld(d, "q", 7, pairs), d)
	}
	// Room and power are asked for only when all else is right.
	dry := impl.Disk{}
	wantBad(t, "an id of 0 without fuel", impl.WriteOld(dry, "q", 0, good), dry)
	wantBad(t, "no pairs to be put without fuel", impl.WriteOld(dry, "q", 7, []impl.Pair{{}}), dry)
}

// As many pages as there are numbers, and more of them or of nodes.
func TestTheGreatestOldFile(t *testing.T) {
	// 748 leaves, 187, 47, 12, 3 and 1 branches: on the old pages 1 to 998.
	pairs := numberedPairs(2992)
	for room := int64(998); room <= impl.CapMax; room++ {
		d := impl.DiskNew(room)
		got := impl.WriteOld(d, "x", 7, pairs)
		if room < 999 {
			if got.Err != impl.MgFull || len(got.Disk.Cache) != 998 {
				t.Errorf("room for %d: Err %d, %d writes", room, got.Err, len(got.Disk.Cache))
			}
			continue
		}
		meta := impl.DecodeOld(impl.ReadPage(got.Disk, "x", 0)).Page.Meta
		if got.Err != impl.MgOk || impl.PageCount(got.Disk, "x") != 999 || meta != (impl.Meta{Id: 7, Root: 998, Count: 2992}) {
			t.Errorf("room for %d: Err %d, %d pages, %+v", room, got.Err, impl.PageCount(got.Disk, "x"), meta)
		}
		wantMap(t, fmt.Sprint("room for ", room), got.Disk, "x", impl.MapRes{Version: 1, Id: 7, Pairs: pairs})
	}
	// 1000 nodes, which TreeBulk takes and Place does not; 1001 nodes; and more than any tree has.
	for _, count := range []int{2993, 2996, 2997, 3000, 9000} {
		d := impl.DiskNew(impl.CapMax)
		wantBad(t, fmt.Sprint(count, " pairs"), impl.WriteOld(d, "x", 7, numberedPairs(count)), d)
	}
	// Long values take page numbers, too: 199 of five pages, in 50 leaves under 13, 4 and 1, are too many; 184 leave room.
	for count, err := range map[int]int64{184: impl.MgOk, 199: impl.MgBad} {
		long := numberedPairs(count)
		for i := range long {
			long[i].Val = strings.Repeat("v", impl.ValMax)
		}
		if got := impl.WriteOld(impl.DiskNew(impl.CapMax), "x", 7, long); got.Err != err {
			t.Errorf("%d long values: Err %d", count, got.Err)
		}
	}
}

// wantMigrated asks that an old file becomes a new one with the same pairs, which is a store, and stays as it is from then on.
func wantMigrated(t *testing.T, what string, d impl.Disk, name string, want impl.MapRes) impl.Disk {
	t.Helper()
	pages := impl.PageCount(d, name)
	wantMap(t, what, d, name, impl.MapRes{Version: 1, Id: want.Id, Pairs: want.Pairs})
	got := impl.Migrate(d, name)
	if got.Err != impl.MgOk || got.At != 0 || len(got.Disk.Cache) > 0 || got.Disk.Dead {
		t.Fatalf("%s: Err %d at %d: %s", what, got.Err, got.At, tell(got.Disk))
	}
	wantMap(t, what+", migrated", got.Disk, name, impl.MapRes{Version: 2, Id: want.Id, Pairs: want.Pairs})
	if n := impl.PageCount(got.Disk, name); n != pages+1 {
		t.Errorf("%s: %d pages, %d before", what, n, pages)
	}
	if string(fileData(got.Disk, name)) != string(modelTurned(fileData(d, name))) {
		t.Errorf("%s: the new file is not the old one turned", what)
	}
	wantDisk(t, what+", all other files", without(got.Disk, name), without(d, name, "new", "log"))
	wantRestoreRes(t, what+", again", impl.Migrate(got.Disk, name), impl.RestoreRes{Disk: got.Disk})
	s := impl.OpenStore(got.Disk, name)
	if s.Code != impl.StOk || s.Store.Tx != 1 || s.Store.Meta.Id != want.Id {
		t.Fatalf("%s: opened with code %d, tx %d, %+v", what, s.Code, s.Store.Tx, s.Store.Meta)
	}
	wantGoesOn(t, what, s.Store, want.Pairs)
	return got.Disk
}

// pairs are so many, with long values now and then, always or never.
func (r dice) pairs(count int) []impl.Pair {
	sort := r.Intn(3)
	var out []impl.Pair
	for _, k := range r.keys(count) {
		val := r.text(0, impl.InlineMax)
		if sort == 1 || sort == 2 && r.Intn(2) == 0 {
			val = r.value()
		}
		out = append(out, impl.Pair{Key: k, Val: val})
	}
	return out
}

func hasLong(pairs []impl.Pair) bool {
	return slices.ContainsFunc(pairs, func(p impl.Pair) bool { return len(p.Val) > impl.InlineMax })
}

func TestDrawnOldFiles(t *testing.T) {
	long, short := 0, 0
	for seed := range int64(120) {
		r := newDice(2000 + seed)
		pairs := r.pairs(int(r.pick(0, 1, 2, 3, 4, 5, 6, 9, 17, 30, 70)))
		what := fmt.Sprint("seed ", seed)
		d := impl.DiskNew(impl.CapMax)
		for _, name := range []string{"a", "new", "log", "zz"} {
			if r.Intn(2) == 0 {
				d = withFile(d, fileOf(name, r.page()[:1+r.Intn(4)]...))
			}
		}
		id, name := r.big(), []string{"x", "tmp", "abcdefgh"}[r.Intn(3)]
		got := impl.WriteOld(d, name, id, pairs)
		wantRestoreRes(t, what, got, modelWriteOld(d, name, id, pairs))
		wantDisk(t, what+", all other files", without(got.Disk, name), d)
		wantMigrated(t, what, got.Disk, name, impl.MapRes{Id: id, Pairs: pairs})
		if hasLong(pairs) {
			long++
		} else {
			short++
		}
		if t.Failed() {
			t.FailNow()
		}
	}
	if long < 30 || short < 30 {
		t.Errorf("%d files with long values, %d without", long, short)
	}
	for _, row := range oldRows() {
		wantMigrated(t, row.what, written(t, impl.DiskNew(0), "x", 7, row.pairs), "x", impl.MapRes{Id: 7, Pairs: row.pairs})
	}
}
