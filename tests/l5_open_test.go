package tests

import (
	"fmt"
	"slices"
	"testing"

	"loop.example/s02098/impl"
)

// wantBareCode asks for a code beside the zero store.
func wantBareCode(t *testing.T, what string, got impl.StoreRes, code int64) {
	t.Helper()
	wantStoreRes(t, what, got, impl.StoreRes{Code: code})
}

func TestCreateIsRefused(t *testing.T) {
	free := impl.DiskNew(9)
	for _, row := range invalidDisks() {
		wantBareCode(t, row.what, impl.CreateStore(row.disk, "f", 7), impl.StBad)
	}
	for _, name := range noNames {
		wantBareCode(t, fmt.Sprintf("the name %q", name), impl.CreateStore(free, name, 7), impl.StBad)
	}
	for _, id := range []int64{0, -1, impl.NumMax + 1, 1 << 32, 1<<32 + 1, 1<<63 - 1, -1 << 63} {
		wantBareCode(t, fmt.Sprint("the Id ", id), impl.CreateStore(free, "f", id), impl.StBad)
	}
	dead := free
	dead.Dead = true
	wantBareCode(t, "a dead disk", impl.CreateStore(dead, "f", 7), impl.StBad)
	dead.Fuel = 0
	wantBareCode(t, "a dead disk without fuel", impl.CreateStore(dead, "f", 7), impl.StBad)
	there := impl.Disk{Files: []impl.File{fileOf("f", 0)}, Cap: 9, Fuel: -1}
	wantBareCode(t, "a file of zeros", impl.CreateStore(there, "f", 7), impl.StBad)
	wantBareCode(t, "a store", impl.CreateStore(created(t, 9).Disk, "f", 7), impl.StBad)
	cached := free
	cached.Cache = []impl.Pend{pendOf("g", 0, 1)}
	wantBareCode(t, "a write in the cache", impl.CreateStore(cached, "f", 7), impl.StBad)
	cached.Cache = []impl.Pend{pendOf("f", 0, 1)}
	wantBareCode(t, "the file in the cache", impl.CreateStore(cached, "f", 7), impl.StBad)
	// What is refused goes before what is full or lost.
	full := impl.DiskNew(0)
	wantBareCode(t, "no room, and no Id", impl.CreateStore(full, "f", 0), impl.StBad)
	full.Fuel = 0
	wantBareCode(t, "no room, no fuel, and no name", impl.CreateStore(full, "F", 7), impl.StBad)
}

// The steps in their order: a fuel for each, and room for each page.
func TestStepsOfCreation(t *testing.T) {
	leaf, meta := modelNew(stamped(leafPage(), 1)), modelNew(stamped(metaPage(7, 2, 0), 1))
	pages := []impl.Pend{{Name: "f", Page: 0, Data: pageOf(0)}, {Name: "f", Page: 1, Data: pageOf(0)}, {Name: "f", Page: 2, Data: leaf}}
	other := fileOf("a", 5, 6)
	synced := []impl.File{other, joined("f", pageOf(0), pageOf(0), leaf)}
	for fuel := int64(0); fuel <= 5; fuel++ {
		want := impl.Disk{Files: []impl.File{other}, Cache: pages[:min(fuel, 3)], Cap: 9, Dead: true}
		if fuel >= 4 {
			want.Files, want.Cache = synced, nil
		}
		if fuel == 5 {
			want.Cache = []impl.Pend{{Name: "f", Page: 1, Data: meta}}
		}
		d := impl.Disk{Files: []impl.File{other}, Cap: 9, Fuel: fuel}
		wantStoreRes(t, fmt.Sprint("fuel ", fuel), impl.CreateStore(d, "f", 7), impl.StoreRes{Code: impl.StLost, Store: impl.Store{Disk: want}})
	}
	done := []impl.File{other, joined("f", pageOf(0), meta, leaf)}
	for _, fuel := range []int64{-1, 6, 7, impl.FuelMax} {
		d := impl.Disk{Files: []impl.File{other}, Cap: 5, Fuel: fuel}
		want := impl.Store{Disk: impl.Disk{Files: done, Cap: 5, Fuel: max(fuel-6, -1)}, Name: "f", Tx: 1, Meta: impl.Meta{Id: 7, Root: 2}, Tree: draw(":2")}
		got := impl.CreateStore(d, "f", 7)
		wantStoreRes(t, fmt.Sprint("fuel ", fuel), got, impl.StoreRes{Code: impl.StOk, Store: want})
		wantStoreRes(t, fmt.Sprint("fuel ", fuel, ", opened"), impl.OpenStore(got.Store.Disk, "f"), got)
		if !impl.ValidStore(got.Store) {
			t.Errorf("fuel %d: not valid", fuel)
		}
	}
	for room := int64(2); room <= 4; room++ {
		for _, fuel := range []int64{-1, room - 2, room - 1} {
			d := impl.Disk{Files: []impl.File{other}, Cap: room, Fuel: fuel}
			want := impl.Disk{Files: []impl.File{other}, Cache: pages[:room-2], Cap: room, Fuel: max(fuel-room+2, -1)}
			wantStoreRes(t, fmt.Sprint("room for ", room, ", fuel ", fuel), impl.CreateStore(d, "f", 7), impl.StoreRes{Code: impl.StFull, Store: impl.Store{Disk: want}})
		}
	}
	many := impl.Disk{Files: manyFiles(impl.FileMax), Cap: 90, Fuel: 0}
	wantStoreRes(t, "FileMax files", impl.CreateStore(many, "z", 7), impl.StoreRes{Code: impl.StFull, Store: impl.Store{Disk: many}})
}

func TestStoresThatAreCreated(t *testing.T) {
	for _, row := range []struct {
		name string
		id   int64
	}{{"a", 1}, {"abcdefgh", impl.NumMax}, {"zzzzzzzz", 256}, {"tmp", 2}, {"new", 3}, {"log", 4}} {
		got := impl.CreateStore(impl.DiskNew(3), row.name, row.id)
		if got.Code != impl.StOk || got.Store.Name != row.name || got.Store.Meta != (impl.Meta{Id: row.id, Root: 2}) || got.Store.Disk.Cap != 3 {
			t.Errorf("%q, %d: %d, %s", row.name, row.id, got.Code, tellStore(got.Store))
		}
	}
	// Stores side by side on one disk know nothing of each other.
	d := created(t, 40).Disk
	g := run(t, impl.CreateStore(d, "g", 9).Store, "b +x +y c")
	f := run(t, opened(t, "the first", g.Disk), "b +a c")
	wantKeys(t, "the first", f, 0, "a")
	again := impl.OpenStore(f.Disk, "g")
	wantKeys(t, "the second", again.Store, 0, "xy")
	if again.Store.Meta.Id != 9 || f.Meta.Id != 7 || again.Store.Tx != 2 {
		t.Errorf("Ids %d and %d", f.Meta.Id, again.Store.Meta.Id)
	}
}

func TestOpenIsRefused(t *testing.T) {
	good := longSheaf().withMeta(1, 4, 4)
	for _, row := range invalidDisks() {
		wantBareCode(t, row.what, impl.OpenStore(row.disk, "a"), impl.StBad)
	}
	for _, name := range noNames {
		wantBareCode(t, fmt.Sprintf("the name %q", name), impl.OpenStore(good.disk(), name), impl.StBad)
	}
	dead := good.disk()
	dead.Dead = true
	wantBareCode(t, "a dead disk", impl.OpenStore(dead, "f"), impl.StBad)
	wantBareCode(t, "a dead disk without the file", impl.OpenStore(dead, "g"), impl.StBad)
	small := good.disk()
	small.Cap = 8
	wantBareCode(t, "a disk with less room than pages", impl.OpenStore(small, "f"), impl.StBad)
	for what, s := range map[string]sheaf{
		"no meta":                    longSheaf(),
		"a leaf alone":               {2: leafPage()},
		"an odd meta on page 0":      longSheaf().with(0, stamped(metaPage(7, 4, 4), 1)),
		"an even meta on page 1":     longSheaf().with(1, stamped(metaPage(7, 4, 4), 2)),
		"both on the wrong page":     longSheaf().with(0, stamped(metaPage(7, 4, 4), 3)).with(1, stamped(metaPage(7, 4, 4), 2)),
		"a meta on page 2":           {2: stamped(metaPage(7, 4, 4), 2)},
		"leaves instead of metas":    longSheaf().with(0, stamped(leafPage(), 2)).with(1, stamped(leafPage(), 1)),
		"one page, which is no meta": {0: leafPage()},
		"an overflow page as a meta": longSheaf().with(1, stamped(overPage(0, "x"), 1)),
		"a branch instead of a meta": longSheaf().with(0, stamped(branchPage(kid("", 3), kid("c", 2)), 2)),
	} {
		wantBareCode(t, what, impl.OpenStore(s.disk(), "f"), impl.StMeta)
	}
	wantBareCode(t, "no file", impl.OpenStore(good.disk(), "g"), impl.StMeta)
	wantBareCode(t, "no file at all", impl.OpenStore(impl.DiskNew(9), "f"), impl.StMeta)
	old := impl.Disk{Files: []impl.File{joined("f", impl.EncodeOld(metaPage(7, 2, 0)), impl.EncodeOld(leafPage()))}, Cap: 9, Fuel: -1}
	wantBareCode(t, "an old file", impl.OpenStore(old, "f"), impl.StMeta)
	for at := range impl.PageBytes {
		torn := good.codes()
		torn[1] = slices.Clone(torn[1])
		torn[1][at] ^= 4
		wantBareCode(t, fmt.Sprint("a meta with byte ", at, " changed"), impl.OpenStore(torn.disk(), "f"), impl.StMeta)
	}
}

func TestOpenOfTreesThatAreNot(t *testing.T) {
	long := longSheaf()
	for what, s := range map[string]sheaf{
		"a Root of zeros":                        long.withMeta(1, 9, 4).with(10, leafPage()),
		"a Root behind the end":                  long.withMeta(1, 9, 4),
		"the last Root":                          long.withMeta(1, 999, 4),
		"a Root that is an overflow page":        long.withMeta(1, 5, 4),
		"a Root that is a meta":                  long.withMeta(1, 9, 4).with(9, stamped(metaPage(7, 4, 4), 1)),
		"no tree at all":                         sheaf{}.withMeta(1, 2, 0),
		"a leaf that is missing":                 long.moved(2, 9).withMeta(1, 4, 4),
		"an overflow page that is missing":       long.moved(6, 9).withMeta(1, 4, 4),
		"keys that do not ascend":                smallSheaf().with(4, branchPage(kid("", 2), kid("e", 3))).withMeta(1, 4, 4),
		"a page twice":                           smallSheaf().with(4, branchPage(kid("", 3), kid("c", 3))).withMeta(1, 4, 4),
		"a Count too small":                      long.withMeta(1, 4, 3),
		"a Count too great":                      long.withMeta(1, 4, 5),
		"a Count of 0":                           long.withMeta(1, 4, 0),
		"a Count of NumMax":                      long.withMeta(1, 4, impl.NumMax),
		"a Count that is the number of nodes":    deepSheaf().withMeta(1, 3, 7),
		"a Count with the Keys of inner nodes":   deepSheaf().withMeta(1, 3, 11),
		"a Count of an empty leaf":               sheaf{2: leafPage()}.withMeta(1, 2, 1),
		"a newer meta without a tree":            long.withMeta(1, 4, 4).withMeta(2, 9, 4),
		"a newer meta with a wrong Count":        long.withMeta(2, 4, 4).withMeta(3, 4, 5),
		"a newer meta, its tree partly there":    long.withMeta(3, 4, 4).withMeta(4, 9, 4).with(9, branchPage(kid("", 3), kid("c", 20))),
		"a newer meta on a leaf that is not all": long.withMeta(3, 4, 4).withMeta(4, 2, 4),
	} {
		wantBareCode(t, what, impl.OpenStore(s.disk(), "f"), impl.StTree)
		wantBareCode(t, what+", in the cache alone", impl.OpenStore(s.codes().cached(), "f"), impl.StTree)
	}
}

func TestOpenRows(t *testing.T) {
	long := longSheaf()
	meta := impl.Meta{Id: 7, Root: 4, Count: 4}
	for _, row := range []struct {
		what    string
		pages   sheaf
		tx      int64
		meta    impl.Meta
		picture string
	}{
		{"an empty leaf", sheaf{2: leafPage()}.withMeta(1, 2, 0), 1, impl.Meta{Id: 7, Root: 2}, ":2"},
		{"the meta in page 1", long.withMeta(1, 4, 4), 1, meta, "(a^5b:3 c^7d:2):4"},
		{"the meta in page 0", long.withMeta(2, 4, 4), 2, meta, "(a^5b:3 c^7d:2):4"},
		{"both, the newer in page 1", long.withMeta(2, 2, 2).withMeta(3, 4, 4), 3, meta, "(a^5b:3 c^7d:2):4"},
		{"both, the newer in page 0", long.withMeta(3, 2, 2).withMeta(4, 4, 4), 4, meta, "(a^5b:3 c^7d:2):4"},
		{"both, far apart", long.withMeta(1, 2, 2).withMeta(impl.NumMax, 4, 4), impl.NumMax, meta, "(a^5b:3 c^7d:2):4"},
		{"an older one whose tree is gone", long.withMeta(1, 9, 9).withMeta(2, 4, 4), 2, meta, "(a^5b:3 c^7d:2):4"},
		{"an older one with a wrong Count", long.withMeta(6, 4, 3).withMeta(7, 4, 4), 7, meta, "(a^5b:3 c^7d:2):4"},
		{"one beside a leaf", long.withMeta(6, 4, 4).with(1, leafPage()), 6, meta, "(a^5b:3 c^7d:2):4"},
		{"one beside a meta of the wrong page", long.withMeta(6, 4, 4).with(1, stamped(metaPage(7, 2, 2), 8)), 6, meta, "(a^5b:3 c^7d:2):4"},
		{"a part of a tree", long.withMeta(1, 2, 2), 1, impl.Meta{Id: 7, Root: 2, Count: 2}, "c^7d:2"},
		{"three levels", deepSheaf().withMeta(1, 3, 8), 1, impl.Meta{Id: 7, Root: 3, Count: 8}, "((ab:9 cd:8):7 (ef:6 gh:5):4):3"},
		{"stamps above the meta's", sheaf{2: stamped(lettersLeaf("ab"), 99)}.withMeta(1, 2, 2), 1, impl.Meta{Id: 7, Root: 2, Count: 2}, "ab:2"},
		{"the last page", sheaf{999: lettersLeaf("a")}.withMeta(1, 999, 1), 1, impl.Meta{Id: 7, Root: 999, Count: 1}, "a:999"},
	} {
		fueled := row.pages.disk()
		fueled.Fuel = 0
		for what, d := range map[string]impl.Disk{
			row.what: row.pages.disk(), row.what + ", in the cache alone": row.pages.codes().cached(), row.what + ", no fuel": fueled,
		} {
			want := impl.Store{Disk: d, Name: "f", Tx: row.tx, Meta: row.meta, Tree: draw(row.picture)}
			got := impl.OpenStore(d, "f")
			wantStoreRes(t, what, got, impl.StoreRes{Code: impl.StOk, Store: want})
			if !impl.ValidStore(got.Store) {
				t.Errorf("%s: not valid", what)
			}
		}
	}
}

// What is seen counts, not what is durable: a meta or a page of the tree in the cache alone makes a store, or spoils one.
func TestOpenAsSeen(t *testing.T) {
	write := func(d impl.Disk, page int64, p impl.Page) impl.Disk {
		r := impl.WritePage(d, "f", page, modelNew(stamped(p, 2)))
		if r.Err != impl.DiskOk {
			t.Fatalf("page %d is not written: %d", page, r.Err)
		}
		return r.Disk
	}
	d := smallSheaf().withMeta(1, 4, 4).disk()
	newer := write(write(d, 5, lettersLeaf("xy")), 0, metaPage(7, 5, 2))
	s := opened(t, "a newer state in the cache", newer)
	wantKeys(t, "a newer state in the cache", s, 0, "xy")
	if s.Tx != 2 || len(s.Disk.Cache) != 2 {
		t.Errorf("a newer state in the cache: %s", tellStore(s))
	}
	// The first commit makes durable what was in the cache, too.
	next := run(t, s, "b +z c")
	wantKeys(t, "the next commit", next, 0, "xyz")
	if next.Tx != 3 || len(next.Disk.Cache) > 0 {
		t.Errorf("the next commit: %s", tellStore(next))
	}
	wantKeys(t, "without the cache", opened(t, "without the cache", impl.CrashDisk(newer, impl.Crash{Tear: -1})), 0, "abcd")
	broken := write(d, 3, leafPage())
	wantBareCode(t, "a leaf that the cache spoils", impl.OpenStore(broken, "f"), impl.StTree)
	wantKeys(t, "a leaf that the cache mends", opened(t, "mended", write(broken, 3, lettersLeaf("ab"))), 0, "abcd")
	noMeta := impl.WritePage(d, "f", 1, pageOf(0)).Disk
	wantBareCode(t, "a meta that the cache spoils", impl.OpenStore(noMeta, "f"), impl.StMeta)
	elsewhere := impl.WritePage(d, "g", 0, pageOf(0)).Disk
	wantKeys(t, "a write to another file", opened(t, "another file", elsewhere), 0, "abcd")
}
