package tests

import (
	"fmt"
	"runtime"
	"slices"
	"strings"
	"testing"
	"time"

	"loop.example/s02098/impl"
)

// wantRound places a tree, lays its pages and loads it again: it must be the placed tree, with all pages that it then has. Standing are the pages that the tree before had.
func wantRound(t *testing.T, what string, d impl.Disk, x impl.Tree, tx int64, standing, taken []int64) (impl.Disk, impl.LoadRes) {
	t.Helper()
	placed := impl.Place(x, tx, append(slices.Clone(standing), taken...))
	if zeroPlaced(placed) {
		t.Fatalf("%s: not placed", what)
	}
	d = lay(t, d, placed)
	root := placed.Tree.Nodes[0].Page
	got := impl.LoadTree(d, "f", root)
	if !got.Ok {
		t.Fatalf("%s: not loaded", what)
	}
	wantTree(t, what, got.Tree, placed.Tree)
	for _, num := range got.Pages {
		if !slices.Contains(placed.Nums, num) && !slices.Contains(standing, num) {
			t.Errorf("%s: page %d was neither given nor there", what, num)
		}
	}
	for _, num := range placed.Nums {
		if !slices.Contains(got.Pages, num) {
			t.Errorf("%s: page %d was given, but not read", what, num)
		}
	}
	if !slices.IsSorted(got.Pages) || len(slices.Compact(slices.Clone(got.Pages))) != len(got.Pages) || len(got.Pages) != wantedPages(placed.Tree) {
		t.Errorf("%s: %d pages: %d", what, wantedPages(placed.Tree), got.Pages)
	}
	if !slices.Equal(modelPairs(got.Tree), modelPairs(x)) {
		t.Errorf("%s: other pairs", what)
	}
	if again := impl.LoadTree(d, "f", root); !sameLoad(again, got) {
		t.Errorf("%s: another answer at the second time", what)
	}
	return d, got
}

// wantedPages counts the pages of a tree that wholly stands on pages.
func wantedPages(t impl.Tree) int {
	count := len(t.Nodes)
	for _, n := range t.Nodes {
		for _, val := range n.Vals {
			if len(val) > impl.InlineMax {
				count += (len(val) + impl.OverBytes - 1) / impl.OverBytes
			}
		}
	}
	return count
}

// A long life of one tree in one file. What was loaded some turns ago is kept: its pages are taken, so it must load as ever.
func TestPlacedTreesAreLoaded(t *testing.T) {
	for seed := range int64(12) {
		r := newDice(400 + seed)
		d := impl.DiskNew(impl.CapMax)
		x := impl.TreeNew()
		keys := r.keys(int(r.pick(5, 20, 60)))
		var now, kept impl.LoadRes
		for turn := range 50 {
			what := fmt.Sprint("seed ", seed, " turn ", turn)
			for range r.Intn(16) {
				key := keys[r.Intn(len(keys))]
				if r.Intn(3) == 0 != (turn%10 < 6) {
					x = impl.TreePut(x, key, r.value()).Tree
				} else {
					x = impl.TreeDel(x, key).Tree
				}
			}
			if r.Intn(9) == 0 {
				x = impl.TreeBulk(modelPairs(x))
			}
			d, now = wantRound(t, what, d, x, int64(turn)+1, now.Pages, kept.Pages)
			if kept.Ok {
				if again := impl.LoadTree(d, "f", kept.Tree.Nodes[0].Page); !sameLoad(again, kept) {
					t.Errorf("%s: what was kept is another tree now", what)
				}
			}
			if t.Failed() {
				t.FailNow()
			}
			if turn%4 == 0 {
				kept = now
			}
			if r.Intn(3) == 0 {
				d = impl.SyncDisk(d).Disk
			}
			x = now.Tree
		}
	}
}

func TestBulkTreesAreLoaded(t *testing.T) {
	for _, count := range []int{0, 1, 2, 3, 4, 5, 8, 9, 16, 17, 20, 21, 64, 65, 100, 257} {
		x := impl.TreeBulk(numberedPairs(count))
		d, first := wantRound(t, fmt.Sprint(count, " pairs"), impl.DiskNew(impl.CapMax), x, 1, nil, nil)
		// Placed from 2 on, children before their parent: the root comes last.
		if root := first.Tree.Nodes[0].Page; root != int64(len(x.Nodes))+1 {
			t.Errorf("%d pairs: the root is on page %d", count, root)
		}
		y := impl.TreePut(first.Tree, "0002x", strings.Repeat("x", 300)).Tree
		d, second := wantRound(t, fmt.Sprint(count, " pairs and one"), d, y, 2, first.Pages, nil)
		z := impl.TreeDel(second.Tree, "0000").Tree
		d, _ = wantRound(t, fmt.Sprint(count, " pairs without one"), d, z, 3, second.Pages, first.Pages)
		for _, was := range []impl.LoadRes{first, second} {
			if !sameLoad(impl.LoadTree(d, "f", was.Tree.Nodes[0].Page), was) {
				t.Errorf("%d pairs: a tree before is another one now", count)
			}
		}
	}
}

// A root that was read from page 0 is told as a dirty one: Place gives a page to it, and to nothing else.
func TestATreeFromPageZeroIsPlaced(t *testing.T) {
	for _, row := range []struct {
		what    string
		pages   sheaf
		picture string
	}{
		{"a leaf", sheaf{0: lettersLeaf("ab")}, "ab:10"},
		{"a leaf with a long value", longSheaf().moved(2, 0), "c^7d:10"},
		{"a branch", longSheaf().moved(4, 0), "(a^5b:3 c^7d:2):10"},
		{"three levels", deepSheaf().moved(3, 0), "((ab:9 cd:8):7 (ef:6 gh:5):4):10"},
	} {
		d := row.pages.disk()
		first := impl.LoadTree(d, "f", 0)
		taken := append(slices.Clone(first.Pages), 2, 3, 4, 5, 6, 7, 8, 9)
		placed := impl.Place(first.Tree, 2, taken)
		if !first.Ok || !slices.Equal(placed.Nums, []int64{10}) {
			t.Errorf("%s: loaded %v, placed on %d", row.what, first.Ok, placed.Nums)
			continue
		}
		wantTree(t, row.what, placed.Tree, draw(row.picture))
		d, _ = wantRound(t, row.what, d, first.Tree, 2, first.Pages, taken)
		if !sameLoad(impl.LoadTree(d, "f", 0), first) {
			t.Errorf("%s: the tree of page 0 is another one now", row.what)
		}
	}
}

func TestValuesOfEverySizeAreLoaded(t *testing.T) {
	for _, size := range []int{0, 1, impl.InlineMax, impl.InlineMax + 1, impl.OverBytes - 1, impl.OverBytes, impl.OverBytes + 1, 2*impl.OverBytes - 1, 2 * impl.OverBytes, 2*impl.OverBytes + 1, 4 * impl.OverBytes, 4*impl.OverBytes + 1, impl.ValMax - 1, impl.ValMax} {
		var pairs []impl.Pair
		for i, key := range letters(6) {
			// Bytes that differ, so that pieces in the wrong order show; and zeros, as in a page's room.
			val := []byte(strings.Repeat("0123456789abcdefghijklmnopqrstu\x00", 13)[i : i+size])
			pairs = append(pairs, impl.Pair{Key: key, Val: string(val)})
		}
		wantRound(t, fmt.Sprint("values of ", size, " bytes"), impl.DiskNew(200), impl.TreeBulk(pairs), 5, nil, nil)
		wantRound(t, fmt.Sprint("values of ", size, " bytes, pages taken"), impl.DiskNew(200), impl.TreeBulk(pairs), 5, nil, []int64{2, 4, 6, 8, 9, 10, 14})
	}
}

// All page numbers are used, by nodes and by values: no more fit in.
func TestFullFilesAreLoaded(t *testing.T) {
	d, full := wantRound(t, "998 nodes", impl.DiskNew(impl.CapMax), impl.TreeBulk(numberedPairs(2992)), 1, nil, nil)
	if len(full.Pages) != impl.CapMax-2 || full.Tree.Nodes[0].Page != impl.CapMax-1 {
		t.Errorf("%d pages, the root on %d", len(full.Pages), full.Tree.Nodes[0].Page)
	}
	if got := impl.Place(impl.TreePut(full.Tree, "0000", "other").Tree, 2, full.Pages); !zeroPlaced(got) {
		t.Errorf("placed beside a full tree: %d", got.Nums)
	}
	if got := impl.Place(impl.TreeBulk(numberedPairs(2993)), 1, nil); !zeroPlaced(got) {
		t.Errorf("placed on %d pages", len(got.Nums))
	}
	wantLoad(t, "998 nodes", d, impl.CapMax-1, full.Tree, full.Pages)
	var pairs []impl.Pair
	for i := range 187 {
		pairs = append(pairs, impl.Pair{Key: fmt.Sprintf("%03d", i), Val: strings.Repeat("v", impl.ValMax)})
	}
	// 935 pages of values, 47 leaves, 12, 3 and 1 nodes above them: just 998.
	_, full = wantRound(t, "998 pages with values", impl.DiskNew(impl.CapMax), impl.TreeBulk(pairs), 1, nil, nil)
	if len(full.Pages) != impl.CapMax-2 {
		t.Errorf("%d pages", len(full.Pages))
	}
	pairs = append(pairs, impl.Pair{Key: "999", Val: "short"})
	if got := impl.Place(impl.TreeBulk(pairs), 1, nil); len(got.Nums) != impl.CapMax-2 {
		t.Errorf("one short value more: %d pages", len(got.Nums))
	}
	pairs[187].Val = "9 letters"
	if got := impl.Place(impl.TreeBulk(pairs), 1, nil); !zeroPlaced(got) {
		t.Errorf("one long value more: %d pages", len(got.Nums))
	}
}

// However the workers run, the answer is the same; and none of them outlives the call.
func TestLoadUnderEverySchedule(t *testing.T) {
	d, full := wantRound(t, "998 nodes", impl.DiskNew(impl.CapMax), impl.TreeBulk(numberedPairs(2992)), 1, nil, nil)
	root := full.Tree.Nodes[0].Page
	broken := d
	broken.Files = []impl.File{{Name: "f", Data: slices.Clone(impl.SyncDisk(d).Disk.Files[0].Data)}}
	broken.Cache = nil
	clear(broken.Files[0].Data[700*impl.PageBytes : 703*impl.PageBytes])
	before := runtime.NumGoroutine()
	defer runtime.GOMAXPROCS(runtime.GOMAXPROCS(0))
	for _, procs := range []int{1, 2, 3, 8, 32} {
		runtime.GOMAXPROCS(procs)
		for range 8 {
			if !sameLoad(impl.LoadTree(d, "f", root), full) {
				t.Fatalf("another answer on %d processors", procs)
			}
			wantNoLoad(t, "a page of zeros", broken, "f", root)
		}
	}
	// A worker that has told its end may still be there for a moment.
	for wait := 0; runtime.NumGoroutine() > before && wait < 200; wait++ {
		time.Sleep(5 * time.Millisecond)
	}
	if now := runtime.NumGoroutine(); now > before {
		t.Errorf("%d goroutines more than before", now-before)
	}
}
