package tests

import (
	"bytes"
	"fmt"
	"slices"
	"testing"

	"loop.example/s02098/impl"
)

// putting is a Restore or a Compact that succeeds on its disk when there are room and power.
type putting struct {
	what  string
	disk  impl.Disk
	name  string
	do    func(d impl.Disk) impl.RestoreRes
	model func(d impl.Disk) impl.RestoreRes
}

func restoring(what string, d impl.Disk, name string, chain []impl.Blob) putting {
	return putting{what, d, name,
		func(d impl.Disk) impl.RestoreRes { return impl.Restore(d, name, chain) },
		func(d impl.Disk) impl.RestoreRes { return modelRestore(d, name, chain) }}
}

func compacting(what string, d impl.Disk, from, to string) putting {
	return putting{what, d, to,
		func(d impl.Disk) impl.RestoreRes { return impl.Compact(d, from, to) },
		func(d impl.Disk) impl.RestoreRes { return modelCompact(d, from, to) }}
}

// with is the disk with this room and fuel.
func (p putting) with(room, fuel int64) impl.Disk {
	d := p.disk
	d.Cap, d.Fuel = room, fuel
	return d
}

// done is the disk when all is put, and the number of steps that it takes.
func (p putting) done(t *testing.T) (impl.Disk, int64) {
	t.Helper()
	got := p.do(p.with(impl.CapMax, impl.FuelMax))
	if got.Err != impl.RsOk {
		t.Fatalf("%s: Err %d at %d", p.what, got.Err, got.At)
	}
	return got.Disk, impl.FuelMax - got.Disk.Fuel
}

// need is the least room in which all can be put: a file tmp goes first, the file that is put over stays up to the end.
func (p putting) need(t *testing.T) int64 {
	t.Helper()
	after, _ := p.done(t)
	rest := slices.DeleteFunc(modelCopy(p.disk.Files), func(f impl.File) bool { return f.Name == "tmp" })
	return max(modelTotal(rest)+modelPages(after.Files, p.name), modelTotal(p.disk.Files))
}

// wantFile asks that the file is as it is on another disk, there or not.
func wantFile(t *testing.T, what string, got impl.Disk, name string, want impl.Disk) {
	t.Helper()
	a, b := modelFind(got.Files, name), modelFind(want.Files, name)
	if (a < 0) != (b < 0) || a >= 0 && !bytes.Equal(got.Files[a].Data, want.Files[b].Data) {
		t.Errorf("%s: the file %s is another: %s, want that of %s", what, name, tell(got), tell(want))
	}
}

// wantAllFiles asks for the named file of one disk, and for all others but tmp of the disk before.
func (p putting) wantAllFiles(t *testing.T, what string, got, want impl.Disk) {
	t.Helper()
	wantFile(t, what, got, p.name, want)
	for _, f := range append(slices.Clone(p.disk.Files), got.Files...) {
		if f.Name != p.name && f.Name != "tmp" {
			wantFile(t, what, got, f.Name, p.disk)
		}
	}
}

// wantCrashed looks at what a crash leaves, and does it again there.
func (p putting) wantCrashed(t *testing.T, what string, r dice, got impl.RestoreRes, after impl.Disk) {
	t.Helper()
	want := p.disk
	if got.Err == impl.RsOk {
		want = after
	}
	p.wantAllFiles(t, what, got.Disk, want)
	for _, c := range r.crashes(got.Disk) {
		what := fmt.Sprintf("%s, %v", what, c)
		left := impl.CrashDisk(got.Disk, c)
		p.wantAllFiles(t, what, left, want)
		left.Cap = impl.CapMax
		again := p.do(left)
		if again.Err != impl.RsOk || again.At != 0 || len(again.Disk.Cache) > 0 {
			t.Errorf("%s, again: Err %d at %d", what, again.Err, again.At)
		}
		p.wantAllFiles(t, what+", again", again.Disk, after)
		if modelFind(again.Disk.Files, "tmp") >= 0 {
			t.Errorf("%s, again: tmp is still there", what)
		}
		if t.Failed() {
			t.FailNow()
		}
	}
}

// wantEveryFuel has the power go at every step.
func (p putting) wantEveryFuel(t *testing.T, r dice) {
	t.Helper()
	after, steps := p.done(t)
	for fuel := int64(0); fuel <= steps+1; fuel++ {
		d := p.with(p.need(t), fuel)
		got := p.do(d)
		what := fmt.Sprint(p.what, ", fuel ", fuel, " of ", steps)
		wantRestoreRes(t, what, got, p.model(d))
		if lost := got.Err == impl.RsLost; lost != (fuel < steps) || lost != got.Disk.Dead || !lost && got.Err != impl.RsOk || got.At != 0 {
			t.Errorf("%s: Err %d at %d, dead %v", what, got.Err, got.At, got.Disk.Dead)
		}
		p.wantCrashed(t, what, r, got, after)
		if t.Failed() {
			t.FailNow()
		}
	}
}

// wantEveryRoom has just as much room as is taken, one page less, and less still, down to what is on the disk.
func (p putting) wantEveryRoom(t *testing.T, r dice) {
	t.Helper()
	after, steps := p.done(t)
	need := p.need(t)
	for room := need + 1; room >= modelTotal(p.disk.Files); room-- {
		d := p.with(room, r.pick(-1, impl.FuelMax, steps))
		got := p.do(d)
		what := fmt.Sprint(p.what, ", room for ", room, " of ", need)
		wantRestoreRes(t, what, got, p.model(d))
		if full := got.Err == impl.RsFull; full != (room < need) || !full && got.Err != impl.RsOk || got.At != 0 || got.Disk.Dead {
			t.Errorf("%s: Err %d at %d, dead %v", what, got.Err, got.At, got.Disk.Dead)
		}
		p.wantCrashed(t, what, r, got, after)
		if t.Failed() {
			t.FailNow()
		}
	}
}

// puttings draws a chain or a store, beside files that are there or not.
func (r dice) puttings(t *testing.T, what string) []putting {
	t.Helper()
	keys := r.keys(2 + r.Intn(7))
	var v saved
	if r.Intn(2) == 0 {
		v = r.pinnedChain(t, keys, 1+r.Intn(4))
	} else {
		v = r.rollingChain(t, keys, 2+r.Intn(4))
	}
	d := impl.DiskNew(impl.CapMax)
	for _, name := range []string{"a", "tmp", "x", "zz"} {
		if r.Intn(2) == 0 {
			d = withFile(d, fileOf(name, r.page()[:1+r.Intn(4)]...))
		}
	}
	source := impl.SyncDisk(r.lived(t, impl.CapMax, 40, keys).Disk).Disk
	for _, f := range d.Files {
		source = withFile(source, f)
	}
	return []putting{
		restoring(what+", restored", d, "x", v.chain), restoring(what+", restored beside a store", source, "x", v.chain), restoring(what+", restored over a store", source, "f", v.chain),
		compacting(what+", compacted", source, "f", "x"), compacting(what+", compacted onto itself", source, "f", "f"),
	}
}

func TestPowerWhilePutting(t *testing.T) {
	withTmp, withName := 0, 0
	for seed := range int64(10) {
		r := newDice(1200 + seed)
		for _, p := range r.puttings(t, fmt.Sprint("seed ", seed)) {
			p.wantEveryFuel(t, r)
			if modelFind(p.disk.Files, "tmp") >= 0 {
				withTmp++
			}
			if modelFind(p.disk.Files, p.name) >= 0 {
				withName++
			}
		}
	}
	if withTmp < 10 || withName < 10 {
		t.Errorf("a file tmp only %d times, the file itself %d times", withTmp, withName)
	}
}

func TestRoomWhilePutting(t *testing.T) {
	for seed := range int64(10) {
		r := newDice(1230 + seed)
		for _, p := range r.puttings(t, fmt.Sprint("seed ", seed)) {
			p.wantEveryRoom(t, r)
		}
	}
}

// Small ones, at every step, with every choice that a crash has.
func TestEveryCrashWhilePutting(t *testing.T) {
	one, two := sheaf{2: lettersLeaf("ab")}, sheaf{3: lettersLeaf("ab")}
	store := run(t, created(t, 90), "b +a c b +b c").Disk
	for _, p := range []putting{
		restoring("a leaf", impl.DiskNew(90), "x", blobs(one.text(1, 0, 2))), restoring("a leaf over a file", xDisk(), "x", blobs(one.text(2, 0, 2))), restoring("a leaf beside tmp", withFile(xDisk(), fileOf("tmp", 7, 8)), "x", blobs(one.text(1, 0, 2))),
		restoring("a gap", xDisk(), "b", blobs(two.text(1, 0, 3))), compacting("a store", store, "f", "g"), compacting("a store onto itself", withFile(store, fileOf("tmp", 7)), "f", "f"),
	} {
		after, steps := p.done(t)
		for fuel := range steps {
			got := p.do(p.with(impl.CapMax, fuel))
			for _, c := range everyCrash(len(got.Disk.Cache), []int64{0, 1, 64, 127, 128}) {
				what := fmt.Sprintf("%s, fuel %d, %v", p.what, fuel, c)
				left := impl.CrashDisk(got.Disk, c)
				p.wantAllFiles(t, what, left, p.disk)
				left.Cap = impl.CapMax
				p.wantAllFiles(t, what+", again", p.do(left).Disk, after)
				if t.Failed() {
					t.FailNow()
				}
			}
		}
	}
}

// A power that goes again and again, each time a few steps later or not: in the end the file is there.
func TestPowerGoesAgainWhilePutting(t *testing.T) {
	for seed := range int64(12) {
		r := newDice(1260 + seed)
		for _, p := range r.puttings(t, fmt.Sprint("seed ", seed)) {
			after, steps := p.done(t)
			d := p.disk
			for try := 0; ; try++ {
				d.Cap, d.Fuel = impl.CapMax, r.Int63n(steps+2)
				got := p.do(d)
				if got.Err == impl.RsOk {
					p.wantAllFiles(t, p.what, got.Disk, after)
					break
				}
				if got.Err != impl.RsLost || try > 10000 {
					t.Fatalf("%s: Err %d, try %d", p.what, got.Err, try)
				}
				d = impl.CrashDisk(got.Disk, r.crash(got.Disk))
				p.wantAllFiles(t, p.what, d, p.disk)
			}
		}
	}
}

// wantSteps asks what is on the disk behind so many steps: first tmp goes, then it grows page by page in the cache, then it is durable, then it has its name.
func wantSteps(t *testing.T, p putting, file []byte) {
	t.Helper()
	pages := slices.Collect(slices.Chunk(file, impl.PageBytes))
	bare := slices.DeleteFunc(modelCopy(p.disk.Files), func(f impl.File) bool { return f.Name == "tmp" })
	var want []impl.Disk
	if len(bare) < len(p.disk.Files) {
		want = append(want, p.disk)
	}
	for n := range len(pages) + 1 {
		d := impl.Disk{Files: bare, Cap: p.disk.Cap}
		for i, b := range pages[:n] {
			d.Cache = append(d.Cache, impl.Pend{Name: "tmp", Page: int64(i), Data: b})
		}
		want = append(want, d)
	}
	synced := withFile(impl.Disk{Files: bare, Cap: p.disk.Cap}, impl.File{Name: "tmp", Data: file})
	named := impl.Disk{Files: slices.DeleteFunc(modelCopy(bare), func(f impl.File) bool { return f.Name == p.name }), Cap: p.disk.Cap}
	want = append(want, synced, withFile(named, impl.File{Name: p.name, Data: file}))
	for fuel, d := range want {
		err := int64(impl.RsOk)
		d.Fuel = 0
		if d.Dead = fuel < len(want)-1; d.Dead {
			err = impl.RsLost
		}
		wantRestoreRes(t, fmt.Sprint(p.what, ", fuel ", fuel), p.do(p.with(p.disk.Cap, int64(fuel))), impl.RestoreRes{Err: err, Disk: d})
	}
	last := want[len(want)-1]
	last.Fuel = 5
	wantRestoreRes(t, p.what+", more fuel", p.do(p.with(p.disk.Cap, int64(len(want))+4)), impl.RestoreRes{Disk: last})
	last.Fuel = -1
	wantRestoreRes(t, p.what+", fuel without end", p.do(p.with(p.disk.Cap, -1)), impl.RestoreRes{Disk: last})
}

func TestStepsOfPutting(t *testing.T) {
	s := deepSheaf().moved(3, 12)
	even := putData(s.stampedAll(6).codes(), 6, impl.Meta{Id: 7, Root: 12, Count: 8})
	odd := putData(s.stampedAll(7).codes(), 7, impl.Meta{Id: 7, Root: 12, Count: 8})
	store := run(t, created(t, 90), "b +a *b +c +d +e c b -c c").Disk
	// Four pairs are left, in one leaf behind the two pages of a long value.
	small := impl.Place(impl.TreeBulk([]impl.Pair{{Key: "a", Val: shortVal("a")}, {Key: "b", Val: longVal("b")}, {Key: "d", Val: shortVal("d")}, {Key: "e", Val: shortVal("e")}}), 3, nil)
	c := codes{}
	for i, num := range small.Nums {
		c[num] = modelNew(small.Pages[i])
	}
	compact := putData(c, 3, impl.Meta{Id: 7, Root: 4, Count: 4})
	wantTree(t, "compact", small.Tree, draw("ab^2de:4"))
	for _, base := range []impl.Disk{impl.DiskNew(90), xDisk(), withFile(xDisk(), fileOf("tmp", 9)), withFile(impl.DiskNew(60), fileOf("tmp", 9, 8, 7, 6))} {
		wantSteps(t, restoring("even", base, "x", blobs(s.stampedAll(6).text(6, 0, 12))), even)
		wantSteps(t, restoring("odd", base, "x", blobs(s.stampedAll(7).text(7, 0, 12))), odd)
		d := store
		for _, f := range base.Files {
			d = withFile(d, f)
		}
		wantSteps(t, compacting("compact", d, "f", "x"), compact)
		wantSteps(t, compacting("compact onto itself", d, "f", "f"), compact)
	}
}

// Files, not pages, may be what there is no room for; and whichever of fuel and room ends first is told.
func TestWhatEndsFirst(t *testing.T) {
	chain := blobs(sheaf{2: lettersLeaf("ab")}.text(1, 0, 2))
	many := impl.Disk{Files: manyFiles(impl.FileMax), Cap: 90, Fuel: -1}
	got := impl.Restore(many, "a", chain)
	wantRestoreRes(t, "FileMax files", got, impl.RestoreRes{Err: impl.RsFull, Disk: many})
	fewer := impl.Disk{Files: manyFiles(impl.FileMax - 1), Cap: 90, Fuel: -1}
	wantRestoreRes(t, "one file fewer", impl.Restore(fewer, "zz", chain), modelRestore(fewer, "zz", chain))
	if got := impl.Restore(fewer, "zz", chain); got.Err != impl.RsOk || len(got.Disk.Files) != impl.FileMax {
		t.Errorf("one file fewer: Err %d", got.Err)
	}
	// A tmp among FileMax files makes room for itself.
	if got := impl.Restore(withFile(fewer, fileOf("tmp", 1)), "zz", chain); got.Err != impl.RsOk || len(got.Disk.Files) != impl.FileMax {
		t.Errorf("tmp among FileMax files: Err %d", got.Err)
	}
	for room := int64(0); room <= 4; room++ {
		for fuel := int64(-1); fuel <= 6; fuel++ {
			d := impl.Disk{Cap: room, Fuel: fuel}
			err := int64(impl.RsOk)
			switch {
			case room < 3 && (fuel < 0 || fuel >= room):
				err = impl.RsFull
			case fuel >= 0 && fuel < 5:
				err = impl.RsLost
			}
			got := impl.Restore(d, "x", chain)
			if got.Err != err {
				t.Errorf("room %d fuel %d: Err %d, want %d", room, fuel, got.Err, err)
			}
			wantRestoreRes(t, fmt.Sprint("room ", room, " fuel ", fuel), got, modelRestore(d, "x", chain))
		}
	}
	// What a full disk leaves has writes in its cache, so nothing is put there until they are synced or lost.
	full := impl.Restore(impl.DiskNew(2), "x", chain).Disk
	wantRestoreRes(t, "on a full disk again", impl.Restore(full, "x", chain), impl.RestoreRes{Err: impl.RsDisk, Disk: full})
	wantRestoreRes(t, "on a dead disk again", impl.Restore(impl.Disk{Cap: 9, Dead: true}, "x", chain), impl.RestoreRes{Err: impl.RsDisk, Disk: impl.Disk{Cap: 9, Dead: true}})
	synced := impl.SyncDisk(full).Disk
	synced.Cap = 3
	wantRestored(t, "when it is synced", impl.Restore(synced, "x", chain), "x", 1, lettered("ab"))
}
