package tests

import (
	"fmt"
	"slices"
	"strings"
	"testing"

	"loop.example/s02098/impl"
)

// converting is a file on a disk, old or new, with what it holds.
type converting struct {
	what string
	disk impl.Disk
	name string
	held impl.MapRes
}

func convertingOf(t *testing.T, what string, d impl.Disk, name string) converting {
	t.Helper()
	held := modelAny(d, name)
	if held.Version != 1 {
		t.Fatalf("%s: the test is wrong: version %d", what, held.Version)
	}
	return converting{what, d, name, held}
}

// wantHeld asks for the same Id and pairs, as the file is now, and for all other files as they were.
func (c converting) wantHeld(t *testing.T, what string, d impl.Disk) {
	t.Helper()
	got := impl.ReadAny(d, c.name)
	if got.Version < 1 || got.Version > 2 || got.Id != c.held.Id || !slices.Equal(got.Pairs, c.held.Pairs) {
		t.Fatalf("%s: version %d, id %d, %d pairs, want id %d, %d pairs: %s", what, got.Version, got.Id, len(got.Pairs), c.held.Id, len(c.held.Pairs), tell(d))
	}
	c.wantOthers(t, what, d)
}

func (c converting) wantOthers(t *testing.T, what string, d impl.Disk) {
	t.Helper()
	for _, f := range append(slices.Clone(c.disk.Files), d.Files...) {
		if f.Name != c.name && f.Name != "new" && f.Name != "log" {
			wantFile(t, what, d, f.Name, c.disk)
		}
	}
}

// wantDone asks for Version 2, for no file new or log, and for nothing in the cache.
func (c converting) wantDone(t *testing.T, what string, d impl.Disk) {
	t.Helper()
	c.wantHeld(t, what, d)
	if v := impl.ReadAny(d, c.name).Version; v != 2 || len(d.Cache) > 0 || modelFind(d.Files, "new") >= 0 || modelFind(d.Files, "log") >= 0 {
		t.Fatalf("%s: done, but version %d: %s", what, v, tell(d))
	}
}

// wantAnswer looks at what a run of Migrate leaves, whatever it answers.
func (c converting) wantAnswer(t *testing.T, what string, before impl.Disk, got impl.RestoreRes) {
	t.Helper()
	wantRestoreRes(t, what, got, modelMigrate(before, c.name))
	c.wantHeld(t, what, got.Disk)
	if got.Err == impl.MgOk {
		c.wantDone(t, what, got.Disk)
	}
	if got.Disk.Dead != (got.Err == impl.MgLost) || got.Err == impl.MgBad {
		t.Errorf("%s: Err %d, dead %v", what, got.Err, got.Disk.Dead)
	}
	if t.Failed() {
		t.FailNow()
	}
}

// steps is the number that a run takes from here.
func (c converting) steps(t *testing.T, d impl.Disk) int64 {
	t.Helper()
	d.Fuel = impl.FuelMax
	got := impl.Migrate(d, c.name)
	if got.Err != impl.MgOk {
		t.Fatalf("%s: Err %d", c.what, got.Err)
	}
	return impl.FuelMax - got.Disk.Fuel
}

// wantEveryFuel has the power go at every step of a run from here, with drawn choices of what is kept; it gives one of the disks that each leaves.
func (c converting) wantEveryFuel(t *testing.T, what string, r dice, d impl.Disk) []impl.Disk {
	t.Helper()
	var out []impl.Disk
	steps := c.steps(t, d)
	for fuel := int64(0); fuel <= steps+1; fuel++ {
		d.Fuel = fuel
		got := impl.Migrate(d, c.name)
		what := fmt.Sprint(what, ", fuel ", fuel, " of ", steps)
		c.wantAnswer(t, what, d, got)
		if (got.Err == impl.MgOk) != (fuel >= steps) {
			t.Fatalf("%s: Err %d", what, got.Err)
		}
		crashes := r.crashes(got.Disk)
		for _, crash := range crashes {
			c.wantHeld(t, fmt.Sprintf("%s, %v", what, crash), impl.CrashDisk(got.Disk, crash))
		}
		out = append(out, impl.CrashDisk(got.Disk, crashes[r.Intn(len(crashes))]))
	}
	return out
}

// old draws a file of the old format: one that WriteOld makes, or a tree that stands anywhere. Between and behind its pages stand others that nobody asks for, some of which do not decode.
func (r dice) old(count int) codes {
	if r.Intn(3) == 0 {
		file := impl.WriteOld(impl.DiskNew(impl.CapMax), "x", r.big(), r.pairs(count)).Disk.Files[0]
		c := codes{}
		for num, b := range slices.Collect(slices.Chunk(file.Data, impl.PageBytes)) {
			c[int64(num)] = b
		}
		return r.littered(c, int64(len(c)+r.Intn(6)))
	}
	placed := r.anywhere(count)
	s := sheaf{0: metaPage(r.big(), placed.Tree.Nodes[0].Page-1, int64(count))}
	last := int64(0)
	for i, num := range placed.Nums {
		s[num-1] = shifted(stamped(placed.Pages[i], 0), -1)
		last = max(last, num)
	}
	return r.littered(s.old(), last+int64(r.Intn(6)))
}

// littered has something on each page up to an end.
func (r dice) littered(c codes, end int64) codes {
	for num := range end {
		if c[num] != nil {
			continue
		}
		switch r.Intn(5) {
		case 0:
			c[num] = pageOf(0)
		case 1:
			c[num] = r.page()
		case 2:
			c[num] = modelNew(stamped(r.treePage(), r.big()))
		case 3:
			c[num] = changedAt(modelOld(r.treePage()), r.Intn(128), byte(r.Intn(256)))
		default:
			c[num] = modelOld(r.treePage())
		}
	}
	return c
}

// converting draws an old file that is short enough for what is to come, beside other files.
func (r dice) converting(t *testing.T, what string, most int) converting {
	t.Helper()
	for {
		c := r.old(int(r.pick(0, 1, 2, 4, 5, 7, 12)))
		if len(c) > most {
			continue
		}
		d := withFile(impl.DiskNew(impl.CapMax), impl.File{Name: "x", Data: c.data()})
		for _, name := range []string{"a", "log", "new", "zz"} {
			if r.Intn(3) == 0 {
				d = withFile(d, fileOf(name, r.page()[:1+r.Intn(4)]...))
			}
		}
		// What nobody asks for may by chance be the meta of a new file, but no tree.
		return convertingOf(t, what, d, "x")
	}
}

// Drawn files, the power gone at every step: and in each of the next runs again.
func TestPowerWhileConverting(t *testing.T) {
	lengths := map[bool]int{}
	for seed := range int64(50) {
		r := newDice(2200 + seed)
		c := r.converting(t, fmt.Sprint("seed ", seed), 40)
		lengths[impl.PageCount(c.disk, "x") > 6]++
		d := c.disk
		for round := range 4 {
			left := c.wantEveryFuel(t, fmt.Sprint(c.what, ", run ", round), r, d)
			d = left[r.Intn(len(left))]
		}
		c.wantDone(t, c.what, impl.Migrate(d, "x").Disk)
	}
	if lengths[true] < 10 || lengths[false] < 10 {
		t.Errorf("%d long files, %d short ones", lengths[true], lengths[false])
	}
}

// Every fuel of a run, and behind each of them every fuel of a second one.
func TestPowerGoesTwiceWhileConverting(t *testing.T) {
	for seed := range int64(8) {
		r := newDice(2270 + seed)
		c := r.converting(t, fmt.Sprint("seed ", seed), 14)
		for fuel, d := range c.wantEveryFuel(t, c.what, r, c.disk) {
			for again, left := range c.wantEveryFuel(t, fmt.Sprint(c.what, ", behind fuel ", fuel), r, d) {
				c.wantDone(t, fmt.Sprint(c.what, ", behind fuel ", fuel, " and ", again), impl.Migrate(left, "x").Disk)
			}
		}
	}
}

// A power that goes again and again, each time after a few steps: a file that is long enough is converted piece by piece, though no run gets through it.
func TestPowerGoesAgainWhileConverting(t *testing.T) {
	for seed := range int64(30) {
		r := newDice(2300 + seed)
		c := r.converting(t, fmt.Sprint("seed ", seed), 100)
		d := c.disk
		for try := 0; ; try++ {
			d.Fuel = r.Int63n(13)
			got := impl.Migrate(d, "x")
			c.wantAnswer(t, fmt.Sprint(c.what, " try ", try), d, got)
			if got.Err == impl.MgOk {
				break
			}
			if try > 10000 {
				t.Fatalf("%s: there is no end", c.what)
			}
			d = impl.CrashDisk(got.Disk, r.crash(got.Disk))
			c.wantHeld(t, fmt.Sprint(c.what, " try ", try, ", crashed"), d)
		}
	}
}

// keyOfDisk tells durable disks apart.
func keyOfDisk(d impl.Disk) string {
	var b strings.Builder
	for _, f := range d.Files {
		fmt.Fprintf(&b, "%s %d %s", f.Name, len(f.Data), f.Data)
	}
	return b.String()
}

// crashesOf has every choice of kept writes, with none torn and with each torn at some places; of a log alone, at every place.
func crashesOf(d impl.Disk, at []int64) []impl.Crash {
	if len(d.Cache) == 1 && d.Cache[0].Name == "log" {
		return everyCrash(1, everyPlace())
	}
	return everyCrash(len(d.Cache), at)
}

// wantEveryState goes to all disks that any list of runs may leave, and from each of them to the end.
func (c converting) wantEveryState(t *testing.T, at ...int64) int {
	t.Helper()
	seen := map[string]int{keyOfDisk(c.disk): 0}
	for list := []impl.Disk{c.disk}; len(list) > 0; {
		d := list[len(list)-1]
		list = list[:len(list)-1]
		what := fmt.Sprint(c.what, ", state ", seen[keyOfDisk(d)])
		c.wantHeld(t, what, d)
		for fuel := int64(0); ; fuel++ {
			d.Fuel = fuel
			got := impl.Migrate(d, c.name)
			c.wantHeld(t, fmt.Sprint(what, ", fuel ", fuel), got.Disk)
			for _, crash := range crashesOf(got.Disk, at) {
				left := impl.CrashDisk(got.Disk, crash)
				if _, there := seen[keyOfDisk(left)]; !there {
					seen[keyOfDisk(left)] = len(seen)
					list = append(list, left)
				}
			}
			if got.Err == impl.MgOk {
				c.wantDone(t, fmt.Sprint(what, ", fuel ", fuel), got.Disk)
				break
			}
		}
		if t.Failed() {
			t.FailNow()
		}
	}
	return len(seen)
}

// Small files: every disk that any list of runs can leave, with every choice of kept writes.
func TestEveryStateOfAConversion(t *testing.T) {
	states := 0
	for _, n := range []int64{2, 3, 4, 5} {
		states += convertingOf(t, fmt.Sprint(n, " pages"), oldDisk(fillers(n)), "x").wantEveryState(t, 8, 64, 124)
	}
	for _, n := range []int64{7, 8} {
		states += convertingOf(t, fmt.Sprint(n, " pages"), oldDisk(fillers(n)), "x").wantEveryState(t, 64)
	}
	d := withFile(impl.DiskNew(90), impl.File{Name: "x", Data: smallOld().old().with(4, pageOf(8)).data()})
	states += convertingOf(t, "a page that does not decode, beside files of nobody", theirs(d, "new log"), "x").wantEveryState(t, 64)
	if states < 300 {
		t.Errorf("only %d states", states)
	}
}

// Two files in turn, with one pair of files new and log between them.
func TestTwoConversionsInTurn(t *testing.T) {
	for seed := range int64(30) {
		r := newDice(2340 + seed)
		first := r.converting(t, fmt.Sprint("seed ", seed), 25)
		d := withFile(first.disk, impl.File{Name: "y", Data: r.old(int(r.pick(0, 3, 6))).data()})
		list := []converting{convertingOf(t, first.what+", x", d, "x"), convertingOf(t, first.what+", y", d, "y")}
		for try := 0; ; try++ {
			c := list[r.Intn(2)]
			d.Fuel = r.Int63n(30)
			got := impl.Migrate(d, c.name)
			what := fmt.Sprint(c.what, " try ", try)
			wantRestoreRes(t, what, got, modelMigrate(d, c.name))
			d = impl.CrashDisk(got.Disk, r.crash(got.Disk))
			for _, c := range list {
				for _, now := range []impl.Disk{got.Disk, d} {
					if v := impl.ReadAny(now, c.name); v.Version == 0 || v.Id != c.held.Id || !slices.Equal(v.Pairs, c.held.Pairs) {
						t.Fatalf("%s: %s has version %d, %d pairs", what, c.name, v.Version, len(v.Pairs))
					}
				}
			}
			if t.Failed() {
				t.FailNow()
			}
			if impl.ReadAny(d, "x").Version == 2 && impl.ReadAny(d, "y").Version == 2 || try > 3000 {
				break
			}
		}
		for _, name := range []string{"x", "y"} {
			if v := impl.ReadAny(d, name).Version; v != 2 {
				t.Errorf("seed %d: %s is not converted", seed, name)
			}
		}
	}
}

// need is the least room in which a run from this disk gets through.
func (c converting) need(d impl.Disk) int64 {
	for room := modelTotal(d.Files); ; room++ {
		d.Cap, d.Fuel = room, -1
		if modelMigrate(d, c.name).Err == impl.MgOk {
			return room
		}
	}
}

// Just as much room as is taken, one page less, and less still: what is full keeps the file, and goes on when there is room.
func TestRoomWhileConverting(t *testing.T) {
	for seed := range int64(30) {
		r := newDice(2380 + seed)
		c := r.converting(t, fmt.Sprint("seed ", seed), 25)
		d := c.disk
		// Now and then one that was broken off before.
		if r.Intn(2) == 0 {
			d.Fuel = r.Int63n(c.steps(t, d))
			lost := impl.Migrate(d, "x").Disk
			d = impl.CrashDisk(lost, r.crash(lost))
		}
		need, steps := c.need(d), c.steps(t, d)
		for room := need + 1; room >= modelTotal(d.Files); room-- {
			d.Cap, d.Fuel = room, r.pick(-1, impl.FuelMax, steps)
			what := fmt.Sprint(c.what, ", room for ", room, " of ", need)
			got := impl.Migrate(d, "x")
			c.wantAnswer(t, what, d, got)
			if full := got.Err == impl.MgFull; full != (room < need) {
				t.Fatalf("%s: Err %d", what, got.Err)
			}
			for _, crash := range append(r.crashes(got.Disk), impl.Crash{Keep: slices.Repeat([]bool{true}, 9), Tear: -1}) {
				left := impl.CrashDisk(got.Disk, crash)
				c.wantHeld(t, what+", crashed", left)
				again := impl.Migrate(left, "x")
				c.wantAnswer(t, what+", again", left, again)
				left.Cap = impl.CapMax
				c.wantDone(t, what+", with room", impl.Migrate(left, "x").Disk)
			}
		}
	}
	// Without other files: the old one, the new one, and a log from four pages on.
	for n := range conversions {
		c := convertingOf(t, fmt.Sprint(n, " pages"), withFile(impl.DiskNew(90), impl.File{Name: "x", Data: fillers(n).old().data()}), "x")
		want := n + n + 1
		if n >= 4 {
			want++
		}
		if got := c.need(c.disk); got != want {
			t.Errorf("%d pages: room for %d is needed, want %d", n, got, want)
		}
	}
}

// Files, not pages, may be what there is no room for.
func TestFilesWhileConverting(t *testing.T) {
	for _, n := range []int64{2, 3, 4, 8} {
		file := impl.File{Name: "x", Data: fillers(n).old().data()}
		for others := impl.FileMax - 4; others < impl.FileMax; others++ {
			d := withFile(impl.Disk{Files: manyFiles(others), Cap: 90, Fuel: -1}, file)
			c := convertingOf(t, fmt.Sprint(n, " pages beside ", others, " files"), d, "x")
			got := impl.Migrate(d, "x")
			c.wantAnswer(t, c.what, d, got)
			files := others + 2
			if n >= 4 {
				files++
			}
			if full := got.Err == impl.MgFull; full != (files > impl.FileMax) {
				t.Errorf("%s: Err %d", c.what, got.Err)
			}
		}
		// The files new and log, when they are among FileMax, make room for themselves.
		d := theirs(withFile(impl.Disk{Files: manyFiles(impl.FileMax - 3), Cap: 90, Fuel: -1}, file), "new log")
		c := convertingOf(t, fmt.Sprint(n, " pages beside new and log"), d, "x")
		c.wantDone(t, c.what, impl.Migrate(d, "x").Disk)
	}
	// A full disk is left with writes in its cache, so nothing is converted there until they are synced or lost.
	d := withFile(impl.Disk{Cap: 8, Fuel: -1}, impl.File{Name: "x", Data: fillers(4).old().data()})
	full := impl.Migrate(d, "x")
	if full.Err != impl.MgFull || len(full.Disk.Cache) != 4 {
		t.Errorf("Err %d, %d writes", full.Err, len(full.Disk.Cache))
	}
	wantBad(t, "on a full disk again", impl.Migrate(full.Disk, "x"), full.Disk)
	synced := impl.SyncDisk(full.Disk).Disk
	synced.Cap = 10
	wantConversion(t, "when it is synced", synced, "x", "-new "+conversions[4])
}
