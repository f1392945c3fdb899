package tests

import (
	"fmt"
	"maps"
	"slices"
	"testing"

	"loop.example/s02098/impl"
)

// misfit is a list of pairs in which something may be wrong.
func (r dice) misfit(pairs []impl.Pair) []impl.Pair {
	if len(pairs) == 0 {
		return []impl.Pair{{}}
	}
	at, other := r.Intn(len(pairs)), r.Intn(len(pairs))
	switch r.Intn(4) {
	case 0:
		pairs[at].Key = r.text(0, impl.KeyMax+1)
	case 1:
		pairs[at].Val = r.text(impl.ValMax, impl.ValMax+1)
	case 2:
		pairs[at], pairs[other] = pairs[other], pairs[at]
	case 3:
		pairs[at].Key = pairs[other].Key
	}
	return pairs
}

// Drawn disks and pairs, and what is one step beside them: every answer is the model's, to the last byte of the disk.
func TestWriteOldIsTheModel(t *testing.T) {
	counts := map[int64]int{}
	for seed := range int64(2500) {
		r := newDice(20000 + seed)
		pairs := r.pairs(int(r.pick(0, 1, 2, 4, 5, 7, 15)))
		if r.Intn(6) == 0 {
			pairs = r.misfit(pairs)
		}
		d := r.disk()
		if r.Intn(6) > 0 {
			d.Cache, d.Dead = nil, false
		}
		if r.Intn(2) == 0 {
			d.Cap, d.Fuel = r.pick(modelTotal(d.Files), 40, impl.CapMax), r.pick(-1, r.Int63n(12))
		}
		if r.Intn(10) == 0 {
			d = r.spoilt(d)
		}
		name, id := r.name(), r.pick(r.big(), r.big(), r.big(), r.big(), 0, -1, impl.NumMax+1)
		got := impl.WriteOld(d, name, id, pairs)
		wantRestoreRes(t, fmt.Sprint("seed ", seed), got, modelWriteOld(d, name, id, pairs))
		if got.Err == impl.MgOk {
			wantMap(t, fmt.Sprint("seed ", seed), got.Disk, name, impl.MapRes{Version: 1, Id: id, Pairs: pairs})
		}
		if t.Failed() {
			t.Fatalf("seed %d: %q, id %d, %d pairs at %s", seed, name, id, len(pairs), tell(d))
		}
		counts[got.Err]++
	}
	for err := int64(impl.MgOk); err <= impl.MgLost; err++ {
		if counts[err] < 100 {
			t.Errorf("Err %d only %d times", err, counts[err])
		}
	}
}

// anyFile draws a file of either format, of both, or one that is nearly so.
func (r dice) anyFile() codes {
	count := int(r.pick(0, 1, 2, 4, 5, 9))
	placed := r.anywhere(count)
	root := placed.Tree.Nodes[0].Page
	s := sheaf{}
	for i, num := range placed.Nums {
		s[num] = placed.Pages[i]
	}
	if r.Intn(3) == 0 {
		s = r.spoiltSheaf(s)
	}
	told := int64(count) + r.pick(0, 0, 0, 0, 0, 1, -1, 100)
	if told < 0 {
		told = 0
	}
	var c codes
	switch r.Intn(5) {
	case 0:
		c = s.withMeta(r.big(), root, told).codes()
	case 1:
		c = r.old(count)
		// A new file laid over an old one; either of them may lose a page to the other.
		maps.Copy(c, s.withMeta(1+2*r.Int63n(5), root, told).codes())
	default:
		c = r.littered(s.backdated(root, told).old(), r.Int63n(50))
	}
	for range r.Intn(3) / 2 {
		nums := slices.Sorted(maps.Keys(c))
		num := nums[r.Intn(len(nums))]
		c[num] = changedAt(c[num], r.Intn(128), byte(r.Intn(256)))
	}
	return c
}

func TestReadIsTheModel(t *testing.T) {
	counts := map[int64]int{}
	for seed := range int64(1500) {
		r := newDice(23000 + seed)
		d := r.scattered(r.anyFile().data())
		d.Dead, d.Fuel = r.Intn(4) == 0, r.pick(-1, 0, 5)
		if r.Intn(15) == 0 {
			d = r.spoilt(d)
		}
		for _, name := range []string{"f", r.name()} {
			got, want := impl.ReadAny(d, name), modelAny(d, name)
			if !sameMap(got, want) {
				t.Fatalf("seed %d, %q: version %d, id %d, %d pairs, want %d, %d, %d", seed, name, got.Version, got.Id, len(got.Pairs), want.Version, want.Id, len(want.Pairs))
			}
			if name == "f" {
				counts[got.Version]++
			}
		}
	}
	for version := range int64(3) {
		if counts[version] < 150 {
			t.Errorf("version %d only %d times", version, counts[version])
		}
	}
}

// log draws a log and a new that may belong to a file.
func (r dice) log(d impl.Disk, name string) impl.Disk {
	file := fileData(d, name)
	n := int64(len(file) / impl.PageBytes)
	k := r.pick(3, 6, 1, 2, n-1, n, 0, r.Int63n(n+1))
	owner := name
	if r.Intn(8) == 0 {
		owner, file = "other", file[:r.Intn(len(file))]
	}
	log := logPage(owner, file, k)
	switch r.Intn(10) {
	case 0:
		log = changedAt(log, int(r.pick(r.Int63n(16), 126, 127, r.Int63n(128))), byte(r.pick(0, 1, 3, 6, 255)))
	case 1:
		log = append(logPage(owner, file, r.pick(k, k+3))[:r.Intn(128)], log...)[:128]
	}
	if r.Intn(8) > 0 {
		d = withFile(d, impl.File{Name: "log", Data: append(log, r.page()[:128*r.Intn(2)]...)})
	}
	if pages := k + r.pick(2, 2, 2, 3, 5, 1, 0); pages > 0 {
		d = withFile(d, fileOf("new", slices.Repeat(r.page()[:1], int(pages))...))
	}
	return d
}

func TestMigrateIsTheModel(t *testing.T) {
	counts := map[int64]int{}
	logs := map[bool]int{}
	for seed := range int64(1000) {
		r := newDice(25000 + seed)
		d := withFile(impl.DiskNew(impl.CapMax), impl.File{Name: "f", Data: r.anyFile().data()})
		for range r.Intn(3) {
			if name := r.name(); modelName(name) && modelFind(d.Files, name) < 0 {
				d = withFile(d, fileOf(name, r.page()[:1+r.Intn(3)]...))
			}
		}
		if r.Intn(2) == 0 {
			d = r.log(without(d, "new", "log"), "f")
		}
		total := modelTotal(d.Files)
		for round := range 8 {
			now := d
			now.Cap = max(total, min(impl.CapMax, r.pick(impl.CapMax, total+r.Int63n(60))))
			now.Fuel = r.pick(-1, r.Int63n(15), r.Int63n(60))
			switch r.Intn(20) {
			case 0:
				now.Dead = true
			case 1:
				now.Cache = []impl.Pend{pendOf("f", 1, 1)}
			case 2:
				now = r.spoilt(now)
			}
			name := []string{"f", "f", "f", "f", "f", "f", "f", "new", "log", r.name()}[r.Intn(10)]
			got := impl.Migrate(now, name)
			wantRestoreRes(t, fmt.Sprint("seed ", seed, " round ", round), got, modelMigrate(now, name))
			if t.Failed() {
				t.Fatalf("seed %d round %d: %q at %s", seed, round, name, tell(now))
			}
			counts[got.Err]++
			if got.Err != impl.MgBad && modelAny(now, name).Version == 1 {
				logs[modelLogged(now, name) > 0]++
			}
		}
	}
	for err := int64(impl.MgOk); err <= impl.MgLost; err++ {
		if counts[err] < 150 {
			t.Errorf("Err %d only %d times", err, counts[err])
		}
	}
	if logs[true] < 200 || logs[false] < 200 {
		t.Errorf("gone on with %d times, begun %d times", logs[true], logs[false])
	}
}
