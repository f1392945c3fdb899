package tests

import (
	"bytes"
	"fmt"
	"math/rand"
	"sort"
	"testing"

	"loop.example/s02098/impl"
)

// The model: the words of the document once more, in lists instead of maps and with no thought of speed.

func modelName(s string) bool {
	for _, c := range []byte(s) {
		if c < 'a' || c > 'z' {
			return false
		}
	}
	return len(s) >= 1 && len(s) <= impl.NameMax
}

func modelFind(files []impl.File, name string) int {
	for i := range files {
		if files[i].Name == name {
			return i
		}
	}
	return -1
}

func modelPages(files []impl.File, name string) int64 {
	if i := modelFind(files, name); i >= 0 {
		return int64(len(files[i].Data) / impl.PageBytes)
	}
	return 0
}

// modelPut writes into files that belong to the model.
func modelPut(files []impl.File, p impl.Pend, count int) []impl.File {
	i := modelFind(files, p.Name)
	if i < 0 {
		files = append(files, impl.File{Name: p.Name})
		sort.Slice(files, func(a, b int) bool { return files[a].Name < files[b].Name })
		i = modelFind(files, p.Name)
	}
	for int64(len(files[i].Data)) < (p.Page+1)*impl.PageBytes {
		files[i].Data = append(files[i].Data, 0)
	}
	copy(files[i].Data[p.Page*impl.PageBytes:], p.Data[:count])
	return files
}

func modelCopy(files []impl.File) []impl.File {
	var out []impl.File
	for _, f := range files {
		out = append(out, impl.File{Name: f.Name, Data: bytes.Clone(f.Data)})
	}
	return out
}

// modelSeen gives what is seen, and whether the disk is valid.
func modelSeen(d impl.Disk) ([]impl.File, bool) {
	if len(d.Files) > impl.FileMax || len(d.Cache) > impl.CacheMax || d.Cap < 0 || d.Cap > impl.CapMax || d.Fuel < -1 || d.Fuel > impl.FuelMax {
		return nil, false
	}
	for i, f := range d.Files {
		if !modelName(f.Name) || len(f.Data) == 0 || len(f.Data)%impl.PageBytes != 0 || i > 0 && d.Files[i-1].Name >= f.Name {
			return nil, false
		}
	}
	seen := modelCopy(d.Files)
	for _, p := range d.Cache {
		if !modelName(p.Name) || len(p.Data) != impl.PageBytes || p.Page < 0 || p.Page > modelPages(seen, p.Name) {
			return nil, false
		}
		seen = modelPut(seen, p, impl.PageBytes)
	}
	if len(seen) > impl.FileMax || modelTotal(seen) > d.Cap {
		return nil, false
	}
	return seen, true
}

func modelTotal(files []impl.File) int64 {
	var n int64
	for _, f := range files {
		n += int64(len(f.Data) / impl.PageBytes)
	}
	return n
}

// modelStep puts the fuel behind every refusal.
func modelStep(d impl.Disk, err int64, done func(impl.Disk) impl.Disk) impl.DiskRes {
	switch {
	case err != impl.DiskOk:
		return impl.DiskRes{Err: err, Disk: d}
	case d.Fuel == 0:
		d.Dead = true
		return impl.DiskRes{Err: impl.DiskLost, Disk: d}
	case d.Fuel > 0:
		d.Fuel--
	}
	return impl.DiskRes{Disk: done(d)}
}

func modelWrite(d impl.Disk, name string, page int64, data []byte) impl.DiskRes {
	seen, ok := modelSeen(d)
	err := int64(impl.DiskOk)
	if !ok || d.Dead || !modelName(name) || len(data) != impl.PageBytes || page < 0 || page > modelPages(seen, name) {
		err = impl.DiskBad
	} else {
		seen = modelPut(seen, impl.Pend{Name: name, Page: page, Data: data}, impl.PageBytes)
		if len(d.Cache) >= impl.CacheMax || len(seen) > impl.FileMax || modelTotal(seen) > d.Cap {
			err = impl.DiskFull
		}
	}
	return modelStep(d, err, func(d impl.Disk) impl.Disk {
		d.Cache = append(d.Cache[:len(d.Cache):len(d.Cache)], impl.Pend{Name: name, Page: page, Data: data})
		return d
	})
}

func modelSync(d impl.Disk) impl.DiskRes {
	seen, ok := modelSeen(d)
	err := int64(impl.DiskOk)
	if !ok || d.Dead {
		err = impl.DiskBad
	}
	return modelStep(d, err, func(d impl.Disk) impl.Disk {
		d.Files, d.Cache = seen, nil
		return d
	})
}

// modelMove is rename, or remove where the name to is nothing.
func modelMove(d impl.Disk, from string, to string, rename bool) impl.DiskRes {
	_, ok := modelSeen(d)
	err := int64(impl.DiskOk)
	if !ok || d.Dead || len(d.Cache) > 0 || modelFind(d.Files, from) < 0 || rename && (!modelName(to) || from == to) {
		err = impl.DiskBad
	}
	return modelStep(d, err, func(d impl.Disk) impl.Disk {
		var files []impl.File
		for _, f := range d.Files {
			if f.Name == from && rename {
				files = append(files, impl.File{Name: to, Data: f.Data})
			} else if f.Name != from && f.Name != to {
				files = append(files, f)
			}
		}
		sort.Slice(files, func(a, b int) bool { return files[a].Name < files[b].Name })
		d.Files = files
		return d
	})
}

func modelCrash(d impl.Disk, c impl.Crash) impl.Disk {
	if _, ok := modelSeen(d); !ok {
		return impl.Disk{}
	}
	files := modelCopy(d.Files)
	for i, p := range d.Cache {
		switch {
		case int64(i) == c.Tear && c.At < 0:
			files = modelPut(files, p, 0)
		case int64(i) == c.Tear && c.At < impl.PageBytes:
			files = modelPut(files, p, int(c.At))
		case int64(i) == c.Tear || i < len(c.Keep) && c.Keep[i]:
			files = modelPut(files, p, impl.PageBytes)
		}
	}
	return impl.Disk{Files: files, Cap: d.Cap, Fuel: -1}
}

// allNames are the names that are seen, ascending; none on a disk that is not valid.
func allNames(d impl.Disk) []string {
	seen, _ := modelSeen(d)
	var out []string
	for _, f := range seen {
		out = append(out, f.Name)
	}
	return out
}

// dice throws the same disks every time.
type dice struct{ *rand.Rand }

func newDice(seed int64) dice { return dice{rand.New(rand.NewSource(seed))} }

func (r dice) name() string {
	names := []string{"a", "b", "c", "d", "ab", "tmp", "log", "new", "abcdefgh", "e", "f", "g", "h", "i"}
	if r.Intn(20) == 0 {
		return noNames[r.Intn(len(noNames))]
	}
	if r.Intn(2) == 0 {
		return names[r.Intn(3)]
	}
	return names[r.Intn(len(names))]
}

func (r dice) page() []byte {
	b := make([]byte, impl.PageBytes)
	r.Read(b)
	return b
}

// data has now and then not 128 bytes.
func (r dice) data() []byte {
	if r.Intn(15) == 0 {
		return append(r.page(), r.page()...)[:[]int{0, 1, 127, 129, 256}[r.Intn(5)]]
	}
	return r.page()
}

// disk is valid, with files, a cache, and fuel of every sort.
func (r dice) disk() impl.Disk {
	d := impl.Disk{Cap: int64(r.Intn(25)), Fuel: []int64{-1, -1, 0, 1, 2, impl.FuelMax}[r.Intn(6)], Dead: r.Intn(8) == 0}
	for range r.Intn(25) {
		d = r.written(d)
	}
	d.Files, _ = modelSeen(d)
	d.Cache = nil
	if r.Intn(3) > 0 {
		for range r.Intn(15) {
			d = r.written(d)
		}
	}
	return d
}

// written adds a write where the disk stays valid with it.
func (r dice) written(d impl.Disk) impl.Disk {
	seen, _ := modelSeen(d)
	name := r.name()
	more := d
	p := impl.Pend{Name: name, Page: r.Int63n(modelPages(seen, name) + 1), Data: r.page()}
	more.Cache = append(d.Cache[:len(d.Cache):len(d.Cache)], p)
	if _, ok := modelSeen(more); ok {
		return more
	}
	return d
}

// spoilt is a disk with one thing changed: most are not valid any more.
func (r dice) spoilt(d impl.Disk) impl.Disk {
	d.Files = modelCopy(d.Files)
	d.Cache = append([]impl.Pend(nil), d.Cache...)
	switch r.Intn(8) {
	case 0:
		d.Cap = []int64{-1, 0, 1, impl.CapMax, impl.CapMax + 1}[r.Intn(5)]
	case 1:
		d.Fuel = []int64{-2, -1, 0, impl.FuelMax, impl.FuelMax + 1}[r.Intn(5)]
	case 2:
		d.Files = append(d.Files, fileOf(r.name(), 1))
	case 3:
		if len(d.Files) > 0 {
			d.Files[r.Intn(len(d.Files))].Name = r.name()
		}
	case 4:
		if len(d.Files) > 0 {
			f := &d.Files[r.Intn(len(d.Files))]
			f.Data = f.Data[:r.Intn(len(f.Data)+1)]
		}
	case 5:
		d.Cache = append(d.Cache, impl.Pend{Name: r.name(), Page: int64(r.Intn(5) - 1), Data: r.data()})
	case 6:
		if len(d.Cache) > 0 {
			d.Cache = d.Cache[1:]
		}
	case 7:
		r.Shuffle(len(d.Cache), func(a, b int) { d.Cache[a], d.Cache[b] = d.Cache[b], d.Cache[a] })
	}
	return d
}

func (r dice) crash(d impl.Disk) impl.Crash {
	n := len(d.Cache)
	c := impl.Crash{Tear: int64(r.Intn(n+4) - 2), At: int64(r.Intn(140) - 6)}
	for range r.Intn(n + 3) {
		c.Keep = append(c.Keep, r.Intn(2) == 0)
	}
	return c
}

func checkReading(t *testing.T, what string, d impl.Disk, name string) {
	t.Helper()
	seen, ok := modelSeen(d)
	if impl.ValidDisk(d) != ok {
		t.Errorf("%s: ValidDisk %v: %s", what, !ok, tell(d))
	}
	n := modelPages(seen, name)
	want := n
	if n == 0 {
		want = -1
	}
	if got := impl.PageCount(d, name); got != want {
		t.Errorf("%s: PageCount of %q: %d, want %d: %s", what, name, got, want, tell(d))
	}
	for p := int64(-1); p <= n; p++ {
		var page []byte
		if p >= 0 && p < n {
			page = seen[modelFind(seen, name)].Data[p*impl.PageBytes : (p+1)*impl.PageBytes]
		}
		if !bytes.Equal(impl.ReadPage(d, name, p), page) {
			t.Errorf("%s: page %d of %q: %s", what, p, name, tell(d))
		}
	}
}

func TestDiskIsTheModel(t *testing.T) {
	r := newDice(1)
	counts := map[int64]int{}
	for i := range 6000 {
		d := r.disk()
		if r.Intn(3) == 0 {
			d = r.spoilt(d)
		}
		what := fmt.Sprint("round ", i)
		name, to, data := r.name(), r.name(), r.data()
		seen, _ := modelSeen(d)
		page := r.Int63n(modelPages(seen, name)+3) - 1
		checkReading(t, what, d, name)
		for step, pair := range [][2]impl.DiskRes{
			{impl.WritePage(d, name, page, data), modelWrite(d, name, page, data)},
			{impl.SyncDisk(d), modelSync(d)},
			{impl.RenameFile(d, name, to), modelMove(d, name, to, true)},
			{impl.RemoveFile(d, name), modelMove(d, name, "", false)},
		} {
			wantRes(t, fmt.Sprint(what, " step ", step), pair[0], pair[1].Err, pair[1].Disk)
			counts[int64(step)*10+pair[1].Err]++
		}
		c := r.crash(d)
		wantDisk(t, what+" crash", impl.CrashDisk(d, c), modelCrash(d, c))
		if t.Failed() {
			t.Fatalf("%s: %s\nname %q page %d to %q data %d crash %+v", what, tell(d), name, page, to, len(data), c)
		}
	}
	// The dice must have thrown every answer, or the comparison tells little.
	for _, k := range []int64{0, 1, 2, 3, 10, 11, 13, 20, 21, 23, 30, 31, 33} {
		if counts[k] < 20 {
			t.Errorf("step %d answered %d only %d times", k/10, k%10, counts[k])
		}
	}
}

// A long run on one disk: every answer of the program goes in to its next call.
func TestLongRunIsTheModel(t *testing.T) {
	for seed := range int64(40) {
		r := newDice(100 + seed)
		d := impl.DiskNew(int64(5 + r.Intn(40)))
		m := d
		for i := range 150 {
			name, to, data := r.name(), r.name(), r.data()
			seen, _ := modelSeen(m)
			page := r.Int63n(modelPages(seen, name) + 1)
			var got, want impl.DiskRes
			switch r.Intn(12) {
			default:
				got, want = impl.WritePage(d, name, page, data), modelWrite(m, name, page, data)
			case 0:
				got, want = impl.SyncDisk(d), modelSync(m)
			case 1:
				got, want = impl.RenameFile(impl.SyncDisk(d).Disk, name, to), modelMove(modelSync(m).Disk, name, to, true)
			case 2:
				got, want = impl.RemoveFile(impl.SyncDisk(d).Disk, name), modelMove(modelSync(m).Disk, name, "", false)
			case 3:
				c := r.crash(m)
				got, want = impl.DiskRes{Disk: impl.CrashDisk(d, c)}, impl.DiskRes{Disk: modelCrash(m, c)}
				got.Disk.Fuel = int64(r.Intn(30))
				want.Disk.Fuel = got.Disk.Fuel
			}
			wantRes(t, fmt.Sprint("seed ", seed, " turn ", i), got, want.Err, want.Disk)
			d, m = got.Disk, want.Disk
			checkReading(t, fmt.Sprint("seed ", seed, " turn ", i), d, name)
			if t.Failed() {
				t.FailNow()
			}
		}
	}
}
