package tests

import (
	"bytes"
	"fmt"
	"maps"
	"slices"
	"testing"

	"loop.example/s02098/impl"
)

// sheaf is the pages of a tree that wholly stands on pages, with stamps of every sort; what a long value has behind its first page goes to any numbers that are left.
func (r dice) sheaf(t impl.Tree) sheaf {
	stands := standing(t)
	var left []int64
	for _, i := range r.Perm(impl.CapMax - 2) {
		if num := int64(i) + 2; stands[num] == 0 {
			left = append(left, num)
		}
	}
	out := sheaf{}
	var walk func(n *plainNode)
	walk = func(n *plainNode) {
		for _, kid := range n.kids {
			walk(kid)
		}
		for _, e := range n.ents {
			num, rest := e.over, e.val
			for num != 0 {
				piece := rest[:min(len(rest), impl.OverBytes)]
				rest = rest[len(piece):]
				next := int64(0)
				if rest != "" {
					next, left = left[0], left[1:]
				}
				out[num] = stamped(overPage(next, piece), r.big())
				num = next
			}
		}
		out[n.page] = stamped(plainPage(n), r.big())
	}
	walk(plainOf(t, 0))
	return out
}

// spoiltSheaf is the sheaf with one thing changed in one of its pages, or a page gone; it may still be a tree.
func (r dice) spoiltSheaf(s sheaf) sheaf {
	nums := slices.Sorted(maps.Keys(s))
	at, other := nums[r.Intn(len(nums))], nums[r.Intn(len(nums))]
	number := r.pick(0, other, other, r.number())
	p := s[at]
	p.Kids, p.Ents = slices.Clone(p.Kids), slices.Clone(p.Ents)
	switch r.Intn(9) {
	case 0:
		out := s.with(at, p)
		if len(out) > 1 {
			delete(out, at)
		}
		return out
	case 1:
		p = s[other]
	case 2:
		return s.with(at, s[other]).with(other, p)
	case 3:
		p.Tx = r.big()
	case 4:
		r.spoilKids(&p, number)
	case 5, 6:
		r.spoilEnts(&p, number)
	case 7:
		p.Next = number
	case 8:
		p.Data = (p.Data + p.Data)[:r.Intn(len(p.Data)+1)]
	}
	if len(modelNew(p)) == 0 {
		return s
	}
	return s.with(at, p)
}

func (r dice) spoilKids(p *impl.Page, number int64) {
	if len(p.Kids) == 0 {
		return
	}
	k := &p.Kids[r.Intn(len(p.Kids))]
	switch r.Intn(4) {
	case 0:
		k.Sep += "\x00"
	case 1:
		p.Kids = p.Kids[:len(p.Kids)-1]
	default:
		k.Page = number
	}
}

func (r dice) spoilEnts(p *impl.Page, number int64) {
	if len(p.Ents) == 0 {
		return
	}
	e := &p.Ents[r.Intn(len(p.Ents))]
	switch r.Intn(5) {
	case 0:
		e.Key += "\x00"
	case 1:
		p.Ents = p.Ents[:len(p.Ents)-1]
	case 2:
		e.Size += r.pick(-96, -1, 1, 96)
	default:
		e.Over = number
		if number > 0 && e.Val != "" {
			e.Val, e.Size = "", r.pick(9, 96, 97, 400)
		}
	}
}

// onDisk lays the file somewhere between files and cache.
func (r dice) onDisk(s sheaf) impl.Disk { return r.scattered(s.codes().data()) }

// scattered has the file f durable, in the cache, or a part of it here and a part there.
func (r dice) scattered(data []byte) impl.Disk {
	d := impl.Disk{Files: []impl.File{{Name: "f", Data: data}}, Cap: impl.CapMax, Fuel: -1}
	if r.Intn(2) == 0 {
		return d
	}
	cut := int64(r.Intn(len(data)/impl.PageBytes + 1))
	// From cut on the pages are in the cache alone; and some of those before it are only right there.
	d.Files[0].Data = bytes.Clone(data[:cut*impl.PageBytes])
	if cut == 0 {
		d.Files = nil
	}
	for num := range int64(len(data) / impl.PageBytes) {
		if num >= cut || r.Intn(3) == 0 {
			if num < cut {
				copy(d.Files[0].Data[num*impl.PageBytes:], r.page())
			}
			d.Cache = append(d.Cache, impl.Pend{Name: "f", Page: num, Data: data[num*impl.PageBytes : (num+1)*impl.PageBytes]})
		}
	}
	return d
}

func TestLoadIsTheModel(t *testing.T) {
	r := newDice(44)
	counts := map[bool]int{}
	fromZero := 0
	for i := range 1500 {
		x := r.paged(r.tree(int(r.pick(0, 1, 2, 4, 5, 9, 20, 40))))
		s := r.sheaf(x)
		what := fmt.Sprint("round ", i)
		if got := impl.LoadTree(r.onDisk(s), "f", x.Nodes[0].Page); !got.Ok || !slices.Equal(got.Pages, slices.Sorted(maps.Keys(s))) {
			t.Errorf("%s: loaded %v, pages %d", what, got.Ok, got.Pages)
		} else {
			wantTree(t, what, got.Tree, x)
		}
		for range r.Intn(3) {
			s = r.spoiltSheaf(s)
		}
		// A node's code on a page that is no page number: a tree may be read from page 0 on.
		if at := x.Nodes[r.Intn(len(x.Nodes))].Page; r.Intn(2) == 0 && s[at].Kind != 0 {
			s = s.with(r.pick(0, 0, 1), s[at])
		}
		d := r.onDisk(s)
		if r.Intn(20) == 0 {
			d = r.spoilt(d)
		}
		for range 3 {
			root := r.pick(x.Nodes[0].Page, x.Nodes[0].Page, x.Nodes[r.Intn(len(x.Nodes))].Page, r.number(), 0, 1, -1, 1000)
			got, want := impl.LoadTree(d, "f", root), modelLoad(d, "f", root)
			if !sameLoad(got, want) {
				t.Fatalf("%s, root %d: %v %d, %s\nwant %v %d, %s", what, root, got.Ok, got.Pages, show(got.Tree), want.Ok, want.Pages, show(want.Tree))
			}
			counts[got.Ok]++
			if got.Ok && root == 0 {
				fromZero++
			}
		}
		if t.Failed() {
			t.Fatal(show(x))
		}
	}
	// The dice must have thrown both answers, or the comparison tells little.
	if counts[true] < 1000 || counts[false] < 1000 || fromZero < 50 {
		t.Errorf("loaded %d times, %d of them from page 0 on, not loaded %d times", counts[true], fromZero, counts[false])
	}
}

func TestReadMetaIsTheModel(t *testing.T) {
	r := newDice(45)
	counts := map[int64]int{}
	for i := range 1500 {
		s := sheaf{}
		for num := range int64(r.Intn(4)) {
			p := r.treePage()
			if r.Intn(4) > 0 {
				p = metaPage(r.big(), r.number(), r.big())
			}
			s[num] = stamped(p, r.pick(r.big(), 1+r.Int63n(6), 1+r.Int63n(6)))
		}
		d := impl.DiskNew(9)
		if len(s) > 0 {
			d = r.onDisk(s)
		}
		if r.Intn(10) == 0 {
			d = r.spoilt(d)
		}
		got, want := impl.ReadMeta(d, "f"), modelMeta(d, "f")
		if got != want {
			t.Fatalf("round %d: %+v, want %+v: %s", i, got, want, tell(d))
		}
		if got.Ok {
			counts[got.Tx%2]++
		} else {
			counts[2]++
		}
	}
	for j := range int64(3) {
		if counts[j] < 100 {
			t.Errorf("answer %d only %d times", j, counts[j])
		}
	}
}

// takenList has numbers of every sort, some of them twice, low ones often.
func (r dice) takenList() []int64 {
	var taken []int64
	for range r.Intn(60) {
		taken = append(taken, r.pick(r.Int63n(60), r.Int63n(60), r.number(), -1, 0, 1, 1000, 5000, -1<<63, 1<<63-1))
		if r.Intn(4) == 0 {
			taken = append(taken, taken[r.Intn(len(taken))])
		}
	}
	return taken
}

// leaving takes all numbers but so many of those that are free in the tree.
func (r dice) leaving(t impl.Tree, count int) []int64 {
	stands := standing(t)
	var taken []int64
	for _, i := range r.Perm(impl.CapMax - 2) {
		num := int64(i) + 2
		if stands[num] == 0 && count > 0 {
			count--
		} else if stands[num] == 0 || r.Intn(2) == 0 {
			taken = append(taken, num)
		}
	}
	return taken
}

func TestPlaceIsTheModel(t *testing.T) {
	r := newDice(46)
	counts := map[bool]int{}
	for i := range 1500 {
		x := r.tree(int(r.pick(0, 1, 2, 5, 20, 60)))
		if r.Intn(8) == 0 {
			x = r.spoiltTree(x)
		}
		tx := r.pick(r.big(), r.big(), r.big(), r.big(), r.big(), r.big(), 0, -1, impl.NumMax+1)
		lists := [][]int64{nil, r.takenList()}
		if valid := modelPlace(x, 1, nil); len(valid.Tree.Nodes) > 0 {
			need := len(valid.Nums)
			lists = append(lists, r.leaving(x, need), r.leaving(x, max(need-1, 0)), r.leaving(x, need+1), r.leaving(x, 0))
		}
		for _, taken := range lists {
			got, want := impl.Place(x, tx, taken), modelPlace(x, tx, taken)
			if !samePlaced(got, want) {
				t.Fatalf("round %d: %s, tx %d, taken %d:\n got %d %s\nwant %d %s", i, show(x), tx, taken, got.Nums, show(got.Tree), want.Nums, show(want.Tree))
			}
			counts[zeroPlaced(got)]++
		}
	}
	if counts[true] < 1000 || counts[false] < 1000 {
		t.Errorf("placed %d times, not placed %d times", counts[false], counts[true])
	}
}
