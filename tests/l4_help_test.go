package tests

import (
	"bytes"
	"slices"
	"testing"

	"loop.example/s02098/impl"
)

// sheaf is the pages of a file by their numbers; those between are zeros. A page without a stamp gets the stamp 1.
type sheaf map[int64]impl.Page

func (s sheaf) codes() codes {
	out := codes{}
	for num, p := range s {
		if p.Tx == 0 {
			p.Tx = 1
		}
		out[num] = modelNew(p)
		if len(out[num]) == 0 {
			panic("the test's page is wrong")
		}
	}
	return out
}

func (s sheaf) disk() impl.Disk { return s.codes().disk() }

// with is a sheaf of its own in which one page is another.
func (s sheaf) with(num int64, p impl.Page) sheaf {
	out := sheaf{num: p}
	for n, old := range s {
		if n != num {
			out[n] = old
		}
	}
	return out
}

// codes is the bytes of a file's pages, right or not.
type codes map[int64][]byte

func (c codes) data() []byte {
	var out []byte
	for num, b := range c {
		if end := int(num+1) * impl.PageBytes; len(out) < end {
			out = append(out, make([]byte, end-len(out))...)
		}
		copy(out[num*impl.PageBytes:], b)
	}
	return out
}

// disk has the pages in the file f, durably.
func (c codes) disk() impl.Disk {
	return impl.Disk{Files: []impl.File{{Name: "f", Data: c.data()}}, Cap: impl.CapMax, Fuel: -1}
}

// cached has them in the cache alone.
func (c codes) cached() impl.Disk {
	d := impl.DiskNew(impl.CapMax)
	for page, b := range slices.Collect(slices.Chunk(c.data(), impl.PageBytes)) {
		d.Cache = append(d.Cache, impl.Pend{Name: "f", Page: int64(page), Data: b})
	}
	return d
}

func (c codes) with(num int64, b []byte) codes {
	out := codes{num: b}
	for n, old := range c {
		if n != num {
			out[n] = old
		}
	}
	return out
}

// lay writes placed pages on their numbers into the file f, with zeros where it is too short for one.
func lay(t *testing.T, d impl.Disk, p impl.Placed) impl.Disk {
	t.Helper()
	write := func(num int64, b []byte) {
		r := impl.WritePage(d, "f", num, b)
		if r.Err == impl.DiskFull {
			r = impl.WritePage(impl.SyncDisk(d).Disk, "f", num, b)
		}
		if r.Err != impl.DiskOk {
			t.Fatalf("page %d is not written: %d", num, r.Err)
		}
		d = r.Disk
	}
	for i, num := range p.Nums {
		for end := max(impl.PageCount(d, "f"), 0); end < num; end++ {
			write(end, make([]byte, impl.PageBytes))
		}
		write(num, impl.EncodePage(p.Pages[i]))
	}
	return d
}

func zeroLoad(r impl.LoadRes) bool { return !r.Ok && len(r.Tree.Nodes) == 0 && len(r.Pages) == 0 }

func wantNoLoad(t *testing.T, what string, d impl.Disk, name string, root int64) {
	t.Helper()
	if got := impl.LoadTree(d, name, root); !zeroLoad(got) {
		t.Errorf("%s: loaded %v, pages %d, %s", what, got.Ok, got.Pages, show(got.Tree))
	}
}

func wantLoad(t *testing.T, what string, d impl.Disk, root int64, tree impl.Tree, pages []int64) {
	t.Helper()
	got := impl.LoadTree(d, "f", root)
	if !got.Ok || !slices.Equal(got.Pages, pages) {
		t.Errorf("%s: loaded %v, pages %d, want %d", what, got.Ok, got.Pages, pages)
	}
	wantTree(t, what, got.Tree, tree)
}

func sameLoad(a, b impl.LoadRes) bool {
	return a.Ok == b.Ok && sameTree(a.Tree, b.Tree) && slices.Equal(a.Pages, b.Pages)
}

func samePlaced(a, b impl.Placed) bool {
	return sameTree(a.Tree, b.Tree) && slices.Equal(a.Nums, b.Nums) && slices.EqualFunc(a.Pages, b.Pages, samePage)
}

// The model: the words of the document once more, page after page, with no worker.

func modelPageAt(files []impl.File, name string, num int64) impl.Page {
	if num < 0 || num >= modelPages(files, name) {
		return impl.Page{}
	}
	return impl.DecodePage(files[modelFind(files, name)].Data[num*impl.PageBytes : (num+1)*impl.PageBytes]).Page
}

func modelMeta(d impl.Disk, name string) impl.MetaRes {
	seen, _ := modelSeen(d)
	var out impl.MetaRes
	even, odd := modelPageAt(seen, name, 0), modelPageAt(seen, name, 1)
	if even.Kind == impl.PMeta && even.Tx%2 == 0 {
		out = impl.MetaRes{Ok: true, Tx: even.Tx, Meta: even.Meta}
	}
	if odd.Kind == impl.PMeta && odd.Tx%2 == 1 && odd.Tx > out.Tx {
		out = impl.MetaRes{Ok: true, Tx: odd.Tx, Meta: odd.Meta}
	}
	return out
}

// reading goes through a file from the root down, the whole of a child before the next one.
type reading struct {
	files []impl.File
	name  string
	times map[int64]int
	tree  impl.Tree
	fault bool
}

func modelLoad(d impl.Disk, name string, root int64) impl.LoadRes {
	seen, _ := modelSeen(d)
	r := &reading{files: seen, name: name, times: map[int64]int{}}
	r.node(root)
	var pages []int64
	for num := range int64(impl.CapMax) {
		if r.times[num] > 1 {
			r.fault = true
		}
		if r.times[num] == 1 {
			pages = append(pages, num)
		}
	}
	if r.fault || !modelTreeValid(r.tree) {
		return impl.LoadRes{}
	}
	return impl.LoadRes{Ok: true, Tree: r.tree, Pages: pages}
}

// node answers with the number that the node has; at a page that was read before it stops, as there may be no end below it.
func (r *reading) node(num int64) int64 {
	at := int64(len(r.tree.Nodes))
	n := impl.TNode{Page: num}
	p := modelPageAt(r.files, r.name, num)
	r.times[num]++
	if r.times[num] > 1 || p.Kind != impl.PLeaf && p.Kind != impl.PBranch {
		r.fault = true
		return at
	}
	r.tree.Nodes = append(r.tree.Nodes, n)
	n.Leaf = p.Kind == impl.PLeaf
	for _, e := range p.Ents {
		n.Keys, n.Over = append(n.Keys, e.Key), append(n.Over, e.Over)
		if e.Over == 0 {
			n.Vals = append(n.Vals, e.Val)
		} else {
			n.Vals = append(n.Vals, r.chain(e.Over, e.Size))
		}
	}
	for i, k := range p.Kids {
		if i > 0 {
			n.Keys = append(n.Keys, k.Sep)
		}
		n.Kids = append(n.Kids, r.node(k.Page))
	}
	r.tree.Nodes[at] = n
	return at
}

func (r *reading) chain(num, size int64) string {
	var b bytes.Buffer
	for num != 0 {
		p := modelPageAt(r.files, r.name, num)
		r.times[num]++
		if r.times[num] > 1 || p.Kind != impl.POver {
			r.fault = true
			return ""
		}
		b.WriteString(p.Data)
		num = p.Next
	}
	r.fault = r.fault || int64(b.Len()) != size
	return b.String()
}

// standing counts the numbers of a tree.
func standing(t impl.Tree) map[int64]int {
	out := map[int64]int{}
	for _, n := range t.Nodes {
		for _, num := range append([]int64{n.Page}, n.Over...) {
			out[num]++
		}
	}
	return out
}

// placing looks for the smallest free number anew each time.
type placing struct {
	used map[int64]int
	tx   int64
	out  impl.Placed
	none bool
}

func modelPlace(t impl.Tree, tx int64, taken []int64) impl.Placed {
	if !modelTreeValid(t) || tx < 1 || tx > impl.NumMax {
		return impl.Placed{}
	}
	p := &placing{used: standing(t), tx: tx}
	for _, num := range taken {
		p.used[num]++
	}
	root := plainOf(t, 0)
	p.node(root)
	if p.none {
		return impl.Placed{}
	}
	p.out.Tree = plainTree(root)
	return p.out
}

func (p *placing) next() int64 {
	num := int64(2)
	for p.used[num] > 0 {
		num++
	}
	if num > impl.CapMax-1 {
		p.none = true
	}
	p.used[num]++
	return num
}

func (p *placing) put(num int64, page impl.Page) {
	p.out.Nums = append(p.out.Nums, num)
	p.out.Pages = append(p.out.Pages, stamped(page, p.tx))
}

func (p *placing) node(n *plainNode) {
	for _, kid := range n.kids {
		p.node(kid)
	}
	if n.page != 0 {
		return
	}
	for i := range n.ents {
		if e := &n.ents[i]; len(e.val) > impl.InlineMax && e.over == 0 {
			e.over = p.value(e.val)
		}
	}
	n.page = p.next()
	p.put(n.page, plainPage(n))
}

func (p *placing) value(val string) int64 {
	var nums []int64
	var pieces []string
	for piece := range slices.Chunk([]byte(val), impl.OverBytes) {
		nums = append(nums, p.next())
		pieces = append(pieces, string(piece))
	}
	for i, piece := range pieces {
		page := overPage(0, piece)
		if i+1 < len(pieces) {
			page.Next = nums[i+1]
		}
		p.put(nums[i], page)
	}
	return nums[0]
}

// plainPage is the page of a node that stands on one, with all that is below it.
func plainPage(n *plainNode) impl.Page {
	if n.leaf {
		p := leafPage()
		for _, e := range n.ents {
			if e.over != 0 {
				p.Ents = append(p.Ents, long(e.key, e.over, int64(len(e.val))))
			} else {
				p.Ents = append(p.Ents, short(e.key, e.val))
			}
		}
		return p
	}
	p := branchPage()
	for i, kid := range n.kids {
		k := impl.Kid{Page: kid.page}
		if i > 0 {
			k.Sep = kid.smallest()
		}
		p.Kids = append(p.Kids, k)
	}
	return p
}
