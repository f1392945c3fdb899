package tests

import (
	"fmt"
	"slices"
	"strings"
	"testing"

	"loop.example/s02098/impl"
)

func lettered(keys string) []impl.Pair {
	var out []impl.Pair
	for _, k := range strings.Split(keys, "") {
		out = append(out, impl.Pair{Key: k, Val: shortVal(k)})
	}
	return out
}

func TestTreeBulkRows(t *testing.T) {
	wantTree(t, "no pairs", impl.TreeBulk(nil), impl.TreeNew())
	wantTree(t, "an empty list", impl.TreeBulk([]impl.Pair{}), impl.TreeNew())
	for keys, picture := range map[string]string{
		"a": "a", "ab": "ab", "abc": "abc", "abcd": "abcd",
		"abcde": "(abc de)", "abcdef": "(abcd ef)", "abcdefg": "(abcd efg)", "abcdefgh": "(abcd efgh)",
		"abcdefghi": "(abcd efg hi)", "abcdefghij": "(abcd efgh ij)", "abcdefghijklm": "(abcd efgh ijk lm)",
		"abcdefghijklmnop":           "(abcd efgh ijkl mnop)",
		"abcdefghijklmnopq":          "((abcd efgh ijkl) (mno pq))",
		"abcdefghijklmnopqrstu":      "((abcd efgh ijkl mnop) (qrs tu))",
		"abcdefghijklmnopqrstuvwxyz": "((abcd efgh ijkl mnop) (qrst uvwx yz))",
	} {
		wantTree(t, keys, impl.TreeBulk(lettered(keys)), draw(picture))
	}
}

func wantBulk(t *testing.T, what string, pairs []impl.Pair) {
	t.Helper()
	got := impl.TreeBulk(pairs)
	wantTree(t, what, got, modelBulk(pairs))
	if !impl.ValidTree(got) || !slices.Equal(impl.TreeScan(got, "", ""), pairs) {
		t.Errorf("%s: valid %v, pairs %d", what, impl.ValidTree(got), len(impl.TreeScan(got, "", "")))
	}
	for _, n := range got.Nodes {
		if n.Page != 0 || slices.ContainsFunc(n.Over, func(over int64) bool { return over != 0 }) {
			t.Errorf("%s: %+v is not dirty", what, n)
		}
	}
}

func TestTreeBulkOfEveryCount(t *testing.T) {
	for count := range 101 {
		wantBulk(t, fmt.Sprint(count, " pairs"), numberedPairs(count))
	}
	for _, count := range []int{255, 256, 257, 258, 320, 321, 1023, 1024, 1025, 1026, 1280, 1281, 2990, 2991, 2992, 2993, 2994, 2995, 2996} {
		wantBulk(t, fmt.Sprint(count, " pairs"), numberedPairs(count))
	}
	if got := len(impl.TreeBulk(numberedPairs(2996)).Nodes); got != impl.NodeMax {
		t.Errorf("2996 pairs have %d nodes", got)
	}
	for _, count := range []int{2997, 2998, 3000, 4000, 9999} {
		wantTree(t, fmt.Sprint(count, " pairs"), impl.TreeBulk(numberedPairs(count)), impl.Tree{})
	}
}

func TestTreeBulkOfEdgeValues(t *testing.T) {
	var pairs []impl.Pair
	for i, size := range []int{0, 1, impl.InlineMax, impl.InlineMax + 1, impl.OverBytes, impl.ValMax} {
		pairs = append(pairs, impl.Pair{Key: strings.Repeat("k", i+1), Val: strings.Repeat("v", size)})
	}
	pairs = append(pairs, impl.Pair{Key: "kkkkkkkk"}, impl.Pair{Key: "\xff"})
	wantBulk(t, "edges", pairs)
	r := newDice(31)
	for i := range 200 {
		pairs = nil
		for _, k := range r.keys(r.Intn(60)) {
			pairs = append(pairs, impl.Pair{Key: k, Val: r.value()})
		}
		wantBulk(t, fmt.Sprint("random ", i), pairs)
	}
}

func TestTreeBulkRefusals(t *testing.T) {
	for what, pair := range map[string]impl.Pair{
		"an empty key":      {Key: ""},
		"a key too long":    {Key: "ninechars"},
		"a value too long":  {Key: "m", Val: strings.Repeat("v", impl.ValMax+1)},
		"a value far too":   {Key: "m", Val: strings.Repeat("v", 100000)},
		"both are too long": {Key: "mmmmmmmmm", Val: strings.Repeat("v", impl.ValMax+1)},
	} {
		wantTree(t, what+" alone", impl.TreeBulk([]impl.Pair{pair}), impl.Tree{})
		for at := range 7 {
			pairs := slices.Insert(lettered("bcdefg"), at, pair)
			slices.SortFunc(pairs, func(a, b impl.Pair) int { return strings.Compare(a.Key, b.Key) })
			wantTree(t, what, impl.TreeBulk(pairs), impl.Tree{})
		}
	}
	for at := range 11 {
		pairs := lettered("abcdefghijkl")
		pairs[at+1].Key = pairs[at].Key
		wantTree(t, "a key twice", impl.TreeBulk(pairs), impl.Tree{})
		pairs = lettered("abcdefghijkl")
		pairs[at], pairs[at+1] = pairs[at+1], pairs[at]
		wantTree(t, "two keys swapped", impl.TreeBulk(pairs), impl.Tree{})
	}
	wantTree(t, "a longer one first", impl.TreeBulk([]impl.Pair{{Key: "aa"}, {Key: "a"}}), impl.Tree{})
	wantTree(t, "descending", impl.TreeBulk(lettered("zyx")), impl.Tree{})
}
