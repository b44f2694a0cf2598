package qtree_test

import (
	"math"
	"math/big"
	"reflect"
	"slices"
	"testing"

	"tithebarn/api"
	"tithebarn/config"
	"tithebarn/qtree"
	"tithebarn/samples"
)

const most = 1 << 40 // how far from 0 a sum counts

// tree is a configuration of nodes with those Parents. It has nothing else: no other field is of the tree.
func tree(parents ...int) api.Config {
	var c api.Config
	for _, p := range parents {
		c.Nodes = append(c.Nodes, api.Node{Parent: p, Weight: 1})
	}
	return c
}

// eachTree calls visit with all configurations that are held: those of the samples, and all rows of up to five Parents from -2 to past the last node.
func eachTree(visit func(c api.Config)) {
	for _, parents := range append(samples.MayBe(), samples.MayNotBe()...) {
		visit(tree(parents...))
	}
	for size := 1; size <= 5; size++ {
		samples.EachRow(size, -2, size, func(row []int) { visit(tree(row...)) })
	}
}

// wantPath is what the chapter says of Path: the Parent's, and n behind it.
func wantPath(c api.Config, n int) []int {
	if n < 0 || n >= len(c.Nodes) {
		return nil
	}
	if p := c.Nodes[n].Parent; p >= 0 && p < n {
		return append(wantPath(c, p), n)
	}
	return []int{n}
}

// wantBelow is what the chapter says of Below, node by node.
func wantBelow(c api.Config, n int) []int {
	var below []int
	for m := range c.Nodes {
		if config.Leaf(c, m) && slices.Contains(wantPath(c, m), n) {
			below = append(below, m)
		}
	}
	return below
}

// wantCommon is what the chapter says of Common: the longest row that both Paths begin with, its last node.
func wantCommon(c api.Config, a, b int) int {
	x, y := wantPath(c, a), wantPath(c, b)
	for size := min(len(x), len(y)); size > 0; size-- {
		if slices.Equal(x[:size], y[:size]) {
			return x[size-1]
		}
	}
	return -1
}

// cut is x, at least -2^40, at most 2^40.
func cut(x *big.Int) *big.Int {
	if bound := big.NewInt(most); x.CmpAbs(bound) > 0 {
		return bound.Mul(bound, big.NewInt(int64(x.Sign())))
	}
	return x
}

// wantSum is what the chapters say of Sum, by exact numbers that are cut in order.
func wantSum(c api.Config, n int, l []api.Vec) api.Vec {
	var want api.Vec
	for r := range want {
		sum := new(big.Int)
		for _, m := range wantBelow(c, n) {
			if m < len(l) {
				sum = cut(new(big.Int).Add(sum, cut(big.NewInt(int64(l[m][r])))))
			}
		}
		want[r] = int(sum.Int64())
	}
	return want
}

// checkRow holds that a row of nodes is want.
func checkRow(t *testing.T, name string, c api.Config, n int, got, want []int) {
	t.Helper()
	if !slices.Equal(got, want) {
		t.Errorf("%s(%d): %d, want %d: %+v", name, n, got, want, c.Nodes)
	}
}

// checkCommon holds that Common answers want, whichever node is the first.
func checkCommon(t *testing.T, c api.Config, a, b, want int) {
	t.Helper()
	if x, y := qtree.Common(c, a, b), qtree.Common(c, b, a); x != want || y != want {
		t.Errorf("Common(%d, %d): %d and %d, want %d: %+v", a, b, x, y, want, c.Nodes)
	}
}

// checkSum holds that Sum answers want.
func checkSum(t *testing.T, c api.Config, n int, l []api.Vec, want api.Vec) {
	t.Helper()
	if got := qtree.Sum(c, n, l); got != want {
		t.Errorf("Sum(%d) of %d: %d, want %d: %+v", n, l, got, want, c.Nodes)
	}
}

// 10.1: the chapter's own examples, and others by hand.
func TestExamples(t *testing.T) {
	c := tree(-1, 0, 0, 1, 1)
	for n, want := range [][]int{{0}, {0, 1}, {0, 2}, {0, 1, 3}, {0, 1, 4}, nil} {
		checkRow(t, "Path", c, n, qtree.Path(c, n), want)
	}
	for n, want := range [][]int{{2, 3, 4}, {3, 4}, {2}, {3}, {4}, nil} {
		checkRow(t, "Below", c, n, qtree.Below(c, n), want)
	}
	for _, x := range []struct{ a, b, want int }{{3, 2, 0}, {3, 4, 1}, {3, 1, 1}, {4, 0, 0}, {4, 4, 4}, {2, 2, 2}, {0, 0, 0}, {1, 2, 0}, {3, 5, -1}, {-1, 3, -1}, {5, 5, -1}, {-1, -1, -1}} {
		checkCommon(t, c, x.a, x.b, x.want)
	}
	l := []api.Vec{{100, 100, 100}, {200, 200, 200}, {1, 10, 0}, {2, 20, 0}, {4, 40, 5}, {400, 400, 400}}
	for n, want := range []api.Vec{{7, 70, 5}, {6, 60, 5}, {1, 10, 0}, {2, 20, 0}, {4, 40, 5}, {}} {
		checkSum(t, c, n, l, want)
	}
}

// 10.1: Path and Below of any configuration, of nodes and of numbers that are none.
func TestPathAndBelow(t *testing.T) {
	eachTree(func(c api.Config) {
		for _, n := range samples.Around(c) {
			checkRow(t, "Path", c, n, qtree.Path(c, n), wantPath(c, n))
			checkRow(t, "Below", c, n, qtree.Below(c, n), wantBelow(c, n))
		}
	})
}

// 10.1: Common of any configuration, of all pairs of nodes and of numbers that are none.
func TestCommon(t *testing.T) {
	eachTree(func(c api.Config) {
		for _, a := range samples.Around(c) {
			for _, b := range samples.Around(c) {
				checkCommon(t, c, a, b, wantCommon(c, a, b))
			}
		}
	})
}

// 10.1: a Parent is one from 0 to below its node, by hand: another one ends a Path, and makes no ring.
func TestNoParents(t *testing.T) {
	ring := tree(1, 0)
	checkRow(t, "Path", ring, 0, qtree.Path(ring, 0), []int{0})
	checkRow(t, "Path", ring, 1, qtree.Path(ring, 1), []int{0, 1})
	checkRow(t, "Below", ring, 0, qtree.Below(ring, 0), nil) // each is the other one's Parent: there is no leaf
	checkCommon(t, ring, 0, 1, 0)
	own := tree(-1, 1, 1)
	checkRow(t, "Path", own, 1, qtree.Path(own, 1), []int{1})
	checkRow(t, "Path", own, 2, qtree.Path(own, 2), []int{1, 2})
	checkRow(t, "Below", own, 1, qtree.Below(own, 1), []int{2})
	checkCommon(t, own, 0, 2, -1)
	roots := tree(-1, -1, 0, 1, math.MaxInt, math.MinInt, 7)
	checkRow(t, "Below", roots, 0, qtree.Below(roots, 0), []int{2})
	checkRow(t, "Below", roots, 1, qtree.Below(roots, 1), []int{3})
	checkRow(t, "Path", roots, 4, qtree.Path(roots, 4), []int{4})
	checkRow(t, "Path", roots, 5, qtree.Path(roots, 5), []int{5})
	checkRow(t, "Path", roots, 6, qtree.Path(roots, 6), []int{6})
	checkCommon(t, roots, 2, 3, -1)
	checkCommon(t, roots, 4, 4, 4)
	behind := tree(-1, 2, 0) // node 2 is a node's Parent, but on no other Path: it is no leaf, and node 1 is not below it
	checkRow(t, "Below", behind, 2, qtree.Below(behind, 2), nil)
	checkRow(t, "Below", behind, 0, qtree.Below(behind, 0), nil)
	checkRow(t, "Below", behind, 1, qtree.Below(behind, 1), []int{1})
}

// 10.1: Sum takes the leaves' Vecs alone, zero of those that l does not have; of configurations that may not be, too, as R1 asks it to end.
func TestSum(t *testing.T) {
	l := make([]api.Vec, 20)
	for i := range l {
		l[i] = api.Vec{1 << i, 3 << i, i}
	}
	for _, parents := range append(samples.MayBe(), samples.MayNotBe()...) {
		c := tree(parents...)
		for _, n := range samples.Around(c) {
			checkSum(t, c, n, nil, api.Vec{})
			checkSum(t, c, n, []api.Vec{}, api.Vec{})
			for size := range len(l) + 1 {
				checkSum(t, c, n, l[:size], wantSum(c, n, l[:size]))
			}
		}
	}
}

// 10.1: Sum is cut leaf by leaf, rising, each resource on its own; nothing wraps.
func TestSumCut(t *testing.T) {
	c := tree(-1, 0, 0, 1, 1)
	for _, x := range []struct{ first, second, third, want int }{
		{most, 5, -5, most - 5}, {5, most, -5, most - 5}, {-5, most, 5, most}, {-most, -1, 1, 1 - most}, {most + 1, -1, 0, most - 1}, {math.MaxInt, math.MaxInt, math.MaxInt, most},
		{math.MinInt, math.MinInt, math.MinInt, -most}, {math.MaxInt, math.MinInt, 7, 7}, {0, math.MaxInt, 0, most}, {math.MinInt, 0, 0, -most}, {1, -3, 0, -2},
	} {
		for r := range api.NumRes {
			l := make([]api.Vec, 5)
			l[2][r], l[3][r], l[4][r] = x.first, x.second, x.third
			var want api.Vec
			want[r] = x.want
			checkSum(t, c, 0, l, want)
		}
	}
	checkSum(t, c, 3, []api.Vec{{}, {}, {}, {math.MaxInt, math.MinInt, most + 1}}, api.Vec{most, -most, most})
	edges := []int{math.MinInt, -most - 1, -most, -5, 0, 1, most - 3, most, math.MaxInt}
	samples.EachRow(3, 0, len(edges)-1, func(row []int) {
		l := make([]api.Vec, 5)
		for i, at := range row {
			l[2+i] = api.Vec{edges[at], edges[len(edges)-1-at], i}
		}
		checkSum(t, c, 0, l, wantSum(c, 0, l))
		checkSum(t, c, 1, l, wantSum(c, 1, l))
	})
}

// 10.1: the nodes' other fields are not looked at.
func TestOtherFields(t *testing.T) {
	c := tree(-1, 0, 0, 1, 1)
	for i := range c.Nodes {
		n := &c.Nodes[i]
		n.Weight, n.Nominal, n.Borrow, n.Lend = -i, api.Vec{i, -i, math.MaxInt}, api.Vec{9}, api.Vec{math.MinInt}
	}
	c.Half, c.Age, c.Hosts = -1, -1, []api.Host{{Flavor: -1}}
	checkRow(t, "Path", c, 4, qtree.Path(c, 4), []int{0, 1, 4})
	checkRow(t, "Below", c, 0, qtree.Below(c, 0), []int{2, 3, 4})
	checkSum(t, c, 1, []api.Vec{{}, {}, {}, {1}, {2}}, api.Vec{3})
	checkCommon(t, c, 3, 2, 0)
}

// R1: calls on a long list end soon: a deep one whose lower half are leaves.
func TestLong(t *testing.T) {
	const size = 1 << 20
	c := api.Config{Nodes: make([]api.Node, size)}
	for i := range c.Nodes {
		c.Nodes[i].Parent = min(i, size/2) - 1
	}
	l := slices.Repeat([]api.Vec{{1, 2, 0}}, size)
	for _, n := range []int{0, 1, size / 4, size/2 - 1} {
		below := qtree.Below(c, n)
		if len(below) != size/2 || below[0] != size/2 || below[len(below)-1] != size-1 || !slices.IsSorted(below) {
			t.Errorf("Below(%d): %d nodes", n, len(below))
		}
		if sum := qtree.Sum(c, n, l); sum != (api.Vec{size / 2, size, 0}) {
			t.Errorf("Sum(%d): %d", n, sum)
		}
	}
	path := qtree.Path(c, size-1)
	if len(path) != size/2+1 || path[0] != 0 || path[size/2] != size-1 || !slices.IsSorted(path) {
		t.Errorf("Path: %d nodes", len(path))
	}
	if got := qtree.Common(c, size-1, size-2); got != size/2-1 {
		t.Errorf("Common: %d", got)
	}
}

// R4: what is handed in stays, what lies behind its lists' ends too, and is not looked at; no two answers share a list.
func TestMemory(t *testing.T) {
	whole, wholeList := tree(-1, 0, 0, 1, 1, 2, 3), []api.Vec{{1}, {2}, {4}, {8}, {16}, {32}, {64}}
	c, l := tree(-1, 0, 0, 1, 1, 2, 3), slices.Clone(wholeList)
	part, list := c, l[:4]
	part.Nodes = part.Nodes[:5]
	path, below := qtree.Path(part, 4), qtree.Below(part, 0)
	checkRow(t, "Path", part, 5, qtree.Path(part, 5), nil)
	checkRow(t, "Path", part, 4, path, []int{0, 1, 4})
	checkRow(t, "Below", part, 0, below, []int{2, 3, 4})
	checkSum(t, part, 0, list, api.Vec{12})
	checkCommon(t, part, 4, 3, 1)
	checkCommon(t, part, 4, 5, -1)
	clear(path[:cap(path)])
	clear(below[:cap(below)])
	checkRow(t, "Path", part, 4, qtree.Path(part, 4), []int{0, 1, 4})
	checkRow(t, "Below", part, 0, qtree.Below(part, 0), []int{2, 3, 4})
	if !reflect.DeepEqual(c, whole) || !slices.Equal(l, wholeList) {
		t.Error("what was handed in was changed")
	}
}
