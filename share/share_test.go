package share_test

import (
	"math/big"
	"reflect"
	"slices"
	"testing"

	"tithebarn/api"
	"tithebarn/config"
	"tithebarn/qtree"
	"tithebarn/samples"
	"tithebarn/share"
)

const (
	one    = api.One
	least  = samples.Least
	top    = samples.Top
	maxFix = api.MaxFix
)

var tree, tenant, ahead = samples.Tree, samples.Tenant, samples.Ahead

// weighted is c, whose nodes have those Weights.
func weighted(c api.Config, weights ...int) api.Config {
	c.Nodes = slices.Clone(c.Nodes)
	for n, w := range weights {
		c.Nodes[n].Weight = w
	}
	return c
}

// checked is c, held to be one that chapter 9's Check takes.
func checked(t *testing.T, c api.Config) api.Config {
	t.Helper()
	if config.Check(c) != api.OK {
		t.Fatalf("a configuration that may not be: %+v", c)
	}
	return c
}

// checkFix holds that a Fix is want.
func checkFix(t *testing.T, what string, got, want api.Fix) {
	t.Helper()
	if got != want {
		t.Errorf("%s: %d, want %d", what, got, want)
	}
}

// checkKey holds that a Key is want.
func checkKey(t *testing.T, what string, got []api.Fix, want ...api.Fix) {
	t.Helper()
	if !slices.Equal(got, want) {
		t.Errorf("%s: %d, want %d", what, got, want)
	}
}

// checkAll holds Subtree, Level and Key of n, by chapter 14, in a configuration that may be.
func checkAll(t *testing.T, c api.Config, h []api.Fix, n int) {
	t.Helper()
	checkFix(t, "Subtree", share.Subtree(c, h, n), wantSubtree(c, h, n))
	checkFix(t, "Level", share.Level(c, h, n), wantLevel(c, h, n))
	checkKey(t, "Key", share.Key(c, h, n), wantKey(c, h, n)...)
}

func bigOf(a api.Fix) *big.Int { return new(big.Int).SetUint64(uint64(a)) }

// bound is x, at most MaxFix.
func bound(x *big.Int) api.Fix {
	if !x.IsUint64() {
		return maxFix
	}
	return api.Fix(x.Uint64())
}

// wantSubtree is what the chapter says of Subtree.
func wantSubtree(c api.Config, h []api.Fix, n int) api.Fix {
	sum := new(big.Int)
	for m, used := range h {
		if tenant(c, m) && slices.Contains(ahead(c, m), n) {
			sum.Add(sum, bigOf(used))
		}
	}
	return bound(sum)
}

// wantLevel is what the chapter says of Level.
func wantLevel(c api.Config, h []api.Fix, n int) api.Fix {
	weight := 1
	if n >= 0 && n < len(c.Nodes) && c.Nodes[n].Weight > 1 {
		weight = c.Nodes[n].Weight
	}
	by := bigOf(bound(new(big.Int).Lsh(big.NewInt(int64(weight)), 32)))
	x := new(big.Int).Lsh(bigOf(wantSubtree(c, h, n)), 32)
	return bound(x.Quo(x, by))
}

// wantKey is what the chapter says of Key.
func wantKey(c api.Config, h []api.Fix, t int) []api.Fix {
	var key []api.Fix
	for _, n := range ahead(c, t) {
		if n > 0 {
			key = append(key, wantLevel(c, h, n))
		}
	}
	slices.Reverse(key)
	return key
}

// mixed are so many Fixes that look mixed: some edges, some small ones.
func mixed(l *samples.Numbers, size int) []api.Fix {
	edges := samples.Fixes()
	h := make([]api.Fix, size)
	for i := range h {
		h[i] = api.Fix(l.UpTo(1000)) * one / 16
		if l.UpTo(4) == 0 {
			h[i] = edges[l.UpTo(len(edges)-1)]
		}
	}
	return h
}

// 14.1: the chapter's own example.
func TestExample(t *testing.T) {
	c := checked(t, weighted(tree(-1, 0, 0), 2))
	checkFix(t, "Level", share.Level(c, []api.Fix{0, 3 * one, one}, 0), 2*one)
	c = checked(t, weighted(tree(-1, 0, 1, 1), 1, 2))
	checkFix(t, "Level", share.Level(c, []api.Fix{0, 0, 3 * one, one}, 1), 2*one)
}

// 14.1: Subtree by hand: what the tenants below have; what cohorts have in the list is not theirs.
func TestSubtree(t *testing.T) {
	c := checked(t, tree(-1, 0, 0, 1, 1, 2, 4))
	h := []api.Fix{100, 200, 300, 1, 400, 2, 4}
	for n, want := range []api.Fix{7, 5, 2, 1, 4, 2, 4} {
		checkFix(t, "Subtree", share.Subtree(c, h, n), want)
	}
	for _, x := range []struct{ a, b, want api.Fix }{
		{0, 0, 0}, {0, 1, 1}, {one, 2 * one, 3 * one}, {one - 1, 1, one}, {maxFix, 0, maxFix}, {0, maxFix, maxFix}, {maxFix - 1, 1, maxFix}, {maxFix - 2, 1, maxFix - 1},
		{maxFix, 1, maxFix}, {1, maxFix, maxFix}, {maxFix, maxFix, maxFix}, {1 << 63, 1 << 63, maxFix}, {1 << 63, 1<<63 - 1, maxFix}, {1<<63 - 1, 1<<63 - 1, maxFix - 1},
	} {
		checkFix(t, "Subtree", share.Subtree(tree(-1, 0, 0), []api.Fix{5, x.a, x.b}, 0), x.want)
	}
	checkFix(t, "of a tenant that is the root", share.Subtree(checked(t, tree(-1)), []api.Fix{5}, 0), 5)
}

// 14.1: Subtree of lists of all lengths: what the list does not have is 0, and what it has more is nobody's.
func TestSubtreeSizes(t *testing.T) {
	c := checked(t, tree(-1, 0, 0, 1, 1, 2))
	h := []api.Fix{100, 200, 300, 1, 2, 4, 8, maxFix}
	for size, want := range []api.Fix{0, 0, 0, 0, 1, 3, 7, 7, 7} {
		checkFix(t, "Subtree of the root", share.Subtree(c, h[:size:size], 0), want)
		checkFix(t, "Subtree of a cohort", share.Subtree(c, h[:size:size], 1), min(want, 3))
		checkFix(t, "Level of the root", share.Level(c, h[:size:size], 0), want)
	}
	for n := range c.Nodes {
		checkFix(t, "Subtree without a list", share.Subtree(c, nil, n), 0)
		checkFix(t, "Level without a list", share.Level(c, nil, n), 0)
		checkKey(t, "Key without a list", share.Key(c, nil, n), make([]api.Fix, len(ahead(c, n))-1)...)
	}
}

// 14.1: Level by hand: by the Weight, rounded down; what is cut is cut ahead of it.
func TestLevel(t *testing.T) {
	for _, x := range []struct {
		used   api.Fix
		weight int
		want   api.Fix
	}{
		{0, 1, 0}, {0, 1000, 0}, {one, 1, one}, {one, 2, one / 2}, {3 * one, 2, 3 * one / 2}, {one, 3, 1431655765}, {2 * one, 3, 2863311530}, {1, 2, 0}, {3, 2, 1}, {7, 3, 2},
		{999, 1000, 0}, {1000, 1000, 1}, {1999, 1000, 1}, {5 * one, 1000, 5 * one / 1000}, {maxFix, 1, maxFix}, {maxFix, 2, 1<<63 - 1}, {maxFix, 1000, maxFix / 1000}, {1 << 63, 1, 1 << 63},
	} {
		c := checked(t, weighted(tree(-1, 0, 0), 1000, x.weight, 7))
		checkFix(t, "Level", share.Level(c, []api.Fix{9, x.used, 8}, 1), x.want)
		checkKey(t, "Key", share.Key(c, []api.Fix{9, x.used, 8}, 1), x.want)
	}
	c := checked(t, weighted(tree(-1, 0, 0), 4))
	checkFix(t, "of a sum that is cut", share.Level(c, []api.Fix{0, maxFix, maxFix}, 0), 1<<62-1)
	checkFix(t, "of a sum of parts", share.Level(c, []api.Fix{0, 3, 1}, 0), 1)
}

// 14.1: a Weight below 1 counts as 1; one past 2^32 as the greatest Fix.
func TestWeights(t *testing.T) {
	for _, w := range []int{least, least + 1, -1 << 32, -1000, -2, -1, 0, 1} {
		c := weighted(tree(-1, 0, 0), w, w, w)
		checkFix(t, "Level of the root", share.Level(c, []api.Fix{one, 6 * one, one}, 0), 7*one)
		checkFix(t, "Level", share.Level(c, []api.Fix{one, 6 * one, one}, 1), 6*one)
		checkKey(t, "Key", share.Key(c, []api.Fix{one, 6 * one, one}, 1), 6*one)
	}
	for _, w := range []int{2, api.MaxWeight, api.MaxWeight + 1, 1<<32 - 1, 1 << 32, 1<<32 + 1, 1 << 33, top - 1, top} {
		c := weighted(tree(-1, 0, 0), 1, w, 1)
		for _, used := range samples.Fixes() {
			checkAll(t, c, []api.Fix{0, used, 0}, 1)
		}
	}
	checkFix(t, "Level", share.Level(weighted(tree(-1), top), []api.Fix{maxFix}, 0), one)
}

// 14.1: Key by hand: the Levels from below the root to t, which may be a cohort.
func TestKey(t *testing.T) {
	c := checked(t, weighted(tree(-1, 0, 0, 1, 1, 2, 4), 9, 2, 1, 4, 3, 5, 10))
	h := []api.Fix{one, one, one, 8 * one, one, 10 * one, 60 * one}
	for n, want := range [][]api.Fix{
		{}, {34 * one}, {10 * one}, {34 * one, 2 * one}, {34 * one, 20 * one}, {10 * one, 2 * one}, {34 * one, 20 * one, 6 * one},
	} {
		checkKey(t, "Key", share.Key(c, h, n), want...)
	}
	checkKey(t, "Key of a tenant that is the root", share.Key(checked(t, tree(-1)), []api.Fix{5}, 0))
	deep := checked(t, tree(-1, 0, 1, 2, 3, 4, 5, 6, 7, 8, 9, 10))
	want := make([]api.Fix, 11)
	for n := range want {
		deep.Nodes[n+1].Weight, want[n] = n+1, api.Fix(27720*one)/api.Fix(n+1)
	}
	checkKey(t, "Key of the deepest", share.Key(checked(t, deep), slices.Repeat([]api.Fix{27720 * one}, 12), 11), want...)
}

// 14.1: what is no node has used nothing, by 1, and has no Path.
func TestNoNode(t *testing.T) {
	c := checked(t, weighted(tree(-1, 0, 0, 1, 1), 1, 2, 3, 4, 5))
	h := slices.Repeat([]api.Fix{maxFix}, 8)
	for _, n := range samples.Around(c) {
		if n < 0 || n >= len(c.Nodes) {
			checkFix(t, "Subtree", share.Subtree(c, h, n), 0)
			checkFix(t, "Level", share.Level(c, h, n), 0)
			checkKey(t, "Key", share.Key(c, h, n))
		}
	}
}

// 14.1: trees of each form, lists of all lengths, Weights that may be.
func TestTrees(t *testing.T) {
	l := &samples.Numbers{}
	for i := range 3000 {
		rows := samples.MayBe()
		c := tree(rows[i%len(rows)]...)
		for n := range c.Nodes {
			c.Nodes[n].Weight = 1 + l.UpTo([]int{2, 20, api.MaxWeight - 1}[l.UpTo(2)])
		}
		h := mixed(l, l.UpTo(len(c.Nodes)+2))
		for _, n := range samples.Around(checked(t, c)) {
			checkAll(t, c, h, n)
		}
	}
}

// 14.1: every edge beside every other.
func TestEdges(t *testing.T) {
	c := checked(t, weighted(tree(-1, 0, 1, 1, 0), 1, 3, 1, 7, 1000))
	for _, a := range samples.Fixes() {
		for _, b := range samples.Fixes() {
			for n := range c.Nodes {
				checkAll(t, c, []api.Fix{maxFix, maxFix, a, b, a / 2}, n)
			}
		}
	}
}

// 14.1: no other field is looked at.
func TestOtherFields(t *testing.T) {
	c := weighted(tree(-1, 0, 0), 1, 2, 3)
	h := []api.Fix{0, 4 * one, 6 * one}
	c.Nodes[1].Nominal, c.Nodes[2].Borrow = api.Vec{8, 8, 8}, api.Vec{9, 9, 9}
	c.Hosts, c.Half, c.Age = append(c.Hosts, api.Host{Flavor: 1}), 77, 5
	for n := range c.Nodes {
		checkAll(t, checked(t, c), h, n)
	}
	checkFix(t, "Level", share.Level(c, h, 2), 2*one)
}

// 14.1: if a tenant used more, no Level is lesser, and none is greater but its own and those of its cohorts.
func TestMoreIsNotLess(t *testing.T) {
	l := &samples.Numbers{}
	c := checked(t, weighted(tree(-1, 0, 0, 1, 1, 2, 2, 3, 3, 4, 4, 5), 1, 2, 3, 4, 5, 6, 7, 8, 9, 10, 11, 12))
	for range 300 {
		h := mixed(l, len(c.Nodes))
		n := l.UpTo(len(c.Nodes) - 1)
		more := slices.Clone(h)
		more[n] += (maxFix - more[n]) / api.Fix(1+l.UpTo(9))
		for m := range c.Nodes {
			was, is := share.Level(c, h, m), share.Level(c, more, m)
			if is < was || is > was && !(tenant(c, n) && slices.Contains(ahead(c, n), m)) {
				t.Errorf("Level of %d, %d used more: %d, was %d", m, n, is, was)
			}
		}
	}
}

// R7: in the empty configuration there is no node.
func TestEmpty(t *testing.T) {
	for _, n := range samples.Around(api.Config{}) {
		for _, h := range [][]api.Fix{nil, {}, {one, maxFix}} {
			checkFix(t, "Subtree", share.Subtree(api.Config{}, h, n), 0)
			checkFix(t, "Level", share.Level(api.Config{}, h, n), 0)
			checkKey(t, "Key", share.Key(api.Config{}, h, n))
		}
	}
}

// R1: calls end, and none panics, of configurations that may not be, too; what chapter 10 says of their Paths and of what is below holds here as well.
func TestMayNotBe(t *testing.T) {
	l := &samples.Numbers{}
	for _, row := range samples.MayNotBe() {
		c := tree(row...)
		for n := range c.Nodes {
			c.Nodes[n].Weight = l.UpTo(4) - 1
		}
		for size := range len(row) + 3 {
			h := mixed(l, size)
			for _, n := range samples.Around(c) {
				sum := new(big.Int)
				for _, m := range qtree.Below(c, n) {
					if m < size {
						sum.Add(sum, bigOf(h[m]))
					}
				}
				checkFix(t, "Subtree", share.Subtree(c, h, n), bound(sum))
				var key []api.Fix
				for i, m := range qtree.Path(c, n) {
					if i > 0 {
						key = append(key, share.Level(c, h, m))
					}
				}
				checkKey(t, "Key", share.Key(c, h, n), key...)
			}
		}
	}
}

// R1: calls on long lists end soon.
func TestLong(t *testing.T) {
	const size = 1 << 18
	wide := api.Config{Nodes: make([]api.Node, size)}
	wide.Nodes[0].Parent = -1
	h := slices.Repeat([]api.Fix{one}, 2*size)
	checkFix(t, "Subtree", share.Subtree(wide, h, 0), (size-1)*one)
	checkFix(t, "Level", share.Level(wide, h[:size/2], 0), (size/2-1)*one)
	checkKey(t, "Key", share.Key(wide, h, size-1), one)
	const length = 1 << 11
	deep := api.Config{Nodes: make([]api.Node, length)}
	for n := range deep.Nodes {
		deep.Nodes[n].Parent = n - 1
	}
	checkKey(t, "Key of the deepest", share.Key(deep, h, length-1), h[:length-1]...)
}

// R4: an answer shares no memory with what was handed in, nor with another answer.
func TestMemory(t *testing.T) {
	c := checked(t, tree(-1, 0, 1))
	h := []api.Fix{1, 2, 3}
	for range 2 {
		key := share.Key(c, h, 2)
		checkKey(t, "Key", key, 3, 3)
		key[0], key[1] = 7, 8
	}
	checkKey(t, "h", h, 1, 2, 3)
	first, second := share.Key(c, h, 1), share.Key(c, h, 2)
	_ = append(first, 9)
	checkKey(t, "the second", second, 3, 3)
}

// R4: what is handed in stays, what lies behind its lists' ends too, and is not looked at.
func TestBehindTheEnd(t *testing.T) {
	whole := func() api.Config { return weighted(tree(-1, 0, 0, 1, 1), 1, 2, 3, 4, 5) }
	list := func() []api.Fix { return []api.Fix{one, 2 * one, 3 * one, 4 * one, 5 * one} }
	c, h := whole(), list()
	part := c
	part.Nodes = c.Nodes[:3]
	checkFix(t, "Subtree", share.Subtree(part, h, 0), 5*one)
	checkFix(t, "Subtree of less", share.Subtree(part, h[:2], 0), 2*one)
	checkFix(t, "Level", share.Level(part, h[:3], 2), one)
	checkFix(t, "Level behind the end", share.Level(part, h, 3), 0)
	checkKey(t, "Key", share.Key(part, h[:3], 1), one)
	checkKey(t, "Key behind the end", share.Key(part, h, 3))
	if !reflect.DeepEqual(c, whole()) || !slices.Equal(h, list()) {
		t.Error("what was handed in was changed")
	}
}
