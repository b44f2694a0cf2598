package usage_test

import (
	"math/big"
	"reflect"
	"slices"
	"testing"

	"tithebarn/api"
	"tithebarn/config"
	"tithebarn/decay"
	"tithebarn/samples"
	"tithebarn/usage"
)

const (
	one    = api.One
	most   = samples.Most
	least  = samples.Least
	top    = samples.Top
	amount = samples.Amount
	maxFix = api.MaxFix
)

var same, only, tree, tenant, cut, runs = samples.Same, samples.Only, samples.Tree, samples.Tenant, samples.Cut, samples.Runs

// withHosts is c with hosts of those Caps.
func withHosts(c api.Config, caps ...api.Vec) api.Config {
	c.Hosts = nil
	for i, v := range caps {
		c.Hosts = append(c.Hosts, api.Host{Flavor: i % 2, Rack: i, Cap: v})
	}
	return c
}

// checked is c, held to be one that chapter 9's Check takes.
func checked(t *testing.T, c api.Config) api.Config {
	t.Helper()
	if config.Check(c) != api.OK {
		t.Fatalf("a configuration that may not be: %+v", c)
	}
	return c
}

// ticks are numbers below 0, at 0, at whole halves of 10, at 2^32, at the ends of int.
func ticks() []int {
	return []int{
		least, least + 1, -1 << 32, -10, -1, 0, 1, 2, 3, 5, 9, 10, 11, 20, 639, 640, 1 << 20,
		1<<31 - 1, 1 << 31, 1<<32 - 1, 1 << 32, 1<<32 + 1, 1 << 40, top - 1, top,
	}
}

// halves are half-lives that may be, and such as may not.
func halves() []int { return []int{least, -1, 0, 1, 2, 3, 10, 1000, 1 << 20, 1 << 40, top} }

func bigOf(a api.Fix) *big.Int { return new(big.Int).SetUint64(uint64(a)) }

// bound is x, at most MaxFix.
func bound(x *big.Int) api.Fix {
	if !x.IsUint64() {
		return maxFix
	}
	return api.Fix(x.Uint64())
}

// product is a times b in parts of 2^32, rounded down, at most MaxFix.
func product(a, b api.Fix) api.Fix {
	x := new(big.Int).Mul(bigOf(a), bigOf(b))
	return bound(x.Rsh(x, 32))
}

// whole is n in parts of 2^32, at least 0, at most MaxFix.
func whole(n int) api.Fix {
	return bound(new(big.Int).Lsh(big.NewInt(int64(max(n, 0))), 32))
}

// wantTick is what the chapter says of one number of Tick.
func wantTick(was, share api.Fix, n, half int) api.Fix {
	left, more := product(was, decay.Factor(n, half)), product(share, whole(n))
	return bound(new(big.Int).Add(bigOf(left), bigOf(more)))
}

// wantShares is what the chapter says of Shares.
func wantShares(c api.Config, r []api.Running) []api.Fix {
	var all api.Vec
	for _, h := range c.Hosts {
		all = sum(all, h.Cap)
	}
	want := make([]api.Fix, len(c.Nodes))
	for n := range want {
		var use api.Vec
		for _, x := range r {
			if tenant(c, n) && x.Gang.Tenant == n {
				use = sum(use, times(x.Gang.Need, x.Gang.Pods))
			}
		}
		want[n] = part(use, all)
	}
	return want
}

// sum is a and b together, cut.
func sum(a, b api.Vec) api.Vec {
	for i := range a {
		a[i] = cut(cut(a[i]) + cut(b[i]))
	}
	return a
}

// times is n times v, cut.
func times(v api.Vec, n int) api.Vec {
	for i := range v {
		v[i] = cut(cut(v[i]) * min(max(n, -amount), amount))
	}
	return v
}

// part is the greatest part that use has of all.
func part(use, all api.Vec) api.Fix {
	var greatest api.Fix
	for i := range use {
		if use[i] > 0 && all[i] <= 0 {
			return maxFix
		}
		if use[i] > 0 {
			x := new(big.Int).Lsh(big.NewInt(int64(use[i])), 32)
			greatest = max(greatest, bound(x.Quo(x, big.NewInt(int64(all[i])))))
		}
	}
	return greatest
}

// checkFixes holds that a list is want.
func checkFixes(t *testing.T, what string, got []api.Fix, want ...api.Fix) {
	t.Helper()
	if !slices.Equal(got, want) {
		t.Errorf("%s: %d, want %d", what, got, want)
	}
}

// 13.1: the chapter's own example.
func TestExample(t *testing.T) {
	checkFixes(t, "Tick", usage.Tick([]api.Fix{one}, []api.Fix{one}, 10, 10), 1<<31+10*one)
}

// 13.1: Tick by hand: what is left, and the share of each tick; both are rounded down, and neither they nor their sum wrap.
func TestTick(t *testing.T) {
	for _, x := range []struct {
		was, share api.Fix
		n, half    int
		want       api.Fix
	}{
		{0, 0, 0, 1, 0}, {0, 0, 10, 10, 0}, {one, 0, 10, 10, 1 << 31}, {one, 0, 5, 10, 3037000499}, {one, 0, 640, 10, 0}, {8 * one, 0, 30, 10, one},
		{0, one, 1, 10, one}, {0, one, 7, 10, 7 * one}, {0, one / 4, 6, 10, one + one/2}, {0, 1, 1, 1, 1}, {0, 3, 5, 1, 15}, {0, 2 * one, 640, 10, 1280 * one},
		{4 * one, one / 2, 20, 10, 11 * one}, {3, 1, 1, 1, 2}, {1, 1, 1, 1, 1}, {7, 5, 2, 1, 11},
		{one, one, 0, 10, one}, {one, one, -1, 10, one}, {one, one, -10, 10, one}, {one, one, least, 10, one}, {maxFix, maxFix, 0, 1, maxFix}, {maxFix, maxFix, -1, 1, maxFix},
		{8 * one, one, 3, 0, 4 * one}, {8 * one, one, 3, -7, 4 * one}, {8 * one, one, 3, least, 4 * one}, {8 * one, one, 3, 1, 4 * one},
		{one, 0, 1 << 20, 1 << 20, 1 << 31}, {0, one, 1 << 20, 1 << 20, one << 20},
		{0, one, 1<<32 - 1, 1, (1<<32 - 1) << 32}, {0, one, 1 << 32, 1, maxFix}, {0, one, 1 << 40, 1, maxFix}, {0, one, top, 1, maxFix},
		{0, 1, 1<<32 - 1, 1, 1<<32 - 1}, {0, 1, 1 << 32, 1, 1<<32 - 1}, {0, 1, 1 << 40, 1, 1<<32 - 1}, {0, 1, top, top, 1<<32 - 1}, {0, 2, 1 << 32, 1, 1<<33 - 1},
		{0, maxFix, 1, 1, maxFix}, {0, maxFix, 2, 1, maxFix}, {0, 1 << 63, 2, 1, maxFix}, {0, 1<<63 - 1, 2, 1, maxFix - 1},
		{maxFix, one, 1, top, maxFix}, {maxFix, 1<<63 - 1, 1, 1, maxFix - 1}, {maxFix, 1 << 63, 1, 1, maxFix}, {maxFix, 1<<63 + 1, 1, 1, maxFix},
	} {
		checkFixes(t, "Tick", usage.Tick([]api.Fix{x.was}, []api.Fix{x.share}, x.n, x.half), x.want)
	}
}

// 13.1: lists of which one is longer: h alone tells how many are answered, and what shares do not have counts as 0.
func TestTickSizes(t *testing.T) {
	h, shares := []api.Fix{one, 4 * one, 8, 0, 2 * one}, []api.Fix{one, 2 * one, 3, one / 2, 0}
	left := []api.Fix{one / 2, 2 * one, 4, 0, one}
	more := []api.Fix{10 * one, 20 * one, 30, 5 * one, 0}
	for size := range len(h) + 1 {
		for given := range len(shares) + 1 {
			want := slices.Clone(left[:size])
			for i := range min(size, given) {
				want[i] += more[i]
			}
			checkFixes(t, "Tick", usage.Tick(h[:size:size], shares[:given:given], 10, 10), want...)
		}
		checkFixes(t, "Tick without shares", usage.Tick(h[:size], nil, 10, 10), left[:size]...)
		checkFixes(t, "Tick of none", usage.Tick(nil, shares[:size], 10, 10))
	}
}

// 13.1: a list of all edges, and the same shares in another order, at all ticks and half-lives.
func TestTickIsExact(t *testing.T) {
	h := samples.Fixes()
	for turn := range h {
		shares := append(slices.Clone(h[turn:]), h[:turn]...)
		for _, n := range ticks() {
			for _, half := range halves() {
				var want []api.Fix
				for i := range h {
					want = append(want, wantTick(h[i], shares[i], n, half))
				}
				checkFixes(t, "Tick", usage.Tick(h, shares, n, half), want...)
			}
		}
	}
}

// 13.2: nothing is above what was there and n times the share.
func TestNothingIsAbove(t *testing.T) {
	h := samples.Fixes()
	for _, n := range ticks() {
		for _, half := range halves() {
			for _, share := range h {
				for i, got := range usage.Tick(h, slices.Repeat([]api.Fix{share}, len(h)), n, half) {
					most := new(big.Int).Mul(bigOf(share), big.NewInt(int64(max(n, 0))))
					if bigOf(got).Cmp(most.Add(most, bigOf(h[i]))) > 0 {
						t.Errorf("Tick of %d, share %d, n %d, half %d: %d is above %d", h[i], share, n, half, got, most)
					}
				}
			}
		}
	}
}

// T6: what was used is half as much behind each half-life, and nothing behind 64; who used more has no less left.
func TestForgetting(t *testing.T) {
	for _, half := range []int{1, 2, 3, 10, 1 << 20} {
		want := []api.Fix{0, one, 7*one + 5, 1 << 63, maxFix}
		h := slices.Clone(want)
		for range 65 {
			h = usage.Tick(h, nil, half, half)
			for i := range want {
				want[i] /= 2
			}
			checkFixes(t, "behind a half-life more", h, want...)
		}
	}
	h := samples.Fixes()
	slices.Sort(h)
	for _, n := range ticks() {
		for _, half := range halves() {
			if got := usage.Tick(h, slices.Repeat([]api.Fix{one + 1}, len(h)), n, half); !slices.IsSorted(got) {
				t.Errorf("Tick of %d, n %d, half %d: not in order: %d", h, n, half, got)
			}
		}
	}
}

// 13.1: Shares by hand: the greatest part of what all hosts have together, in each resource.
func TestShares(t *testing.T) {
	c := checked(t, withHosts(tree(-1, 0, 0, 1, 1), api.Vec{2, 8, 0}, api.Vec{1, 0, 4}, api.Vec{1, 0, 12}))
	checkFixes(t, "of none", usage.Shares(c, nil), 0, 0, 0, 0, 0)
	checkFixes(t, "of an empty list", usage.Shares(c, []api.Running{}), 0, 0, 0, 0, 0)
	for r, all := range (api.Vec{4, 8, 16}) {
		for n := range 2 * all {
			want := api.Fix(n) * one / api.Fix(all)
			checkFixes(t, "of one", usage.Shares(c, []api.Running{runs(3, 1, only(r, n))}), 0, 0, 0, want, 0)
			checkFixes(t, "of two", usage.Shares(c, []api.Running{runs(2, 1, only(r, n)), runs(4, 2, only(r, n))}), 0, 0, want, 0, 2*want)
		}
	}
	r := []api.Running{runs(3, 2, api.Vec{1, 2, 1}), runs(2, 1, api.Vec{1, 3, 5}), runs(3, 1, api.Vec{0, 0, 15}), runs(4, 3, api.Vec{0, 0, 1})}
	checkFixes(t, "of four", usage.Shares(c, r), 0, 0, 3*one/8, 17*one/16, 3*one/16)
	slices.Reverse(r)
	checkFixes(t, "of four, turned round", usage.Shares(c, r), 0, 0, 3*one/8, 17*one/16, 3*one/16)
	checkFixes(t, "rounded down", usage.Shares(checked(t, withHosts(tree(-1, 0, 0), same(3))), []api.Running{runs(1, 1, same(1)), runs(2, 2, same(1))}), 0, 1431655765, 2863311530)
	checkFixes(t, "of a tenant that is the root", usage.Shares(checked(t, withHosts(tree(-1), same(8))), []api.Running{runs(0, 2, same(3))}), 3*one/4)
}

// 13.1: who uses what no host has, has the greatest share; who does not use it, has not.
func TestSharesOfNothing(t *testing.T) {
	c := checked(t, withHosts(tree(-1, 0, 0), api.Vec{4, 0, 8}, api.Vec{0, 0, 0}))
	r := []api.Running{runs(1, 1, api.Vec{0, 1, 0}), runs(2, 1, api.Vec{2, 0, 1})}
	checkFixes(t, "Shares", usage.Shares(c, r), 0, maxFix, one/2)
	r[1].Gang.Need = api.Vec{}
	checkFixes(t, "Shares", usage.Shares(c, r), 0, maxFix, 0)
}

// 13.1: a cohort has no share, and neither has what is no node; nobody else has any of theirs.
func TestSharesOfNoTenant(t *testing.T) {
	c := checked(t, withHosts(tree(-1, 0, 0, 1, 1), same(8)))
	r := []api.Running{runs(2, 1, same(1)), runs(3, 1, same(2))}
	for _, n := range samples.Around(c) {
		if !tenant(c, n) {
			checkFixes(t, "Shares", usage.Shares(c, append(slices.Clone(r), runs(n, 2, same(9)))), 0, 0, one/8, one/4, 0)
			checkFixes(t, "Shares", usage.Shares(c, []api.Running{runs(n, 2, same(9))}), 0, 0, 0, 0, 0)
		}
	}
}

// 13.1: what is used is Pods times Need; no other field of what runs is looked at, nor of the nodes.
func TestSharesOtherFields(t *testing.T) {
	c := withHosts(tree(-1, 0, 0), same(16))
	g := api.Gang{Id: 7, Tenant: 2, Pods: 3, Need: api.Vec{1, 2, 3}, Run: 9, Level: api.LevelRack, Prefer: 1}
	x := api.Running{Gang: g, Seq: 4, At: 5, Start: 6, Flavor: 1, Hosts: []int{0, 0, 0}}
	checkFixes(t, "Shares", usage.Shares(c, []api.Running{x, x}), 0, 0, 18*one/16)
	c.Nodes[2] = api.Node{Weight: 1000, Nominal: same(1), Borrow: same(2), Lend: same(1)}
	c.Half, c.Age = 77, 5
	c.Hosts[0].Flavor, c.Hosts[0].Block, c.Hosts[0].Rack = 1, 2, 3
	checkFixes(t, "Shares", usage.Shares(checked(t, c), []api.Running{x, x}), 0, 0, 18*one/16)
}

// 13.1: gangs and hosts that look mixed, on trees of each form.
func TestSharesTrees(t *testing.T) {
	l := samples.Numbers{}
	for i := range 600 {
		rows := samples.MayBe()
		high := []int{1, 9, 1000, amount}[l.UpTo(3)]
		c := checked(t, withHosts(tree(rows[i%len(rows)]...), l.Vecs(1+l.UpTo(api.MaxHosts-1), 0, high)...))
		var r []api.Running
		for range l.UpTo(api.MaxPending) {
			r = append(r, runs(l.UpTo(len(c.Nodes)+1)-1, 1+l.UpTo(api.MaxPods-1), l.Vec(0, high)))
		}
		got := usage.Shares(c, r)
		checkFixes(t, "Shares", got, wantShares(c, r)...)
		h := usage.Tick(usage.Zero(c), got, 1, c.Half)
		checkFixes(t, "Tick of Zero and Shares", h, got...)
	}
}

// 13.1: the greatest configuration, and the most that may run.
func TestSharesAtTheLimits(t *testing.T) {
	c := checked(t, withHosts(tree(-1, 0, 0, 0, 0, 0, 0, 0, 0, 0, 0, 0), slices.Repeat([]api.Vec{same(amount)}, api.MaxHosts)...))
	r := slices.Repeat([]api.Running{runs(11, api.MaxPods, same(amount))}, api.MaxPending)
	want := make([]api.Fix, api.MaxNodes)
	want[11] = one * api.MaxPods * api.MaxPending / api.MaxHosts
	checkFixes(t, "Shares", usage.Shares(c, r), want...)
	c = checked(t, withHosts(c, api.Vec{1, amount, amount}))
	want[11] = one * api.MaxPods * api.MaxPending * amount
	checkFixes(t, "Shares of one", usage.Shares(c, r), want...)
}

// 13.1: numbers of any size: sums and products are cut, in order, and nothing wraps.
func TestSharesOfAnyNumbers(t *testing.T) {
	edges := []int{least, -most - 1, -amount, -1, 0, 1, 16, amount, most - 1, most, most + 1, top}
	size := len(edges)
	for i := range size * size * size {
		first, second, third := edges[i%size], edges[i/size%size], edges[i/size/size]
		c := withHosts(tree(-1, 0, 0), api.Vec{first, 7, third}, api.Vec{second, 1, 1})
		r := []api.Running{runs(1, third, api.Vec{first, second, 1}), runs(2, 1, api.Vec{second, first, third}), runs(1, second, api.Vec{third, 1, first})}
		checkFixes(t, "Shares", usage.Shares(c, r), wantShares(c, r)...)
	}
}

// 13.1: Zero has a 0 of each node, a cohort's too.
func TestZero(t *testing.T) {
	for _, row := range slices.Concat(samples.MayBe(), samples.MayNotBe()) {
		checkFixes(t, "Zero", usage.Zero(tree(row...)), make([]api.Fix, len(row))...)
	}
	checkFixes(t, "Zero of the empty configuration", usage.Zero(api.Config{}))
}

// R7: in the empty configuration there is no node.
func TestEmpty(t *testing.T) {
	for _, n := range samples.Around(api.Config{}) {
		checkFixes(t, "Shares", usage.Shares(api.Config{}, []api.Running{runs(n, 1, same(1))}))
	}
}

// R1: calls end, and none panics, of configurations that may not be, too.
func TestMayNotBe(t *testing.T) {
	for _, row := range samples.MayNotBe() {
		for _, v := range []api.Vec{{}, same(1), same(top), same(least), {-1, 0, most + 1}} {
			c := withHosts(tree(row...), v, same(v[2]))
			for _, n := range samples.Around(c) {
				if got := usage.Shares(c, []api.Running{runs(n, v[2], v), runs(n, v[0], v)}); len(got) != len(row) {
					t.Errorf("Shares of %d nodes: %d", len(row), got)
				}
			}
		}
	}
}

// R1: calls on long lists end soon.
func TestLong(t *testing.T) {
	const size = 1 << 18
	c := api.Config{Nodes: make([]api.Node, size), Hosts: slices.Repeat([]api.Host{{Cap: same(1)}}, size)}
	for n := range c.Nodes {
		c.Nodes[n].Parent = -1
	}
	want := make([]api.Fix, size)
	checkFixes(t, "Zero", usage.Zero(c), want...)
	want[size-1] = one / 2
	shares := usage.Shares(c, []api.Running{runs(size-1, 2, same(size/4))})
	checkFixes(t, "Shares", shares, want...)
	want[size-1] = 5 * one
	checkFixes(t, "Tick", usage.Tick(usage.Zero(c), shares, 10, 10), want...)
	short := checked(t, withHosts(tree(-1, 0, 0), same(amount)))
	r := slices.Repeat([]api.Running{runs(2, 1, same(1))}, size)
	checkFixes(t, "Shares", usage.Shares(short, r), 0, 0, one/4)
}

// R4: an answer shares no memory with what was handed in, nor with another answer.
func TestMemory(t *testing.T) {
	c := checked(t, withHosts(tree(-1, 0, 0), same(2)))
	r := []api.Running{runs(1, 1, same(1))}
	for range 2 {
		zero, shares := usage.Zero(c), usage.Shares(c, r)
		checkFixes(t, "Zero", zero, 0, 0, 0)
		checkFixes(t, "Shares", shares, 0, one/2, 0)
		zero[1], shares[1] = 7, 8
	}
	h, shares := []api.Fix{1, 2, 3}, []api.Fix{4, 5, 6}
	first := usage.Tick(h, shares, 0, 1)
	second := usage.Tick(h, shares, 0, 1)
	first[0], second[1] = 9, 9
	checkFixes(t, "first", first, 9, 2, 3)
	checkFixes(t, "second", second, 1, 9, 3)
	checkFixes(t, "h", h, 1, 2, 3)
	checkFixes(t, "shares", shares, 4, 5, 6)
	twice := usage.Tick(h, h, 1, 1)
	checkFixes(t, "Tick of one list twice", twice, 1, 3, 4)
	checkFixes(t, "h", h, 1, 2, 3)
}

// R4: what is handed in stays, what lies behind its lists' ends too, and is not looked at.
func TestBehindTheEnd(t *testing.T) {
	config := func() api.Config { return withHosts(tree(-1, 0, 0, 2), same(4), same(12)) }
	list := func() []api.Running {
		return []api.Running{runs(1, 1, same(1)), runs(2, 1, same(2)), runs(1, 1, same(4))}
	}
	c, all := config(), list()
	part := api.Config{Nodes: c.Nodes[:3], Hosts: c.Hosts[:1], Half: 10}
	checkFixes(t, "Zero", usage.Zero(part), 0, 0, 0)
	checkFixes(t, "Shares", usage.Shares(part, all[:2]), 0, one/4, one/2)
	if !reflect.DeepEqual(c, config()) || !reflect.DeepEqual(all, list()) {
		t.Error("what was handed in was changed")
	}
	h, shares := []api.Fix{4, 5, 6}, []api.Fix{1, 2, 3}
	checkFixes(t, "Tick", usage.Tick(h[:2], shares[:1], 1, 1), 3, 2)
	checkFixes(t, "h", h, 4, 5, 6)
	checkFixes(t, "shares", shares, 1, 2, 3)
}
