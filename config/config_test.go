package config_test

import (
	"math"
	"math/big"
	"reflect"
	"slices"
	"strconv"
	"testing"

	"tithebarn/api"
	"tithebarn/config"
	"tithebarn/samples"
)

const (
	amount = 1 << 20 // MaxAmount
	most   = 1 << 40 // how far from 0 a sum counts
)

// number is one number of a configuration: its name, where it is, and the least and the greatest it may be.
type number struct {
	name        string
	at          *int
	least, most int
}

// amounts are the numbers of v, each from 0 to most.
func amounts(name string, v *api.Vec, most api.Vec) []number {
	var l []number
	for r := range v {
		l = append(l, number{name + "." + strconv.Itoa(r), &v[r], 0, most[r]})
	}
	return l
}

// numbers are all numbers of c, a tree whose root is a cohort. What a Lend may be hangs on its Nominal, what a Nominal may be on its Lend.
func numbers(c *api.Config) []number {
	all := api.Vec{amount, amount, amount}
	var l []number
	for i := range c.Nodes {
		n, name := &c.Nodes[i], "node "+strconv.Itoa(i)
		quota, lend := all, n.Nominal
		if cohort(*c, i) {
			quota, lend = api.Vec{}, api.Vec{}
		}
		parent := number{name + ".Parent", &n.Parent, 0, i - 1}
		if i == 0 {
			parent.least = -1
		}
		l = append(l, parent, number{name + ".Weight", &n.Weight, 1, 1000})
		nominal := amounts(name+".Nominal", &n.Nominal, quota)
		for r := range nominal {
			nominal[r].least = n.Lend[r]
		}
		l = slices.Concat(l, nominal, amounts(name+".Borrow", &n.Borrow, quota), amounts(name+".Lend", &n.Lend, lend))
	}
	for i := range c.Hosts {
		h, name := &c.Hosts[i], "host "+strconv.Itoa(i)
		l = append(l, number{name + ".Flavor", &h.Flavor, 0, 100}, number{name + ".Block", &h.Block, 0, 100}, number{name + ".Rack", &h.Rack, 0, 100})
		l = append(l, amounts(name+".Cap", &h.Cap, all)...)
	}
	return append(l, number{"Half", &c.Half, 1, 1 << 20}, number{"Age", &c.Age, 0, 1 << 20})
}

// cohort tells whether another node of c has n as its Parent: looked for one by one.
func cohort(c api.Config, n int) bool {
	for _, m := range c.Nodes {
		if m.Parent == n {
			return true
		}
	}
	return false
}

// tree is a configuration that may be, with those Parents, and so many hosts; its numbers are all others.
func tree(hosts int, parents ...int) api.Config {
	c := api.Config{Half: 50, Age: 60}
	for i, p := range parents {
		c.Nodes = append(c.Nodes, api.Node{Parent: p, Weight: 500 + i})
	}
	for i := range c.Nodes {
		if n := &c.Nodes[i]; !cohort(c, i) {
			n.Nominal, n.Borrow, n.Lend = api.Vec{100 + i, 200 + i, 300 + i}, api.Vec{400 + i, 30 + i, 5 + i}, api.Vec{10 + i, 20 + i, 30 + i}
		}
	}
	for i := range hosts {
		c.Hosts = append(c.Hosts, api.Host{Flavor: i, Block: 1 + i, Rack: 2 + i, Cap: api.Vec{1000 + i, 2000 + i, 3000 + i}})
	}
	return c
}

// star is a tree of so many nodes: a root, and all others below it.
func star(nodes, hosts int) api.Config {
	parents := make([]int, nodes)
	if nodes > 0 {
		parents[0] = -1
	}
	return tree(hosts, parents...)
}

// clone is c with lists of its own.
func clone(c api.Config) api.Config {
	c.Nodes, c.Hosts = slices.Clone(c.Nodes), slices.Clone(c.Hosts)
	return c
}

// check holds that Check answers want.
func check(t *testing.T, what string, c api.Config, want api.Errno) {
	t.Helper()
	if err := config.Check(c); err != want {
		t.Errorf("%s: Check: error %d, want %d: %+v", what, err, want, c)
	}
}

// checkLeaves holds Leaf and Leaves of c against a look at each node's Parent.
func checkLeaves(t *testing.T, c api.Config) {
	t.Helper()
	var want []int
	for i := range c.Nodes {
		if !cohort(c, i) {
			want = append(want, i)
		}
	}
	if got := config.Leaves(c); !slices.Equal(got, want) {
		t.Errorf("Leaves: %d, want %d: %+v", got, want, c.Nodes)
	}
	for _, n := range samples.Around(c) {
		if got := config.Leaf(c, n); got != slices.Contains(want, n) {
			t.Errorf("Leaf(%d): %t: %+v", n, got, c.Nodes)
		}
	}
}

// 9.1: the chapter's own example, and ordinary configurations of each size.
func TestCheckMayBe(t *testing.T) {
	one := api.Config{Nodes: []api.Node{{Parent: -1, Weight: 1}}, Hosts: []api.Host{{}}, Half: 1}
	check(t, "one node alone", one, api.OK)
	checkLeaves(t, one)
	if !config.Leaf(one, 0) {
		t.Error("one node alone is no tenant")
	}
	for nodes := 1; nodes <= 12; nodes++ {
		for hosts := 1; hosts <= 24; hosts++ {
			check(t, "star", star(nodes, hosts), api.OK)
		}
	}
	check(t, "chain", tree(3, -1, 0, 1, 2, 3, 4, 5, 6, 7, 8, 9, 10), api.OK)
	check(t, "bush", tree(3, -1, 0, 0, 1, 1, 2, 2, 3, 3, 4, 4, 5), api.OK)
}

// 9.1: how many nodes and hosts there may be.
func TestCheckSizes(t *testing.T) {
	check(t, "nothing", api.Config{}, api.ErrConfig)
	for _, nodes := range []int{0, 13, 14, 100} {
		check(t, strconv.Itoa(nodes)+" nodes", star(nodes, 1), api.ErrConfig)
	}
	long := star(2, 1)
	long.Nodes = append(long.Nodes, slices.Repeat([]api.Node{{Weight: 1}}, 100000)...)
	check(t, "a long list of nodes", long, api.ErrConfig)
	for _, hosts := range []int{0, 25, 26, 100, 100000} {
		c := star(3, 0)
		c.Hosts = make([]api.Host, hosts)
		check(t, strconv.Itoa(hosts)+" hosts", c, api.ErrConfig)
	}
	c := star(3, 1)
	c.Nodes = []api.Node{}
	check(t, "an empty list of nodes", c, api.ErrConfig)
	c = star(3, 1)
	c.Hosts = []api.Host{}
	check(t, "an empty list of hosts", c, api.ErrConfig)
}

// 9.1: each number of a configuration at and past its bounds, and far from them.
func TestCheckNumbers(t *testing.T) {
	for _, c := range []api.Config{star(1, 1), star(12, 24), tree(2, -1, 0, 1, 1, 0, 4), tree(1, -1, 0, 0)} {
		check(t, "as it is", c, api.OK)
		for _, x := range numbers(&c) {
			kept := *x.at
			for _, n := range []int{math.MinInt, math.MinInt + 1, -1 << 32, -100, -2, x.least - 1, x.most + 1, 1 << 21, 1 << 32, 1<<32 + 1, 1 << 41, math.MaxInt} {
				if n < x.least || n > x.most {
					*x.at = n
					check(t, x.name+" "+strconv.Itoa(n), c, api.ErrConfig)
				}
			}
			*x.at = kept
		}
	}
}

// 9.1: each number of a configuration may be each of its bounds. (Another Parent may make a cohort of a tenant: that is held below.)
func TestCheckBounds(t *testing.T) {
	for _, c := range []api.Config{star(1, 1), star(12, 24), tree(2, -1, 0, 1, 1, 0, 4)} {
		for _, x := range numbers(&c) {
			if isParent(c, x.at) {
				continue
			}
			kept := *x.at
			for _, n := range []int{x.least, x.least + 1, (x.least + x.most) / 2, x.most - 1, x.most} {
				if n >= x.least && n <= x.most {
					*x.at = n
					check(t, x.name+" "+strconv.Itoa(n), c, api.OK)
				}
			}
			*x.at = kept
		}
	}
}

// isParent tells whether at is a node's Parent.
func isParent(c api.Config, at *int) bool {
	for i := range c.Nodes {
		if at == &c.Nodes[i].Parent {
			return true
		}
	}
	return false
}

// 9.1: of all rows of Parents those may be in which the first is -1, and each other one from 0 to below its node.
func TestCheckParents(t *testing.T) {
	for size := 1; size <= 5; size++ {
		samples.EachRow(size, -2, size, func(row []int) {
			c := tree(1, row...)
			want := api.OK
			for i, p := range row {
				if i == 0 && p != -1 || i > 0 && (p < 0 || p >= i) {
					want = api.ErrConfig
				}
			}
			check(t, "Parents", c, want)
		})
	}
	for i := 1; i < 12; i++ {
		for p := -1; p <= 12; p++ {
			c := star(12, 1)
			c.Nodes[i].Parent = p
			if p > 0 && p < 12 {
				c.Nodes[p].Nominal, c.Nodes[p].Borrow, c.Nodes[p].Lend = api.Vec{}, api.Vec{}, api.Vec{}
			}
			want := api.ErrConfig
			if p >= 0 && p < i {
				want = api.OK
			}
			check(t, "Parent "+strconv.Itoa(p)+" of "+strconv.Itoa(i), c, want)
		}
	}
}

// 9.1: a cohort has nothing, of each resource; what was a tenant must have nothing when it becomes one.
func TestCheckCohorts(t *testing.T) {
	for _, parents := range [][]int{{-1, 0}, {-1, 0, 1}, {-1, 0, 1, 1, 2}, {-1, 0, 0, 0, 3}, {-1, 0, 1, 2, 3, 4, 5, 6, 7, 8, 9, 10}} {
		for i := range parents {
			for r := range api.NumRes {
				for kind := range 3 {
					c := tree(1, parents...)
					n := &c.Nodes[i]
					for at, v := range []*api.Vec{&n.Nominal, &n.Borrow, &n.Lend} {
						*v = api.Vec{}
						if at == kind || at == 0 && kind == 2 {
							v[r] = 1
						}
					}
					want := api.OK
					if cohort(c, i) {
						want = api.ErrConfig
					}
					check(t, "node "+strconv.Itoa(i), c, want)
				}
			}
		}
	}
	c := star(3, 1)
	c.Nodes = append(c.Nodes, api.Node{Parent: 2, Weight: 1})
	check(t, "a tenant with a quota becomes a cohort", c, api.ErrConfig)
	c.Nodes[2] = api.Node{Weight: 1000}
	check(t, "a tenant without one becomes a cohort", c, api.OK)
}

// 9.1: Lend Fits Nominal in each resource; Borrow may be more.
func TestCheckLend(t *testing.T) {
	for r := range api.NumRes {
		for _, nominal := range []int{0, 1, 5, amount - 1, amount} {
			for _, lend := range []int{0, 1, nominal - 1, nominal, nominal + 1, amount, amount + 1} {
				for _, borrow := range []int{0, nominal, amount} {
					c := star(4, 1)
					n := &c.Nodes[2]
					n.Nominal[r], n.Lend[r], n.Borrow[r] = nominal, lend, borrow
					want := api.ErrConfig
					if lend >= 0 && lend <= nominal {
						want = api.OK
					}
					check(t, "Nominal "+strconv.Itoa(nominal)+", Lend "+strconv.Itoa(lend), c, want)
				}
			}
		}
	}
}

// 9.1: Leaf and Leaves of any configuration: Parents of nodes that aren't there, of the node itself, of each other in a ring, and longer lists than may be.
func TestLeaves(t *testing.T) {
	checkLeaves(t, api.Config{})
	checkLeaves(t, api.Config{Nodes: []api.Node{}})
	for size := 1; size <= 5; size++ {
		samples.EachRow(size, -2, size, func(row []int) { checkLeaves(t, tree(0, row...)) })
	}
	for _, row := range [][]int{
		{0}, {1}, {-1, 1}, {math.MinInt, math.MaxInt, 1 << 32, -1 << 32, 3}, {1, 2, 3, 4, 0}, {-1, -1, -1}, {5, 5, 5, 5, 5, 5},
		{-1, 0, 0, 1, 1}, {-1, 0, 1, 2, 3, 4, 5, 6, 7, 8, 9, 10}, {-1, 0, 0, 0, 0, 0, 0, 0, 0, 0, 0, 0, 0, 12, 13, 13, 13, 20},
	} {
		checkLeaves(t, tree(0, row...))
	}
	own := tree(0, -1, 0, 2)
	if config.Leaf(own, 2) || !slices.Equal(config.Leaves(own), []int{1}) {
		t.Error("a node that is its own Parent is a node's Parent")
	}
}

// 9.1: Leaves of a long list ends soon.
func TestLeavesLong(t *testing.T) {
	const size = 1<<20 + 1
	c := api.Config{Nodes: make([]api.Node, size)}
	for i := range c.Nodes {
		c.Nodes[i].Parent = i/2*2 - 1 // each odd node has two below it, or one
	}
	leaves := config.Leaves(c)
	if len(leaves) != size/2+1 {
		t.Fatalf("%d leaves", len(leaves))
	}
	for i, n := range leaves {
		if n != 2*i {
			t.Fatalf("leaf %d: %d", i, n)
		}
	}
	if !config.Leaf(c, size-1) || config.Leaf(c, size-2) || config.Leaf(c, size) || !config.Leaf(c, 0) {
		t.Error("Leaf of a long list")
	}
}

// cut is x, at least -2^40, at most 2^40.
func cut(x *big.Int) *big.Int {
	if bound := big.NewInt(most); x.CmpAbs(bound) > 0 {
		return bound.Mul(bound, big.NewInt(int64(x.Sign())))
	}
	return x
}

// 9.1: Total is cut host by host, in order, and is never wrapped; of any configuration.
func TestTotal(t *testing.T) {
	edges := []int{math.MinInt, -most - 1, -most, -5, 0, 1, amount, most - 3, most, math.MaxInt}
	for size := 0; size <= 3; size++ {
		samples.EachRow(size, 0, len(edges)-1, func(row []int) {
			var c api.Config
			var want api.Vec
			for i, at := range row {
				c.Hosts = append(c.Hosts, api.Host{Flavor: i, Block: -i, Cap: api.Vec{edges[at], i, edges[len(edges)-1-at]}})
			}
			for r := range want {
				sum := new(big.Int)
				for _, h := range c.Hosts {
					sum = cut(new(big.Int).Add(sum, cut(big.NewInt(int64(h.Cap[r])))))
				}
				want[r] = int(sum.Int64())
			}
			if got := config.Total(c); got != want {
				t.Errorf("Total of %+v: %d, want %d", c.Hosts, got, want)
			}
		})
	}
	full := star(12, 24)
	if got := config.Total(full); got != (api.Vec{24276, 48276, 72276}) {
		t.Errorf("Total of 24 hosts: %d", got)
	}
	for i := range full.Hosts {
		full.Hosts[i].Cap = api.Vec{amount, 0, 1}
	}
	if got := config.Total(full); got != (api.Vec{24 * amount, 0, 24}) {
		t.Errorf("Total of 24 great hosts: %d", got)
	}
	if got := config.Total(api.Config{Nodes: full.Nodes, Hosts: []api.Host{}}); got != (api.Vec{}) {
		t.Errorf("Total of no hosts: %d", got)
	}
}

// 9.1: Same looks at all fields, of configurations that may not be, too.
func TestSame(t *testing.T) {
	for _, full := range []func() api.Config{
		func() api.Config { return star(1, 1) },
		func() api.Config { return star(12, 24) },
		func() api.Config { return tree(30, 7, 3, -2, 0, 0, 9, 1, 1, 1, 1, 1, 1, 1, 1) },
	} {
		a, b := full(), full()
		if !config.Same(a, b) || !config.Same(b, a) || !config.Same(a, a) {
			t.Error("not the same as itself")
		}
		for _, x := range numbers(&b) {
			for _, by := range []int{1, -1, 1 << 32, math.MinInt} {
				kept := *x.at
				*x.at += by
				if config.Same(a, b) || config.Same(b, a) {
					t.Errorf("the same with another %s", x.name)
				}
				*x.at = kept
			}
		}
		for i, do := range []func(c *api.Config){
			func(c *api.Config) { c.Nodes = c.Nodes[1:] },
			func(c *api.Config) { c.Nodes = c.Nodes[:len(c.Nodes)-1] },
			func(c *api.Config) { c.Nodes = append(c.Nodes, api.Node{}) },
			func(c *api.Config) { c.Nodes = nil },
			func(c *api.Config) { c.Hosts = c.Hosts[1:] },
			func(c *api.Config) { c.Hosts = c.Hosts[:len(c.Hosts)-1] },
			func(c *api.Config) { c.Hosts = append(c.Hosts, api.Host{}) },
			func(c *api.Config) { c.Hosts = nil },
		} {
			b := full()
			do(&b)
			if config.Same(a, b) || config.Same(b, a) {
				t.Errorf("the same with another list: %d", i)
			}
		}
	}
	swapped := star(3, 3)
	swapped.Nodes[1], swapped.Nodes[2] = swapped.Nodes[2], swapped.Nodes[1]
	if config.Same(swapped, star(3, 3)) {
		t.Error("the same with nodes in another order")
	}
	swapped = star(3, 3)
	slices.Reverse(swapped.Hosts)
	if config.Same(swapped, star(3, 3)) {
		t.Error("the same with hosts in another order")
	}
}

// R3: an empty list is the same as none.
func TestSameEmpty(t *testing.T) {
	a, b := api.Config{Half: 1, Age: -1}, api.Config{Nodes: []api.Node{}, Hosts: make([]api.Host, 0, 5), Half: 1, Age: -1}
	if !config.Same(a, b) || !config.Same(b, a) || config.Same(a, api.Config{}) {
		t.Error("an empty list is not the same as none")
	}
}

// R4: what is handed in stays, what lies behind its lists' ends too, and is not looked at; no two answers share a list.
func TestMemory(t *testing.T) {
	whole := tree(24, -1, 0, 0, 0, 1, 1, 2, 2, 3, 3, 4, 4)
	c := clone(whole)
	part := c
	part.Nodes, part.Hosts = part.Nodes[:4], part.Hosts[:5]
	for i := 1; i < 4; i++ {
		if !config.Leaf(part, i) {
			t.Errorf("node %d: what lies behind the list's end was looked at", i)
		}
	}
	leaves := config.Leaves(part)
	if config.Check(part) != api.OK || !config.Same(part, part) || config.Total(part) != config.Total(tree(5, -1)) || !slices.Equal(leaves, []int{1, 2, 3}) {
		t.Error("what lies behind a list's end was looked at")
	}
	clear(leaves[:cap(leaves)])
	if !slices.Equal(config.Leaves(part), []int{1, 2, 3}) {
		t.Error("two answers share a list")
	}
	if !reflect.DeepEqual(c, whole) {
		t.Error("what was handed in was changed")
	}
}
