// Package samples is for the tests alone: amounts, trees, gangs, numbers that several layers are tested with, and what the document says of them, written anew.
package samples

import (
	"math"

	"tithebarn/api"
)

// The edges of numbers.
const (
	Amount = 1 << 20 // api.MaxAmount, as the document says it
	Most   = 1 << 40 // how far from 0 a sum counts
	Least  = math.MinInt
	Top    = math.MaxInt
)

// Same is n of each resource.
func Same(n int) api.Vec { return api.Vec{n, n, n} }

// Only is n of resource r, and nothing of the others.
func Only(r, n int) api.Vec {
	var v api.Vec
	v[r] = n
	return v
}

// Cut is n, at least -2^40, at most 2^40.
func Cut(n int) int { return min(max(n, -Most), Most) }

// Fixes are the edges of a Fix, and some between them.
func Fixes() []api.Fix {
	const one, most = api.One, api.MaxFix
	l := []api.Fix{0, 1, 2, 3, one - 1, one, one + 1, 3*one + 7, most/2 - 1, most / 2, most/2 + 1, most - one, most - 1, most}
	for shift := 3; shift < 64; shift += 6 {
		l = append(l, 1<<shift, 1<<shift+1)
	}
	return l
}

// Tree is a configuration with those Parents, whose nodes have no quotas.
func Tree(parents ...int) api.Config {
	c := api.Config{Hosts: []api.Host{{Cap: Same(1)}}, Half: 10}
	for _, p := range parents {
		c.Nodes = append(c.Nodes, api.Node{Parent: p, Weight: 1})
	}
	return c
}

// MayBe are rows of Parents that chapter 9's Check takes.
func MayBe() [][]int {
	return [][]int{
		{-1}, {-1, 0}, {-1, 0, 0}, {-1, 0, 1}, {-1, 0, 0, 1, 1}, {-1, 0, 1, 0, 1, 0, 2}, {-1, 0, 0, 1, 1, 2, 2, 3, 3, 4, 4, 5},
		{-1, 0, 0, 0, 0, 0, 0, 0, 0, 0, 0, 0}, {-1, 0, 1, 2, 3, 4, 5, 6, 7, 8, 9, 10}, {-1, 0, 0, 2, 2, 4, 4, 6, 6, 8, 8, 10},
	}
}

// MayNotBe are rows of Parents that it does not take: roots that have a Parent, more roots than one, Parents that are the node itself, that come behind it, that are not there, rings, more nodes than may be.
func MayNotBe() [][]int {
	return [][]int{
		{}, {0}, {1}, {-2}, {Least}, {Top}, {-1, -1}, {-1, -1, 0, 1, 0, 1}, {-1, 1}, {-1, 2}, {-1, 0, 2}, {1, 0}, {1, 2, 0}, {2, 0, 1},
		{-1, 0, 5, 2, 3, 4}, {-1, 0, 3, 0, 2, 2}, {5, 5, 5, 5, 5, 5}, {Top, 0, Least, 2, 1 << 32, 1<<32 + 1, -1 << 32, 4, 5, 6},
		{-1, 0, 0, 0, 0, 0, 0, 0, 0, 0, 0, 0, 0, 12, 13, 13, 13, 20, 16, 18},
	}
}

// Tenant tells whether n is a node of c, and none has it as its Parent.
func Tenant(c api.Config, n int) bool {
	for _, m := range c.Nodes {
		if m.Parent == n {
			return false
		}
	}
	return n >= 0 && n < len(c.Nodes)
}

// Ahead are the nodes from n up to the root, n the first, of a configuration that may be.
func Ahead(c api.Config, n int) []int {
	if n < 0 || n >= len(c.Nodes) {
		return nil
	}
	return append([]int{n}, Ahead(c, c.Nodes[n].Parent)...)
}

// Around are all nodes of c, and numbers that are none.
func Around(c api.Config) []int {
	l := []int{Least, Least + 1, -1 << 32, -12, -2, 1 << 32, 1<<32 + 1, Top - 1, Top}
	for n := -1; n <= len(c.Nodes)+1; n++ {
		l = append(l, n)
	}
	return l
}

// Runs is a gang of that tenant that runs.
func Runs(t, pods int, need api.Vec) api.Running {
	return api.Running{Gang: api.Gang{Id: 1, Tenant: t, Pods: pods, Need: need, Run: 1}}
}

// Numbers is a row of numbers that look mixed, the same ones each time.
type Numbers struct{ last uint64 }

// UpTo is the next number, from 0 to n.
func (l *Numbers) UpTo(n int) int {
	l.last = l.last*6364136223846793005 + 1442695040888963407
	return int((l.last >> 33) % uint64(n+1))
}

// Vec is the next amount, each number from low to high.
func (l *Numbers) Vec(low, high int) api.Vec {
	var v api.Vec
	for r := range v {
		v[r] = low + l.UpTo(high-low)
	}
	return v
}

// Vecs are the next so many amounts.
func (l *Numbers) Vecs(size, low, high int) []api.Vec {
	var all []api.Vec
	for range size {
		all = append(all, l.Vec(low, high))
	}
	return all
}

// EachRow calls visit with every row of so many numbers from least to most.
func EachRow(size, least, most int, visit func(row []int)) {
	row := make([]int, size)
	var fill func(at int)
	fill = func(at int) {
		if at == size {
			visit(row)
			return
		}
		for n := least; n <= most; n++ {
			row[at] = n
			fill(at + 1)
		}
	}
	fill(0)
}
