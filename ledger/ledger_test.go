package ledger_test

import (
	"reflect"
	"slices"
	"testing"

	"tithebarn/api"
	"tithebarn/config"
	"tithebarn/ledger"
	"tithebarn/samples"
)

const (
	amount = samples.Amount
	most   = samples.Most
	least  = samples.Least
	top    = samples.Top
)

var same, only, tree, tenant, ahead, cut, runs = samples.Same, samples.Only, samples.Tree, samples.Tenant, samples.Ahead, samples.Cut, samples.Runs

// trees are configurations that chapter 9's Check takes.
func trees(t *testing.T) []api.Config {
	t.Helper()
	var all []api.Config
	for _, row := range samples.MayBe() {
		all = append(all, checked(t, tree(row...)))
	}
	return all
}

// checked is c, held to be one that chapter 9's Check takes.
func checked(t *testing.T, c api.Config) api.Config {
	t.Helper()
	if config.Check(c) != api.OK {
		t.Fatalf("a configuration that may not be: %+v", c)
	}
	return c
}

// book is what the chapter says of a ledger: of each node what it uses.
type book struct {
	c    api.Config
	used []api.Vec
}

// newBook is a book in which nobody uses anything.
func newBook(c api.Config) book { return book{c, make([]api.Vec, len(c.Nodes))} }

// add counts v, times so much, of all nodes on t's path; the sums are cut.
func (b book) add(t int, v api.Vec, times int) {
	for _, n := range ahead(b.c, t) {
		for r := range v {
			b.used[n][r] = cut(b.used[n][r] + cut(cut(v[r])*times))
		}
	}
}

// valid tells whether each of v is 0 to MaxAmount.
func valid(v api.Vec) bool {
	for _, n := range v {
		if n < 0 || n > amount {
			return false
		}
	}
	return true
}

// take is what Take answers, and does.
func (b book) take(t int, v api.Vec) api.Errno {
	if !valid(v) {
		return api.ErrArg
	}
	if !tenant(b.c, t) {
		return api.ErrTenant
	}
	b.add(t, v, 1)
	return api.OK
}

// give is what Give answers, and does.
func (b book) give(t int, v api.Vec) api.Errno {
	for r := range v {
		has := 0
		if tenant(b.c, t) {
			has = b.used[t][r]
		}
		if !valid(v) || v[r] > has {
			return api.ErrArg
		}
	}
	if !tenant(b.c, t) {
		return api.ErrTenant
	}
	b.add(t, v, -1)
	return api.OK
}

// wantOf is what the chapter says of Of.
func wantOf(c api.Config, r []api.Running) []api.Vec {
	b := newBook(c)
	for _, x := range r {
		if tenant(c, x.Gang.Tenant) {
			b.add(x.Gang.Tenant, x.Gang.Need, min(max(x.Gang.Pods, -amount), amount))
		}
	}
	return b.used
}

// pair is a ledger, and what the chapter says of it.
type pair struct {
	l *ledger.Ledger
	b book
}

// begin is a pair in which nobody uses anything.
func begin(c api.Config) pair { return pair{ledger.New(c), newBook(c)} }

// take holds that Take answers and does what the chapter says.
func (p pair) take(t *testing.T, n int, v api.Vec) api.Errno {
	t.Helper()
	got, want := p.l.Take(n, v), p.b.take(n, v)
	if got != want {
		t.Errorf("Take of %d, %d: %d, want %d: %d", n, v, got, want, p.b)
	}
	p.check(t)
	return got
}

// give holds that Give answers and does what the chapter says.
func (p pair) give(t *testing.T, n int, v api.Vec) api.Errno {
	t.Helper()
	got, want := p.l.Give(n, v), p.b.give(n, v)
	if got != want {
		t.Errorf("Give of %d, %d: %d, want %d: %d", n, v, got, want, p.b)
	}
	p.check(t)
	return got
}

// check holds that the ledger tells what the book has.
func (p pair) check(t *testing.T) {
	t.Helper()
	if got := p.l.All(); !slices.Equal(got, p.b.used) {
		t.Fatalf("All: %d, want %d", got, p.b)
	}
	for n := -1; n <= len(p.b.used); n++ {
		var want api.Vec
		if n >= 0 && n < len(p.b.used) {
			want = p.b.used[n]
		}
		if got := p.l.Used(n); got != want {
			t.Fatalf("Used of %d: %d, want %d", n, got, want)
		}
	}
}

// checkErr holds that a call answered want.
func checkErr(t *testing.T, what string, got, want api.Errno) {
	t.Helper()
	if got != want {
		t.Errorf("%s: %d, want %d", what, got, want)
	}
}

// checkUsed holds that node n uses want.
func checkUsed(t *testing.T, l *ledger.Ledger, n int, want api.Vec) {
	t.Helper()
	if got := l.Used(n); got != want {
		t.Errorf("Used of %d: %d, want %d", n, got, want)
	}
}

// checkVecs holds that a list is want.
func checkVecs(t *testing.T, what string, got []api.Vec, want ...api.Vec) {
	t.Helper()
	if !slices.Equal(got, want) {
		t.Errorf("%s: %d, want %d", what, got, want)
	}
}

// 12.1: the chapter's own example, in each resource.
func TestExample(t *testing.T) {
	for r := range api.NumRes {
		l := ledger.New(checked(t, tree(-1, 0, 0)))
		checkErr(t, "Take", l.Take(1, only(r, 1)), api.OK)
		checkErr(t, "Take", l.Take(2, only(r, 2)), api.OK)
		checkUsed(t, l, 0, only(r, 3))
		checkUsed(t, l, 1, only(r, 1))
		checkUsed(t, l, 2, only(r, 2))
		checkVecs(t, "All", l.All(), only(r, 3), only(r, 1), only(r, 2))
		checkErr(t, "Give", l.Give(2, only(r, 1)), api.OK)
		checkVecs(t, "All", l.All(), only(r, 2), only(r, 1), only(r, 1))
	}
}

// 12.1: in a new ledger nobody uses anything, and there is nothing to be given.
func TestNew(t *testing.T) {
	for _, c := range append(trees(t), api.Config{}) {
		l := ledger.New(c)
		checkVecs(t, "All", l.All(), make([]api.Vec, len(c.Nodes))...)
		for _, n := range samples.Around(c) {
			checkUsed(t, l, n, api.Vec{})
			for r := range api.NumRes {
				checkErr(t, "Give", l.Give(n, only(r, 1)), api.ErrArg)
			}
			want := api.ErrTenant
			if tenant(c, n) {
				want = api.OK
			}
			checkErr(t, "Give of nothing", l.Give(n, api.Vec{}), want)
			checkErr(t, "Take of nothing", l.Take(n, api.Vec{}), want)
		}
		checkVecs(t, "All", l.All(), make([]api.Vec, len(c.Nodes))...)
	}
}

// 12.1: what a tenant takes and gives, all nodes on its path do, and no others.
func TestPath(t *testing.T) {
	c := checked(t, tree(-1, 0, 1, 2, 2, 1, 0, 0, 7, 7)) // 3 and 4 in 2; 5 and 2 in 1; 6, 7 and 1 in 0; 8 and 9 in 7
	for n, path := range map[int][]int{3: {0, 1, 2, 3}, 4: {0, 1, 2, 4}, 5: {0, 1, 5}, 6: {0, 6}, 8: {0, 7, 8}, 9: {0, 7, 9}} {
		l := ledger.New(c)
		checkErr(t, "Take", l.Take(n, api.Vec{5, 6, 7}), api.OK)
		want := make([]api.Vec, len(c.Nodes))
		for _, m := range path {
			want[m] = api.Vec{5, 6, 7}
		}
		checkVecs(t, "All", l.All(), want...)
		checkErr(t, "Give", l.Give(n, api.Vec{5, 0, 2}), api.OK)
		for _, m := range path {
			want[m] = api.Vec{0, 6, 5}
		}
		checkVecs(t, "All", l.All(), want...)
	}
}

// 12.1: what is not Valid is refused ahead of all else, what is no tenant behind it; nothing is changed.
func TestRefused(t *testing.T) {
	for _, c := range trees(t) {
		p := begin(c)
		for n := range c.Nodes {
			if tenant(c, n) {
				p.take(t, n, same(amount))
				p.take(t, n, same(9))
			}
		}
		for _, n := range samples.Around(c) {
			for _, bad := range []int{-1, -2, amount + 1, amount + 2, 1 << 32, 1<<32 + 1, -1 << 32, most + 1, least, top} {
				for r := range api.NumRes {
					v := same(1)
					v[r] = bad
					checkErr(t, "Take", p.take(t, n, v), api.ErrArg)
					checkErr(t, "Give", p.give(t, n, v), api.ErrArg)
				}
			}
			if !tenant(c, n) {
				for _, v := range []api.Vec{{}, same(1), same(amount), only(2, 1)} {
					checkErr(t, "Take", p.take(t, n, v), api.ErrTenant)
				}
				checkErr(t, "Give", p.give(t, n, api.Vec{}), api.ErrTenant)
				for r := range api.NumRes {
					checkErr(t, "Give", p.give(t, n, only(r, 1)), api.ErrArg)
				}
			}
		}
	}
}

// 12.1: a tenant gives what it uses itself, and no more, of any resource; what its cohort uses is not its own.
func TestGive(t *testing.T) {
	c := checked(t, tree(-1, 0, 0, 1, 1))
	for r := range api.NumRes {
		p := begin(c)
		p.take(t, 2, same(50))
		p.take(t, 3, same(4))
		p.take(t, 4, same(50))
		v := only(r, 5)
		checkErr(t, "more than it uses", p.give(t, 3, v), api.ErrArg)
		v[r] = 3
		checkErr(t, "less than it uses", p.give(t, 3, v), api.OK)
		v[r] = 2
		checkErr(t, "more than is left", p.give(t, 3, v), api.ErrArg)
		v[r] = 1
		checkErr(t, "all that is left", p.give(t, 3, v), api.OK)
		checkErr(t, "once more", p.give(t, 3, v), api.ErrArg)
		checkErr(t, "nothing", p.give(t, 3, api.Vec{}), api.OK)
		checkErr(t, "of a cohort", p.give(t, 1, v), api.ErrArg)
		checkErr(t, "nothing of a cohort", p.give(t, 1, api.Vec{}), api.ErrTenant)
	}
}

// 12.1, 12.2: takes and gives that look mixed, on trees of each form; each cohort uses what all tenants below it do.
func TestTrees(t *testing.T) {
	l, refused, done := samples.Numbers{}, 0, 0
	for i := range 200 {
		c := trees(t)[i%len(trees(t))]
		p := begin(c)
		for range 60 {
			n, v, err := l.UpTo(len(c.Nodes)+1)-1, l.Vec(0, l.UpTo(9)), api.OK
			if l.UpTo(20) == 0 {
				v[l.UpTo(2)] = amount + l.UpTo(1)
			}
			if l.UpTo(1) == 0 {
				err = p.take(t, n, v)
			} else {
				err = p.give(t, n, v)
			}
			if err == api.OK {
				done++
			} else if tenant(c, n) {
				refused++
			}
			checkCohorts(t, c, p.l.All())
		}
	}
	if refused < 500 || done < 500 {
		t.Errorf("%d were refused, %d done", refused, done)
	}
}

// checkCohorts holds that each node uses what all tenants below it use, together.
func checkCohorts(t *testing.T, c api.Config, used []api.Vec) {
	t.Helper()
	want := make([]api.Vec, len(c.Nodes))
	for n := range c.Nodes {
		if tenant(c, n) {
			for _, m := range ahead(c, n) {
				for r := range want[m] {
					want[m][r] += used[n][r]
				}
			}
		}
	}
	checkVecs(t, "what cohorts use", used, want...)
}

// 12.1: all rows of five takes and gives of small amounts by two tenants.
func TestSmallNumbers(t *testing.T) {
	c := checked(t, tree(-1, 0, 0))
	const steps, kinds = 5, 2 * 2 * 3
	rows := 1
	for range steps {
		rows *= kinds
	}
	for i := 0; i < rows; i += 7 { // 7 divides no power of 12: all steps stand in all places
		p := begin(c)
		for k, rest := 0, i; k < steps; k, rest = k+1, rest/kinds {
			n, v := 1+rest%2, api.Vec{rest / 4 % 3, (rest/4 + 1) % 3, 0}
			if rest/2%2 == 0 {
				p.take(t, n, v)
			} else {
				p.give(t, n, v)
			}
		}
	}
}

// 12.1: who has given all back is as who never took: nothing is kept of it.
func TestNothingIsKept(t *testing.T) {
	for _, c := range trees(t) {
		fresh, l := ledger.New(c), ledger.New(c)
		for range 3 {
			for n := range c.Nodes {
				if tenant(c, n) {
					checkErr(t, "Take", l.Take(n, api.Vec{}), api.OK)
				}
			}
			if !reflect.DeepEqual(l, fresh) {
				t.Errorf("taking nothing is kept: %+v", l)
			}
			for n := range c.Nodes {
				if tenant(c, n) {
					checkErr(t, "Take", l.Take(n, api.Vec{n, 1, 0}), api.OK)
				}
			}
			for n := range c.Nodes {
				if tenant(c, n) {
					checkErr(t, "Give", l.Give(n, api.Vec{n, 0, 0}), api.OK)
					checkErr(t, "Give", l.Give(n, api.Vec{0, 1, 0}), api.OK)
				}
			}
			if !reflect.DeepEqual(l, fresh) {
				t.Errorf("what was given back is kept: %+v", l)
			}
		}
	}
}

// 12.1: sums are cut at 2^40, of each node by itself; nothing wraps.
func TestCut(t *testing.T) {
	l := ledger.New(checked(t, tree(-1, 0, 0)))
	for range most / amount {
		l.Take(1, same(amount))
	}
	checkVecs(t, "All", l.All(), same(most), same(most), same(0))
	checkErr(t, "Take of 1", l.Take(1, same(1)), api.OK)
	checkErr(t, "Take of all", l.Take(1, same(amount)), api.OK)
	checkVecs(t, "All", l.All(), same(most), same(most), same(0))
	checkErr(t, "Take by the other one", l.Take(2, same(5)), api.OK)
	checkVecs(t, "All", l.All(), same(most), same(most), same(5))
	checkErr(t, "Give", l.Give(1, same(7)), api.OK)
	checkVecs(t, "All", l.All(), same(most-7), same(most-7), same(5))
	checkErr(t, "Take of less than is missing", l.Take(1, same(6)), api.OK)
	checkVecs(t, "All", l.All(), same(most-1), same(most-1), same(5))
}

// 12.1: what gangs that run use: pods times need, on the paths of their tenants; of no tenant nothing.
func TestOf(t *testing.T) {
	c := checked(t, tree(-1, 0, 0, 1, 1))
	checkVecs(t, "of none", ledger.Of(c, nil), make([]api.Vec, 5)...)
	checkVecs(t, "of an empty list", ledger.Of(c, []api.Running{}), make([]api.Vec, 5)...)
	r := []api.Running{runs(3, 2, api.Vec{1, 2, 3}), runs(2, 1, api.Vec{10, 0, 1}), runs(3, 3, api.Vec{0, 1, 0}), runs(4, 16, api.Vec{1, 1, 0})}
	want := []api.Vec{{28, 23, 7}, {18, 23, 6}, {10, 0, 1}, {2, 7, 6}, {16, 16, 0}}
	checkVecs(t, "of four", ledger.Of(c, r), want...)
	for _, n := range samples.Around(c) {
		if !tenant(c, n) {
			checkVecs(t, "of no tenant", ledger.Of(c, append(r, runs(n, 2, same(9)))), want...)
			checkVecs(t, "of no tenant", ledger.Of(c, append([]api.Running{runs(n, 2, same(9))}, r...)), want...)
		}
	}
	all := runs(4, api.MaxPods, same(amount)) // more than Take takes at once
	checkVecs(t, "of the greatest", ledger.Of(c, []api.Running{all, all}), same(32*amount), same(32*amount), same(0), same(0), same(32*amount))
	checkVecs(t, "of a tenant that is the root", ledger.Of(checked(t, tree(-1)), []api.Running{runs(0, 2, same(3))}), same(6))
}

// 12.1: no other field of what runs is looked at.
func TestOfOtherFields(t *testing.T) {
	c := checked(t, tree(-1, 0, 0))
	g := api.Gang{Id: 7, Tenant: 2, Pods: 3, Need: api.Vec{1, 2, 3}, Run: 9, Level: api.LevelAny, Prefer: 1}
	x := api.Running{Gang: g, Seq: 4, At: 5, Start: 6, Flavor: 1, Hosts: []int{1, 1, 2}}
	checkVecs(t, "Of", ledger.Of(c, []api.Running{x, x}), api.Vec{6, 12, 18}, api.Vec{}, api.Vec{6, 12, 18})
}

// 12.1: gangs that look mixed, on trees of each form.
func TestOfTrees(t *testing.T) {
	l := samples.Numbers{}
	for i := range 400 {
		c := trees(t)[i%len(trees(t))]
		var r []api.Running
		for range l.UpTo(api.MaxPending) {
			r = append(r, runs(l.UpTo(len(c.Nodes)+1)-1, 1+l.UpTo(api.MaxPods-1), l.Vec(0, 1+l.UpTo(amount-1))))
		}
		used := ledger.Of(c, r)
		checkVecs(t, "Of", used, wantOf(c, r)...)
		checkCohorts(t, c, used)
	}
}

// 12.1: Of numbers of any size; products and sums are cut, in order, and nothing wraps.
func TestOfAnyNumbers(t *testing.T) {
	c := checked(t, tree(-1, 0, 0))
	edges := []int{least, least + 1, -most - 1, -most, -amount - 1, -amount, -1, 0, 1, 16, amount, amount + 1, most - 1, most, most + 1, 1 << 62, top}
	size := len(edges)
	for i := range size * size * size {
		first, second, third := edges[i%size], edges[i/size%size], edges[i/size/size]
		r := []api.Running{runs(1, third, api.Vec{first, second, 1}), runs(2, 1, api.Vec{second, first, third}), runs(1, second, api.Vec{third, 1, first})}
		checkVecs(t, "Of", ledger.Of(c, r), wantOf(c, r)...)
	}
	by := func(n ...int) (r []api.Running) {
		for i, x := range n {
			r = append(r, runs(1+i%2, 1, same(x)))
		}
		return r
	}
	checkVecs(t, "cut in order", ledger.Of(c, by(most, 5, -9)), same(most-9), same(most-9), same(5))
	checkVecs(t, "cut in order", ledger.Of(c, by(-9, 5, top)), same(most-4), same(most-9), same(5))
	checkVecs(t, "cut below", ledger.Of(c, by(least, -7, 3)), same(3-most), same(3-most), same(-7))
}

// R1: on a ledger that is nil there is nothing to be asked.
func TestNil(t *testing.T) {
	var l *ledger.Ledger
	for _, n := range []int{least, -1, 0, 1, 2, top} {
		for _, v := range []api.Vec{{}, same(1), same(-1), same(top)} {
			checkErr(t, "Take", l.Take(n, v), api.ErrArg)
			checkErr(t, "Give", l.Give(n, v), api.ErrArg)
		}
		checkUsed(t, l, n, api.Vec{})
	}
	checkVecs(t, "All", l.All())
}

// R7: in the empty configuration there is no tenant.
func TestEmpty(t *testing.T) {
	l := ledger.New(api.Config{})
	for _, n := range samples.Around(api.Config{}) {
		checkErr(t, "Take", l.Take(n, same(1)), api.ErrTenant)
		checkErr(t, "Take of what may not be", l.Take(n, same(-1)), api.ErrArg)
		checkErr(t, "Give", l.Give(n, same(1)), api.ErrArg)
		checkErr(t, "Give of nothing", l.Give(n, api.Vec{}), api.ErrTenant)
		checkUsed(t, l, n, api.Vec{})
		checkVecs(t, "Of", ledger.Of(api.Config{}, []api.Running{runs(n, 1, same(1))}))
	}
	checkVecs(t, "All", l.All())
}

// R1: calls end, and none panics, of configurations that may not be, too.
func TestMayNotBe(t *testing.T) {
	for _, row := range samples.MayNotBe() {
		c := tree(row...)
		l := ledger.New(c)
		for _, v := range []api.Vec{{}, same(1), same(amount), same(top), same(least), {-1, 0, most + 1}} {
			for _, n := range samples.Around(c) {
				l.Take(n, v)
				l.Give(n, v)
				l.Used(n)
				ledger.Of(c, []api.Running{runs(n, v[2], v), runs(n, v[0], v)})
			}
		}
		if got := l.All(); len(got) != len(row) {
			t.Errorf("All of %d nodes: %d", len(row), len(got))
		}
	}
}

// R1: calls on long lists end soon.
func TestLong(t *testing.T) {
	const size = 1 << 18
	c := api.Config{Nodes: make([]api.Node, size)}
	for n := range c.Nodes {
		c.Nodes[n].Parent = n - 1
	}
	l := ledger.New(c)
	checkErr(t, "Take", l.Take(size-1, same(3)), api.OK)
	checkErr(t, "Give", l.Give(size-1, same(1)), api.OK)
	checkVecs(t, "All", l.All(), slices.Repeat([]api.Vec{same(2)}, size)...)
	short := checked(t, tree(-1, 0, 1, 2, 3, 4, 5, 6, 7, 8, 9, 10))
	r := slices.Repeat([]api.Running{runs(11, 1, same(1))}, size)
	checkVecs(t, "Of", ledger.Of(short, r), slices.Repeat([]api.Vec{same(size)}, 12)...)
}

// R5: ledgers have nothing of each other's.
func TestTwoLedgers(t *testing.T) {
	c := checked(t, tree(-1, 0, 0))
	a, b := ledger.New(c), ledger.New(c)
	a.Take(1, same(3))
	checkVecs(t, "All of the other one", b.All(), same(0), same(0), same(0))
	b.Take(2, same(5))
	checkVecs(t, "All", a.All(), same(3), same(3), same(0))
	checkVecs(t, "All", b.All(), same(5), same(0), same(5))
	checkErr(t, "Give", b.Give(1, same(3)), api.ErrArg)
}

// R4: what was handed in may be changed behind the call, and so may what was handed out.
func TestMemory(t *testing.T) {
	c := checked(t, tree(-1, 0, 0, 1, 1))
	l := ledger.New(c)
	c.Nodes[3] = api.Node{Parent: 2}
	c.Nodes[4] = api.Node{Parent: 3}
	checkErr(t, "Take", l.Take(3, same(1)), api.OK)
	checkErr(t, "Take", l.Take(2, same(5)), api.OK)
	want := []api.Vec{same(6), same(1), same(5), same(1), same(0)}
	first := l.All()
	checkVecs(t, "All", first, want...)
	clear(first)
	checkVecs(t, "All, behind a change of an answer", l.All(), want...)
	checkErr(t, "Give", l.Give(3, same(1)), api.OK)
}

// R4: what is handed in stays, what lies behind its lists' ends too, and is not looked at.
func TestBehindTheEnd(t *testing.T) {
	nodes := func() []api.Node { return tree(-1, 0, 0, 2).Nodes }
	list := func() []api.Running {
		return []api.Running{runs(1, 1, same(1)), runs(2, 1, same(2)), runs(1, 1, same(4))}
	}
	whole, all := nodes(), list()
	c := checked(t, api.Config{Nodes: whole[:3], Hosts: []api.Host{{}}, Half: 1})
	checkVecs(t, "Of", ledger.Of(c, all[:2]), same(3), same(1), same(2))
	l := ledger.New(c)
	checkErr(t, "Take", l.Take(2, same(1)), api.OK)
	checkErr(t, "Take", l.Take(3, same(1)), api.ErrTenant)
	checkErr(t, "Give", l.Give(2, same(1)), api.OK)
	if !slices.Equal(whole, nodes()) || !reflect.DeepEqual(all, list()) {
		t.Error("what was handed in was changed")
	}
}
