package vec_test

import (
	"math"
	"math/big"
	"testing"

	"tithebarn/api"
	"tithebarn/fixpt"
	"tithebarn/vec"
)

const (
	most  = 1 << 40 // how far from 0 a number counts
	whole = 1 << 20 // MaxAmount, and how far from 0 a factor counts
	least = math.MinInt
	top   = math.MaxInt
	one   = api.One
)

// numbers are the edges and some numbers between them, rising, each once.
func numbers() []int {
	return []int{
		least, least + 1, -1 << 62, -1 << 41, -most - 1, -most, -most + 1, -1 << 39, -1 << 21, -whole - 1, -whole, -whole + 1, -1000, -7, -3, -2, -1, 0,
		1, 2, 3, 7, 1000, whole - 1, whole, whole + 1, 1 << 21, 1 << 39, most - 1, most, most + 1, 1 << 41, 1 << 62, top - 1, top,
	}
}

// vecs are as many as there are numbers; in each place each number stands once.
func vecs(second, third int) []api.Vec {
	l := numbers()
	var all []api.Vec
	for i := range l {
		all = append(all, api.Vec{l[i], l[(i+second)%len(l)], l[(i+third)%len(l)]})
	}
	return all
}

// within is x, at least -bound, at most bound.
func within(x *big.Int, bound int64) *big.Int {
	low, high := big.NewInt(-bound), big.NewInt(bound)
	if x.Cmp(low) < 0 {
		return low
	}
	if x.Cmp(high) > 0 {
		return high
	}
	return x
}

// exact does to each of a and b (cut) what of does, cut.
func exact(a, b api.Vec, of func(x, y *big.Int) *big.Int) api.Vec {
	var answer api.Vec
	for r := range answer {
		x, y := within(big.NewInt(int64(a[r])), most), within(big.NewInt(int64(b[r])), most)
		answer[r] = int(within(of(x, y), most).Int64())
	}
	return answer
}

func sum(x, y *big.Int) *big.Int        { return new(big.Int).Add(x, y) }
func difference(x, y *big.Int) *big.Int { return new(big.Int).Sub(x, y) }

// product is v times n, by great numbers.
func product(v api.Vec, n int) api.Vec {
	return exact(v, api.Vec{}, func(x, _ *big.Int) *big.Int {
		return new(big.Int).Mul(x, within(big.NewInt(int64(n)), whole))
	})
}

func check(t *testing.T, name string, a, b, got, want api.Vec) {
	t.Helper()
	if got != want {
		t.Errorf("%s(%d, %d): %d, want %d", name, a, b, got, want)
	}
}

func checkTimes(t *testing.T, v api.Vec, n int, want api.Vec) {
	t.Helper()
	if got := vec.Times(v, n); got != want {
		t.Errorf("Times(%d, %d): %d, want %d", v, n, got, want)
	}
}

func checkValid(t *testing.T, v api.Vec, want bool) {
	t.Helper()
	if got := vec.Valid(v); got != want {
		t.Errorf("Valid(%d): %t, want %t", v, got, want)
	}
}

// checkFits holds Over to be the other one.
func checkFits(t *testing.T, a, b api.Vec, want bool) {
	t.Helper()
	if got := vec.Fits(a, b); got != want {
		t.Errorf("Fits(%d, %d): %t, want %t", a, b, got, want)
	}
	if got := vec.Over(a, b); got == want {
		t.Errorf("Over(%d, %d): %t, want %t", a, b, got, !want)
	}
}

func checkDominant(t *testing.T, use, all api.Vec, want api.Fix) {
	t.Helper()
	if got := vec.Dominant(use, all); got != want {
		t.Errorf("Dominant(%d, %d): %d, want %d", use, all, got, want)
	}
}

// 3.1: the chapter's own examples.
func TestExamples(t *testing.T) {
	checkDominant(t, api.Vec{2, 0, 1}, api.Vec{4, 0, 8}, 1<<31)
	checkDominant(t, api.Vec{0, 1, 0}, api.Vec{4, 0, 8}, api.MaxFix)
}

// 3.1: Valid is from 0 to MaxAmount, of each resource, whatever the other two are.
func TestValid(t *testing.T) {
	for _, v := range []api.Vec{{}, {1, 2, 3}, {whole, whole, whole}, {whole, 0, 0}, {0, whole, 0}, {0, 0, whole}, {whole - 1, 1, 7}} {
		checkValid(t, v, true)
	}
	for _, n := range numbers() {
		want := 0 <= n && n <= 1048576
		for _, other := range []int{0, 5, whole} {
			checkValid(t, api.Vec{n, other, other}, want)
			checkValid(t, api.Vec{other, n, other}, want)
			checkValid(t, api.Vec{other, other, n}, want)
		}
	}
	for _, v := range []api.Vec{{-1, whole + 1, 0}, {whole + 1, -1, -1}, {-1, -1, -1}, {whole + 1, whole + 1, whole + 1}, {-1, 1, 0}, {least, top, 0}} {
		checkValid(t, v, false)
	}
}

// 3.1: sums and differences, by hand: each resource is its own, and may go below 0.
func TestSums(t *testing.T) {
	for _, x := range []struct{ a, b, add, sub api.Vec }{
		{api.Vec{}, api.Vec{}, api.Vec{}, api.Vec{}},
		{api.Vec{1, 2, 3}, api.Vec{3, 2, 1}, api.Vec{4, 4, 4}, api.Vec{-2, 0, 2}},
		{api.Vec{10, 20, 30}, api.Vec{1, 2, 3}, api.Vec{11, 22, 33}, api.Vec{9, 18, 27}},
		{api.Vec{-5, 0, 5}, api.Vec{5, -5, 0}, api.Vec{0, -5, 5}, api.Vec{-10, 5, 5}},
		{api.Vec{1, 0, 0}, api.Vec{0, 1, 0}, api.Vec{1, 1, 0}, api.Vec{1, -1, 0}},
		{api.Vec{0, 0, 1}, api.Vec{1, 0, 0}, api.Vec{1, 0, 1}, api.Vec{-1, 0, 1}},
		{api.Vec{whole, whole, 0}, api.Vec{whole, 0, whole}, api.Vec{2 * whole, whole, whole}, api.Vec{0, whole, -whole}},
	} {
		check(t, "Add", x.a, x.b, vec.Add(x.a, x.b), x.add)
		check(t, "Sub", x.a, x.b, vec.Sub(x.a, x.b), x.sub)
	}
}

// 3.1: both are cut ahead, and the sum is cut: at 2^40 nothing is, past it all is.
func TestSumsAreCut(t *testing.T) {
	for _, x := range []struct{ a, b, add, sub int }{
		{most, 0, most, most}, {most - 1, 0, most - 1, most - 1}, {most + 1, 0, most, most}, {0, most, most, -most}, {0, most + 1, most, -most},
		{-most, 0, -most, -most}, {-most + 1, 0, -most + 1, -most + 1}, {-most - 1, 0, -most, -most}, {0, -most, -most, most}, {0, -most - 1, -most, most},
		{most, 1, most, most - 1}, {most - 1, 1, most, most - 2}, {most, -1, most - 1, most}, {most - 1, -1, most - 2, most}, {-most, 1, -most + 1, -most}, {-most + 1, 1, -most + 2, -most},
		{most, most, most, 0}, {most, -most, 0, most}, {-most, most, 0, -most}, {-most, -most, -most, 0},
		{most + 5, -5, most - 5, most}, {-5, most + 5, most - 5, -most}, {most + 5, 5, most, most - 5}, {5, most + 5, most, 5 - most}, {-most - 5, 5, 5 - most, -most}, {-most - 5, -5, -most, 5 - most},
		{1 << 62, -1 << 62, 0, most}, {1 << 62, 1 << 62, most, 0}, {top, top, most, 0}, {top, 1, most, most - 1}, {1, top, most, 1 - most}, {least, least, -most, 0},
		{least, -1, -most, 1 - most}, {-1, least, -most, most - 1}, {least, top, 0, -most}, {top, least, 0, most}, {0, least, -most, most}, {1, least, 1 - most, most},
	} {
		for r := range api.NumRes {
			var a, b, add, sub api.Vec
			a[r], b[r], add[r], sub[r] = x.a, x.b, x.add, x.sub
			check(t, "Add", a, b, vec.Add(a, b), add)
			check(t, "Sub", a, b, vec.Sub(a, b), sub)
		}
	}
}

// 3.1: Times, by hand: what is below 0, no pods, negative ones.
func TestTimes(t *testing.T) {
	for _, x := range []struct {
		v    api.Vec
		n    int
		want api.Vec
	}{
		{api.Vec{1, 2, 3}, 3, api.Vec{3, 6, 9}}, {api.Vec{1, 2, 3}, 1, api.Vec{1, 2, 3}}, {api.Vec{1, 2, 3}, 0, api.Vec{}}, {api.Vec{1, 2, 3}, -1, api.Vec{-1, -2, -3}},
		{api.Vec{-4, 0, 4}, 16, api.Vec{-64, 0, 64}}, {api.Vec{-4, 0, 4}, -16, api.Vec{64, 0, -64}}, {api.Vec{}, top, api.Vec{}}, {api.Vec{}, least, api.Vec{}}, {api.Vec{top, least, 5}, 0, api.Vec{}},
		{api.Vec{whole, 0, whole}, api.MaxPods, api.Vec{1 << 24, 0, 1 << 24}},
	} {
		checkTimes(t, x.v, x.n, x.want)
	}
}

// 3.1: the number, the factor and the product are cut, each at its own bound.
func TestTimesIsCut(t *testing.T) {
	for _, x := range []struct{ v, n, want int }{
		{1, whole - 1, whole - 1}, {1, whole, whole}, {1, whole + 1, whole}, {1, 1 << 50, whole}, {1, top, whole},
		{1, -whole + 1, -whole + 1}, {1, -whole, -whole}, {1, -whole - 1, -whole}, {1, -1 << 50, -whole}, {1, least, -whole},
		{-1, top, -whole}, {-1, least, whole}, {3, top, 3 * whole}, {-3, least, 3 * whole}, {7, least, -7 * whole},
		{most, 1, most}, {most + 1, 1, most}, {top, 1, most}, {-most, 1, -most}, {-most - 1, 1, -most}, {least, 1, -most},
		{most, -1, -most}, {most + 1, -1, -most}, {top, -1, -most}, {-most, -1, most}, {-most - 1, -1, most}, {least, -1, most},
		{whole, whole, most}, {whole, whole - 1, most - whole}, {whole - 1, whole, most - whole}, {whole + 1, whole, most}, {whole, whole + 1, most}, {whole - 1, whole + 1, most - whole},
		{-whole, whole, -most}, {-whole, whole - 1, whole - most}, {-whole - 1, whole, -most}, {whole, -whole, -most}, {whole + 1, -whole, -most}, {-whole, -whole, most}, {-whole - 1, -whole - 1, most},
		{1 << 39, 2, most}, {1<<39 - 1, 2, most - 2}, {1<<39 + 1, 2, most}, {1 << 39, -2, -most}, {-1<<39 - 1, 2, -most},
		{1 << 50, 1 << 50, most}, {1 << 32, 1 << 32, most}, {top, top, most}, {least, least, most}, {top, least, -most}, {least, top, -most}, {1 << 62, 4, most}, {1 << 62, -2, -most}, {1 << 61, 8, most},
	} {
		for r := range api.NumRes {
			var v, want api.Vec
			v[r], want[r] = x.v, x.want
			checkTimes(t, v, x.n, want)
		}
	}
}

// 3.1: sums, differences and products are exact but for the cut, at all edges of all three resources.
func TestExact(t *testing.T) {
	for _, a := range vecs(11, 23) {
		for _, b := range vecs(5, 17) {
			check(t, "Add", a, b, vec.Add(a, b), exact(a, b, sum))
			check(t, "Sub", a, b, vec.Sub(a, b), exact(a, b, difference))
		}
		for _, n := range numbers() {
			checkTimes(t, a, n, product(a, n))
		}
		for n := -20; n <= 20; n++ {
			checkTimes(t, a, n, product(a, n))
		}
	}
}

// 3.1: Fits asks each resource; what is alike fits; Over is all else.
func TestFits(t *testing.T) {
	for _, x := range []struct {
		a, b api.Vec
		want bool
	}{
		{api.Vec{}, api.Vec{}, true}, {api.Vec{1, 2, 3}, api.Vec{1, 2, 3}, true}, {api.Vec{1, 2, 3}, api.Vec{2, 3, 4}, true}, {api.Vec{1, 2, 3}, api.Vec{3, 2, 1}, false}, {api.Vec{3, 2, 1}, api.Vec{1, 2, 3}, false},
		{api.Vec{2, 2, 3}, api.Vec{1, 2, 3}, false}, {api.Vec{1, 3, 3}, api.Vec{1, 2, 3}, false}, {api.Vec{1, 2, 4}, api.Vec{1, 2, 3}, false}, {api.Vec{9, 9, 9}, api.Vec{1, 2, 3}, false},
		{api.Vec{-1, -1, -1}, api.Vec{}, true}, {api.Vec{}, api.Vec{-1, 0, 0}, false}, {api.Vec{}, api.Vec{0, -1, 0}, false}, {api.Vec{}, api.Vec{0, 0, -1}, false},
	} {
		checkFits(t, x.a, x.b, x.want)
	}
}

// 3.1: Fits and Min look at the numbers as they are: nothing is cut there, nothing wraps.
func TestComparedUncut(t *testing.T) {
	l := numbers() // rising
	for i, x := range l {
		for j, y := range l {
			for r := range api.NumRes {
				a, b := api.Vec{4, 4, 4}, api.Vec{4, 4, 4}
				a[r], b[r] = x, y
				checkFits(t, a, b, i <= j)
				want := api.Vec{4, 4, 4}
				want[r] = l[min(i, j)]
				check(t, "Min", a, b, vec.Min(a, b), want)
			}
		}
	}
}

// 3.1: Min is the lesser of each resource, and fits both.
func TestMin(t *testing.T) {
	check(t, "Min", api.Vec{1, 2, 3}, api.Vec{3, 2, 1}, vec.Min(api.Vec{1, 2, 3}, api.Vec{3, 2, 1}), api.Vec{1, 2, 1})
	check(t, "Min", api.Vec{3, 2, 1}, api.Vec{1, 2, 3}, vec.Min(api.Vec{3, 2, 1}, api.Vec{1, 2, 3}), api.Vec{1, 2, 1})
	check(t, "Min", api.Vec{-1, 0, 9}, api.Vec{0, -1, 8}, vec.Min(api.Vec{-1, 0, 9}, api.Vec{0, -1, 8}), api.Vec{-1, -1, 8})
	for _, a := range vecs(11, 23) {
		for _, b := range vecs(5, 17) {
			lesser := vec.Min(a, b)
			checkFits(t, lesser, a, true)
			checkFits(t, lesser, b, true)
			for r := range lesser {
				if lesser[r] != a[r] && lesser[r] != b[r] {
					t.Errorf("Min(%d, %d): %d has a number of neither", a, b, lesser)
				}
			}
		}
	}
}

// 3.1: Dominant is the greatest Ratio, wherever it stands; what is not used does not count, even of nothing.
func TestDominant(t *testing.T) {
	for _, x := range []struct {
		use, all api.Vec
		want     api.Fix
	}{
		{api.Vec{}, api.Vec{}, 0}, {api.Vec{}, api.Vec{4, 4, 4}, 0}, {api.Vec{0, 0, 0}, api.Vec{0, -1, 5}, 0},
		{api.Vec{1, 0, 0}, api.Vec{4, 4, 4}, one / 4}, {api.Vec{0, 1, 0}, api.Vec{4, 4, 4}, one / 4}, {api.Vec{0, 0, 1}, api.Vec{4, 4, 4}, one / 4},
		{api.Vec{3, 2, 1}, api.Vec{4, 4, 4}, 3 * one / 4}, {api.Vec{2, 3, 1}, api.Vec{4, 4, 4}, 3 * one / 4}, {api.Vec{1, 2, 3}, api.Vec{4, 4, 4}, 3 * one / 4}, {api.Vec{1, 3, 2}, api.Vec{4, 4, 4}, 3 * one / 4},
		{api.Vec{5, 5, 5}, api.Vec{10, 20, 40}, one / 2}, {api.Vec{5, 5, 5}, api.Vec{40, 10, 20}, one / 2}, {api.Vec{5, 5, 5}, api.Vec{20, 40, 10}, one / 2},
		{api.Vec{100, 1, 1}, api.Vec{1000, 3, 1000}, 1431655765}, {api.Vec{4, 4, 4}, api.Vec{4, 4, 4}, one}, {api.Vec{9, 1, 1}, api.Vec{6, 2, 2}, one + one/2},
		{api.Vec{1, 1, 1}, api.Vec{4, 0, 8}, api.MaxFix}, {api.Vec{1, 1, 1}, api.Vec{0, 4, 8}, api.MaxFix}, {api.Vec{1, 1, 1}, api.Vec{4, 8, 0}, api.MaxFix}, {api.Vec{0, 1, 0}, api.Vec{0, 2, 0}, one / 2},
		{api.Vec{whole, 0, 0}, api.Vec{24 * whole, 24 * whole, 24 * whole}, one / 24},
	} {
		checkDominant(t, x.use, x.all, x.want)
	}
}

// 3.1: a use below 0 counts for nothing; of all, a number below 0 counts as 0; nothing is cut.
func TestDominantOfAnyNumbers(t *testing.T) {
	for _, x := range []struct {
		use, all api.Vec
		want     api.Fix
	}{
		{api.Vec{-1, 0, 0}, api.Vec{4, 0, 0}, 0}, {api.Vec{-1, -1, -1}, api.Vec{}, 0}, {api.Vec{least, least, least}, api.Vec{-1, 0, 1}, 0}, {api.Vec{-8, 1, -8}, api.Vec{1, 4, 0}, one / 4},
		{api.Vec{1, 0, 0}, api.Vec{-1, 0, 0}, api.MaxFix}, {api.Vec{0, 0, 1}, api.Vec{1, 1, least}, api.MaxFix}, {api.Vec{0, 0, -1}, api.Vec{1, 1, -1}, 0},
		{api.Vec{1 << 41, 0, 0}, api.Vec{most, 0, 0}, 2 * one}, {api.Vec{most, 0, 0}, api.Vec{1 << 41, 0, 0}, one / 2}, {api.Vec{0, top, 0}, api.Vec{0, top, 0}, one}, {api.Vec{0, 0, 1 << 62}, api.Vec{0, 0, 1 << 60}, 4 * one},
		{api.Vec{top, 1, 1}, api.Vec{1, 1, 1}, api.MaxFix}, {api.Vec{1, 0, 0}, api.Vec{top, 0, 0}, 0}, {api.Vec{1, 0, 0}, api.Vec{1 << 32, 0, 0}, 1}, {api.Vec{1, 0, 0}, api.Vec{1<<32 + 1, 0, 0}, 0},
	} {
		checkDominant(t, x.use, x.all, x.want)
	}
	for _, use := range vecs(11, 23) {
		for _, all := range vecs(5, 17) {
			var want api.Fix
			for r := range use {
				if ratio := fixpt.Ratio(use[r], all[r]); use[r] > 0 && ratio > want {
					want = ratio
				}
			}
			checkDominant(t, use, all, want)
		}
	}
}
