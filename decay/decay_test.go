package decay_test

import (
	"math"
	"math/big"
	"testing"

	"tithebarn/api"
	"tithebarn/decay"
)

const (
	one = api.One
	top = api.MaxFix
)

// table is the chapter's, number by number.
var table = [16]api.Fix{
	3037000499, 3611622602, 3938502375, 4112874772, 4202935002, 4248701964, 4271771996, 4283353945,
	4289156689, 4292061009, 4293513906, 4294240539, 4294603902, 4294785595, 4294876444, 4294921869,
}

// ages are numbers below 0, at 0, at powers of 2, at whole halves, at the ends of int.
func ages() []int {
	l := []int{math.MinInt, math.MinInt + 1, -65536, -10, -1, 0, 3, 5, 7, 10, 15, 20, 639, 640, 641, 1000, 65535, 65536, 98304, math.MaxInt / 3, math.MaxInt - 1, math.MaxInt}
	for shift := range 63 {
		p := 1 << shift
		l = append(l, p-1, p, p+1, 3*(p/2)+1)
	}
	return l
}

// exactMul is a times b in parts of 2^32, rounded down, at most MaxFix.
func exactMul(a, b api.Fix) api.Fix {
	x := new(big.Int).SetUint64(uint64(a))
	x.Mul(x, new(big.Int).SetUint64(uint64(b)))
	x.Rsh(x, 32)
	if !x.IsUint64() {
		return top
	}
	return api.Fix(x.Uint64())
}

// exactFactor goes the chapter's way, by great numbers.
func exactFactor(age, half int) api.Fix {
	whole, rest := new(big.Int), new(big.Int)
	h := big.NewInt(int64(max(half, 1)))
	whole.QuoRem(big.NewInt(int64(max(age, 0))), h, rest)
	f := rest.Mul(rest, big.NewInt(65536))
	f.Quo(f, h)
	left := one
	for i, power := range table {
		if f.Bit(15-i) == 1 {
			left = exactMul(left, power)
		}
	}
	if whole.Cmp(big.NewInt(64)) >= 0 {
		return 0
	}
	for range whole.Int64() {
		left /= 2
	}
	return left
}

func checkFactor(t *testing.T, age, half int, want api.Fix) {
	t.Helper()
	if got := decay.Factor(age, half); got != want {
		t.Errorf("Factor(%d, %d): %d, want %d", age, half, got, want)
	}
}

func checkApply(t *testing.T, x api.Fix, age, half int, want api.Fix) {
	t.Helper()
	if got := decay.Apply(x, age, half); got != want {
		t.Errorf("Apply(%d, %d, %d): %d, want %d", x, age, half, got, want)
	}
}

// 2.1: the table is the chapter's in each of its sixteen numbers.
func TestTable(t *testing.T) {
	got := decay.Table()
	for i, want := range table {
		if got[i] != want {
			t.Errorf("Table()[%d]: %d, want %d", i, got[i], want)
		}
	}
}

// 2.1: the first is the whole root of 2^63, each next one that of 2^32 times the one ahead.
func TestTableIsOfRoots(t *testing.T) {
	ahead := new(big.Int).Lsh(big.NewInt(1), 31)
	for i, got := range decay.Table() {
		root := new(big.Int).Lsh(ahead, 32)
		root.Sqrt(root)
		if new(big.Int).SetUint64(uint64(got)).Cmp(root) != 0 {
			t.Errorf("Table()[%d]: %d, want %d", i, got, root)
		}
		ahead = root
	}
}

// 2.1, R4: what is done to one answer is not seen in the next, nor in a factor.
func TestTableIsHandedOutAnew(t *testing.T) {
	answer := decay.Table()
	for i := range answer {
		answer[i] = 0
	}
	if decay.Table() != table {
		t.Error("Table() shares its memory with an answer")
	}
	checkFactor(t, 5, 10, table[0])
}

// 2.2: the chapter's own examples.
func TestExamples(t *testing.T) {
	checkFactor(t, 0, 10, one)
	checkFactor(t, 10, 10, 1<<31)
	checkFactor(t, 5, 10, 3037000499)
	checkFactor(t, 640, 10, 0)
}

// 2.2: an age below 0 counts as 0.
func TestAgeBelowZero(t *testing.T) {
	for _, age := range []int{math.MinInt, math.MinInt + 1, -1 << 32, -10, -5, -1, 0} {
		for _, half := range []int{math.MinInt, -1, 0, 1, 2, 10, 65536, math.MaxInt} {
			checkFactor(t, age, half, one)
			checkApply(t, 7*one+3, age, half, 7*one+3)
		}
	}
}

// 2.2: a half below 1 counts as 1.
func TestHalfBelowOne(t *testing.T) {
	for _, half := range []int{math.MinInt, math.MinInt + 1, -1 << 32, -10, -1, 0, 1} {
		for _, x := range []struct {
			age  int
			want api.Fix
		}{{-1, one}, {0, one}, {1, 1 << 31}, {2, 1 << 30}, {3, 1 << 29}, {32, 1}, {33, 0}, {64, 0}, {math.MaxInt, 0}} {
			checkFactor(t, x.age, half, x.want)
		}
		checkApply(t, 8*one, 3, half, one)
	}
}

// 2.2: whole halves only halve, 0 from the one on that leaves nothing, 64 and past it too, however many.
func TestWholeHalves(t *testing.T) {
	for _, half := range []int{1, 2, 3, 10, 65535, 65536, 65537, 1 << 20, 1 << 40, 1 << 55} {
		want := one
		for q := range 100 {
			checkFactor(t, q*half, half, want)
			want /= 2
		}
	}
	for _, x := range []struct{ age, half int }{
		{630, 10}, {639, 10}, {640, 10}, {645, 10}, {650, 10}, {1280, 10}, {2560, 10}, {64<<32 - 1, 1 << 32}, {64 << 32, 1 << 32},
		{1 << 40, 1 << 8}, {1 << 62, 1 << 56}, {1 << 62, 1 << 30}, {1 << 62, 1}, {math.MaxInt, 1}, {math.MaxInt, 2}, {math.MaxInt, 1 << 20},
	} {
		checkFactor(t, x.age, x.half, 0)
	}
}

// 2.2: the halving comes last, and rounds down.
func TestHalvingRoundsDown(t *testing.T) {
	for _, x := range []struct {
		age, half int
		want      api.Fix
	}{
		{15, 10, 1518500249}, {25, 10, 759250124}, {35, 10, 379625062}, {5, 4, 1805811301}, {7, 4, 1276901416},
		{315, 10, 1}, {319, 10, 1}, {320, 10, 1}, {321, 10, 0}, {325, 10, 0}, {330, 10, 0},
	} {
		checkFactor(t, x.age, x.half, x.want)
	}
}

// 2.2: each bit of the rest stands for its own number of the table.
func TestEachBit(t *testing.T) {
	for i, want := range table {
		checkFactor(t, 1<<(15-i), 65536, want)
		checkFactor(t, 1, 2<<i, want)
		checkFactor(t, 1<<(61-i), 1<<62, want)
	}
}

// 2.2: all that a rest may be, from no bit to all sixteen, is as the chapter's way gives it.
func TestEachRest(t *testing.T) {
	for age := range 65536 {
		checkFactor(t, age, 65536, exactFactor(age, 65536))
	}
}

// 2.2: a rest is rounded down to sixteen bits; its product passes no bound.
func TestRestRoundsDown(t *testing.T) {
	all := one
	for _, power := range table {
		all = exactMul(all, power)
	}
	for _, x := range []struct {
		age, half int
		want      api.Fix
	}{
		{1, 65536, table[15]}, {1, 65537, one}, {1, 65535, table[15]}, {2, 65537, table[15]}, {2, 131073, one}, {2, 131071, table[15]},
		{65535, 65536, all}, {65536, 65537, all}, {131071, 131072, all}, {131071, 65536, all / 2},
		{1<<62 - 1, 1 << 62, all}, {math.MaxInt - 1, math.MaxInt, all}, {1, math.MaxInt, one}, {1, 1 << 62, one},
		{1 << 46, 1 << 62, table[15]}, {1<<46 - 1, 1 << 62, one}, {1 << 47, math.MaxInt, table[15]}, {1<<47 - 1, math.MaxInt, one},
		{1 << 49, 1 << 50, table[0]}, {1 << 47, 1 << 49, table[1]}, {1 << 48, 1 << 49, table[0]}, {3 << 60, 1 << 62, exactMul(table[0], table[1])},
		{1 << 62, math.MaxInt, table[0]}, {math.MaxInt / 2, math.MaxInt, exactFactor(32767, 65536)},
		{math.MaxInt, math.MaxInt, 1 << 31}, {math.MaxInt, math.MaxInt - 1, 1 << 31}, {math.MaxInt, math.MaxInt / 2, 1 << 30}, {math.MaxInt, 1 << 62, all / 2}, {1 << 62, 1 << 62, 1 << 31},
	} {
		checkFactor(t, x.age, x.half, x.want)
	}
}

// 2.2: Factor is as the chapter's way gives it at all ages and halves, however great or wrong.
func TestFactorIsExact(t *testing.T) {
	l := ages()
	for _, age := range l {
		for _, half := range l {
			checkFactor(t, age, half, exactFactor(age, half))
		}
	}
}

// 2.2: Apply of 0, One, MaxFix, and of numbers between, by hand.
func TestApply(t *testing.T) {
	for _, x := range []struct {
		x         api.Fix
		age, half int
		want      api.Fix
	}{
		{0, 0, 10, 0}, {0, 5, 10, 0}, {0, 640, 10, 0}, {0, -1, 0, 0}, {0, math.MaxInt, math.MinInt, 0},
		{one, 0, 10, one}, {one, 5, 10, 3037000499}, {one, 10, 10, 1 << 31}, {one, 640, 10, 0}, {one, -7, 10, one}, {one, 1, -7, 1 << 31},
		{top, 0, 1, top}, {top, -1, 1, top}, {top, math.MinInt, math.MinInt, top}, {top, 10, 10, 1<<63 - 1}, {top, 5, 10, 3037000499<<32 - 1},
		{top, 320, 10, 1<<32 - 1}, {top, 330, 10, 0}, {top, 640, 10, 0}, {top, math.MaxInt, 1, 0}, {top, math.MaxInt, math.MaxInt, 1<<63 - 1},
		{1, 0, 10, 1}, {1, 1, 10, 0}, {1, 10, 10, 0}, {2, 10, 10, 1}, {3, 10, 10, 1}, {3, 5, 10, 2},
		{8 * one, 30, 10, one}, {8*one + 7, 30, 10, one}, {8*one + 8, 30, 10, one + 1}, {2 * one, 5, 10, 6074000998}, {1 << 63, 10, 10, 1 << 62},
	} {
		checkApply(t, x.x, x.age, x.half, x.want)
	}
}

// 2.2: Apply is Mul of x and Factor, at all of them.
func TestApplyIsMul(t *testing.T) {
	l := ages()
	for i, age := range l {
		half := l[(i*37+11)%len(l)]
		factor := exactFactor(age, half)
		for _, x := range []api.Fix{0, 1, 2, 3, one - 1, one, one + 1, 3*one + 7, 1<<63 - 1, 1 << 63, top - 1, top} {
			checkApply(t, x, age, half, exactMul(x, factor))
			checkApply(t, x, 5, half, exactMul(x, exactFactor(5, half)))
			checkApply(t, x, age, 10, exactMul(x, exactFactor(age, 10)))
		}
	}
}

// 2.3: no factor is above One, and nothing grows by Apply.
func TestNoneAboveOne(t *testing.T) {
	l := ages()
	for _, age := range l {
		for _, half := range l {
			if got := decay.Factor(age, half); got > one {
				t.Errorf("Factor(%d, %d): %d is above One", age, half, got)
			}
			if got := decay.Apply(top-5, age, half); got > top-5 {
				t.Errorf("Apply(MaxFix - 5, %d, %d): %d has grown", age, half, got)
			}
		}
	}
}

// 2.3: half more is half as much, rounded down.
func TestHalfMoreIsHalfAsMuch(t *testing.T) {
	l := ages()
	for _, age := range l {
		for _, half := range l {
			age, step := max(age, 0), max(half, 1)
			if age > math.MaxInt-step {
				continue
			}
			checkFactor(t, age+step, half, decay.Factor(age, half)/2)
		}
	}
}

// 2.3, T6: who is older has no more left.
func TestOlderHasNoMore(t *testing.T) {
	for _, half := range []int{-1, 1, 2, 3, 7, 10, 100, 4095, 65536, 65537, 100003} {
		for age := -3; age < 3*half; age++ {
			if younger, older := decay.Factor(age, half), decay.Factor(age+1, half); younger < older {
				t.Errorf("Factor(%d, %d): %d, behind one tick more %d", age, half, younger, older)
			}
		}
	}
}
