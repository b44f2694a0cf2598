package nums_test

import (
	"encoding/binary"
	"math"
	"math/big"
	"strconv"
	"strings"
	"testing"

	"tithebarn/api"
	"tithebarn/nums"
)

// put is n as bytes by long division, an independent way.
func put(n int) string {
	left, base, digit := big.NewInt(int64(max(n, 0))), big.NewInt(128), new(big.Int)
	var out []byte
	for {
		left.DivMod(left, base, digit)
		b := byte(digit.Int64())
		if left.Sign() == 0 {
			return string(append(out, b))
		}
		out = append(out, b+128)
	}
}

// numbers are those at the edges of each count of bits, and rows of small, odd and below-0 ones.
func numbers() []int {
	l := []int{math.MinInt, math.MinInt + 1, -1 << 40, -300, -129, -128, -127, -5, -1, 300, 16383, 16384, api.MaxAmount, api.MaxNow, api.MaxId, math.MaxInt, math.MaxInt - 1, math.MaxInt - 127}
	for shift := range 63 {
		for by := -2; by <= 2; by++ {
			l = append(l, 1<<shift+by, -1<<shift+by)
		}
	}
	for n := range 20000 {
		l = append(l, n)
	}
	seed := uint64(7)
	for range 2000 {
		seed = seed*6364136223846793005 + 1442695040888963407
		l = append(l, int(seed>>1), int(seed>>(seed%64)), -int(seed>>33))
	}
	return l
}

// rests are what may stand behind what is read.
func rests() []string {
	return []string{"", "x", "\x00", "\x80", "\xff", "\x01\x00", strings.Repeat("\xff", 12), strings.Repeat("\x00", 12)}
}

func checkGet(t *testing.T, s string, n, size int, err api.Errno) {
	t.Helper()
	if gotN, gotSize, gotErr := nums.Get(s); gotN != n || gotSize != size || gotErr != err {
		t.Errorf("Get(%x): %d, %d bytes, error %d; want %d, %d, %d", s, gotN, gotSize, gotErr, n, size, err)
	}
}

func checkGetVec(t *testing.T, s string, v api.Vec, size int, err api.Errno) {
	t.Helper()
	if gotV, gotSize, gotErr := nums.GetVec(s); gotV != v || gotSize != size || gotErr != err {
		t.Errorf("GetVec(%x): %v, %d bytes, error %d; want %v, %d, %d", s, gotV, gotSize, gotErr, v, size, err)
	}
}

func checkGetFix(t *testing.T, s string, x api.Fix, size int, err api.Errno) {
	t.Helper()
	if gotX, gotSize, gotErr := nums.GetFix(s); gotX != x || gotSize != size || gotErr != err {
		t.Errorf("GetFix(%x): %d, %d bytes, error %d; want %d, %d, %d", s, gotX, gotSize, gotErr, x, size, err)
	}
}

// refusals are rows of bytes of which none begins with a number: they do not end, are too long, or end by a 0 that says nothing.
func refusals() []string {
	l := []string{""}
	for n := 1; n <= 20; n++ {
		l = append(l, strings.Repeat("\x80", n), strings.Repeat("\xff", n), strings.Repeat("\x81", n)+"\x00", strings.Repeat("\x80", n)+"\x00", strings.Repeat("\xff", n)+"\x00\x01")
		if n >= 9 {
			l = append(l, strings.Repeat("\x80", n)+"\x01", strings.Repeat("\xff", n)+"\x01", strings.Repeat("\xff", n)+"\x7f")
		}
	}
	return l
}

// 7.1: the chapter's own examples.
func TestExamples(t *testing.T) {
	if got := nums.Put(300); got != "\xac\x02" {
		t.Errorf("Put(300): %x", got)
	}
	checkGet(t, "\x80\x00", 0, 0, api.ErrSyntax)
}

// 7.1: the bytes at each edge of their count, written out.
func TestPutEdges(t *testing.T) {
	for _, c := range []struct {
		n int
		s string
	}{
		{math.MinInt, "\x00"}, {-300, "\x00"}, {-1, "\x00"}, {0, "\x00"}, {1, "\x01"}, {127, "\x7f"}, {128, "\x80\x01"}, {129, "\x81\x01"}, {255, "\xff\x01"}, {256, "\x80\x02"},
		{1<<14 - 1, "\xff\x7f"}, {1 << 14, "\x80\x80\x01"}, {1<<21 - 1, "\xff\xff\x7f"}, {1 << 21, "\x80\x80\x80\x01"}, {1 << 56, "\x80\x80\x80\x80\x80\x80\x80\x80\x01"},
		{1<<56 - 1, "\xff\xff\xff\xff\xff\xff\xff\x7f"}, {1 << 62, "\x80\x80\x80\x80\x80\x80\x80\x80\x40"}, {math.MaxInt, "\xff\xff\xff\xff\xff\xff\xff\xff\x7f"},
	} {
		if got := nums.Put(c.n); got != c.s {
			t.Errorf("Put(%d): %x, want %x", c.n, got, c.s)
		}
	}
}

// 7.1 and 7.2: each number is written as the plain way writes it, and is read whatever stands behind it.
func TestPutAndGet(t *testing.T) {
	for _, n := range numbers() {
		s := nums.Put(n)
		if want := put(n); s != want {
			t.Errorf("Put(%d): %x, want %x", n, s, want)
		}
		for _, rest := range rests() {
			checkGet(t, s+rest, max(n, 0), len(s), api.OK)
		}
		for size := range s {
			checkGet(t, s[:size], 0, 0, api.ErrSyntax)
		}
	}
}

// 7.1: what is no number is refused, and answers nothing beside the error.
func TestGetRefuses(t *testing.T) {
	for _, s := range refusals() {
		checkGet(t, s, 0, 0, api.ErrSyntax)
	}
	checkGet(t, "\x00", 0, 1, api.OK)
	checkGet(t, "\x00\x00", 0, 1, api.OK)
	checkGet(t, "\x80\x80\x01", 1<<14, 3, api.OK)
	checkGet(t, "\x80\x80\x80\x80\x80\x80\x80\x80\x01\x00", 1<<56, 9, api.OK)
}

// 7.2 and T7: whatever row of two bytes is read is the one that Put writes; no other is.
func TestGetReadsWhatPutWrites(t *testing.T) {
	for a := range 256 {
		for b := range 256 {
			s := string([]byte{byte(a), byte(b)})
			for _, at := range []int{0, 1, 5, 7, 8} {
				row := strings.Repeat("\x80", at) + s
				n, size, err := nums.Get(row)
				last := strings.IndexFunc(row, func(r rune) bool { return r < 128 })
				good := last >= 0 && last < 9 && (last == 0 || row[last] != 0)
				if good != (err == api.OK) {
					t.Errorf("Get(%x): error %d, but that it is a number is %t", row, err, good)
				}
				if err == api.OK && put(n) != row[:size] {
					t.Errorf("Get(%x): %d, %d bytes, which is written %x", row, n, size, put(n))
				}
			}
		}
	}
}

// 7.1: three numbers are written one behind the other, those below 0 as 0, and read again.
func TestVec(t *testing.T) {
	l := numbers()
	for i := range l {
		v := api.Vec{l[i], l[(i*7+3)%len(l)], l[(i*31+11)%len(l)]}
		s := nums.PutVec(v)
		if want := put(v[0]) + put(v[1]) + put(v[2]); s != want {
			t.Errorf("PutVec(%v): %x, want %x", v, s, want)
		}
		want := api.Vec{max(v[0], 0), max(v[1], 0), max(v[2], 0)}
		for _, rest := range rests() {
			checkGetVec(t, s+rest, want, len(s), api.OK)
		}
		for size := range s {
			checkGetVec(t, s[:size], api.Vec{}, 0, api.ErrSyntax)
		}
	}
	checkGetVec(t, "\x00\x00\x00\x00", api.Vec{}, 3, api.OK)
}

// 7.1: if one of three is no number, none is told.
func TestGetVecRefuses(t *testing.T) {
	for _, s := range refusals() {
		checkGetVec(t, s, api.Vec{}, 0, api.ErrSyntax)
		checkGetVec(t, "\x05"+s, api.Vec{}, 0, api.ErrSyntax)
		checkGetVec(t, "\x05\xac\x02"+s, api.Vec{}, 0, api.ErrSyntax)
	}
	checkGetVec(t, "\x05\x80\x00\x06\x07", api.Vec{}, 0, api.ErrSyntax)
}

// fixes are Fix numbers of all kinds.
func fixes() []api.Fix {
	l := []api.Fix{0, 1, api.One - 1, api.One, api.One + 1, api.MaxFix - 1, api.MaxFix, 0x0102030405060708, 0x8090a0b0c0d0e0f0}
	for shift := range 64 {
		l = append(l, 1<<shift, 1<<shift-1, api.MaxFix-1<<shift)
	}
	return l
}

// 7.1: eight bytes, the lowest first, and not one fewer.
func TestFix(t *testing.T) {
	if got, want := nums.PutFix(0x0102030405060708), "\x08\x07\x06\x05\x04\x03\x02\x01"; got != want {
		t.Errorf("PutFix: %x, want %x", got, want)
	}
	for _, x := range fixes() {
		want := string(binary.LittleEndian.AppendUint64(nil, uint64(x)))
		s := nums.PutFix(x)
		if s != want {
			t.Errorf("PutFix(%s): %x, want %x", strconv.FormatUint(uint64(x), 16), s, want)
		}
		for _, rest := range rests() {
			checkGetFix(t, s+rest, x, 8, api.OK)
		}
		for size := range s {
			checkGetFix(t, s[:size], 0, 0, api.ErrSyntax)
		}
	}
}
