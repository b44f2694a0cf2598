package disk_test

import (
	"math"
	"strconv"
	"strings"
	"testing"
	"unsafe"

	"tithebarn/api"
	"tithebarn/disk"
)

const most = 1 << 20 // how many bytes a disk has at most

// exact is a disk as the chapter tells it: two texts, and whether the second one replaces the first.
type exact struct {
	size             int
	content, waiting string
	replaces         bool
}

// would is how many bytes there were if all that waits were safe.
func (x *exact) would() int {
	if x.replaces {
		return len(x.waiting)
	}
	return len(x.content) + len(x.waiting)
}

func (x *exact) write(s string) api.Errno {
	if x.would()+len(s) > x.size {
		return api.ErrFull
	}
	x.waiting += s
	return api.OK
}

func (x *exact) replace(s string) api.Errno {
	if len(s) > x.size {
		return api.ErrFull
	}
	x.waiting, x.replaces = s, true
	return api.OK
}

func (x *exact) crash(keep int) {
	keep = max(keep, 0)
	switch {
	case x.replaces && keep >= len(x.waiting):
		x.content = x.waiting
	case x.replaces:
	case keep < len(x.waiting):
		x.content += x.waiting[:keep]
	default:
		x.content += x.waiting
	}
	x.waiting, x.replaces = "", false
}

// step is one call: w, r: Write, Replace of text; c: Crash of n; s: Sync.
type step struct {
	kind byte
	text string
	n    int
}

func (s step) String() string {
	switch s.kind {
	case 'w', 'r':
		return string(s.kind) + strconv.Quote(short(s.text))
	case 'c':
		return "c" + strconv.Itoa(s.n)
	}
	return "s"
}

// do does the step on both disks and tells what both answered.
func (s step) do(d *disk.Disk, x *exact) (api.Errno, api.Errno) {
	switch s.kind {
	case 'w':
		return d.Write(s.text), x.write(s.text)
	case 'r':
		return d.Replace(s.text), x.replace(s.text)
	case 'c':
		d.Crash(s.n)
		x.crash(s.n)
	case 's':
		d.Sync()
		x.crash(math.MaxInt)
	}
	return api.OK, api.OK
}

// short is s, or how it begins if it is long.
func short(s string) string {
	if len(s) > 40 {
		return s[:40] + " and so on"
	}
	return s
}

// row is n bytes that look like none in particular, the same ones for the same seed.
func row(n int, seed uint32) string {
	b := make([]byte, n)
	for i := range b {
		seed = seed*1664525 + 1013904223
		b[i] = byte(seed >> 24)
	}
	return string(b)
}

// checkDisk holds all that a disk tells against what it should.
func checkDisk(t *testing.T, what string, d *disk.Disk, content string, waiting, free int) {
	t.Helper()
	if got := d.Content(); got != content {
		t.Errorf("%s: Content %q, %d bytes; want %q, %d bytes", what, short(got), len(got), short(content), len(content))
	}
	if got := d.Waiting(); got != waiting {
		t.Errorf("%s: Waiting %d, want %d", what, got, waiting)
	}
	if got := d.Free(); got != free {
		t.Errorf("%s: Free %d, want %d", what, got, free)
	}
}

func checkErr(t *testing.T, what string, got, want api.Errno) {
	t.Helper()
	if got != want {
		t.Errorf("%s: error %d, want %d", what, got, want)
	}
}

// play does the steps on a disk and holds it against the exact one behind each.
func play(t *testing.T, size int, steps []step) {
	t.Helper()
	d, x := disk.New(size), &exact{size: size}
	for i, s := range steps {
		got, want := s.do(d, x)
		checkErr(t, "the last call", got, want)
		checkDisk(t, "behind the last call", d, x.content, len(x.waiting), size-x.would())
		if t.Failed() {
			t.Fatalf("the calls on New(%d): %v", size, steps[:i+1])
		}
	}
}

// 5.1: the chapter's own examples, one behind the other.
func TestExamples(t *testing.T) {
	d := disk.New(10)
	d.Write("abc")
	d.Crash(2)
	checkDisk(t, "Write(abc), Crash(2)", d, "ab", 0, 8)
	d.Replace("xyz")
	d.Crash(2)
	checkDisk(t, "Replace(xyz), Crash(2)", d, "ab", 0, 8)
	d.Replace("xyz")
	d.Crash(3)
	checkDisk(t, "Replace(xyz), Crash(3)", d, "xyz", 0, 7)
}

// 5.1: a disk is empty and has so many bytes, at least 0 and at most MaxDisk.
func TestNew(t *testing.T) {
	if api.MaxDisk != most {
		t.Fatalf("MaxDisk: %d, want %d", api.MaxDisk, most)
	}
	for _, x := range []struct{ size, free int }{
		{0, 0}, {1, 1}, {10, 10}, {4096, 4096}, {most - 1, most - 1}, {most, most}, {most + 1, most}, {1 << 40, most}, {math.MaxInt, most},
		{-1, 0}, {-10, 0}, {-most, 0}, {math.MinInt, 0},
	} {
		d := disk.New(x.size)
		checkDisk(t, "New("+strconv.Itoa(x.size)+")", d, "", 0, x.free)
		s := row(x.free, 1)
		checkErr(t, "Write of one too many", d.Write(s+"x"), api.ErrFull)
		checkErr(t, "Replace by one too many", d.Replace(s+"x"), api.ErrFull)
		checkDisk(t, "what is refused", d, "", 0, x.free)
		checkErr(t, "Write of all", d.Write(s), api.OK)
		checkDisk(t, "Write of all", d, "", x.free, 0)
		checkErr(t, "Write behind all", d.Write("x"), api.ErrFull)
		d.Sync()
		checkDisk(t, "Sync of all", d, s, 0, 0)
		checkErr(t, "Replace by all", d.Replace(row(x.free, 2)), api.OK)
		d.Sync()
		checkDisk(t, "Replace, Sync of all", d, row(x.free, 2), 0, 0)
	}
}

// 5.1: disks have nothing in common.
func TestDisksAreTheirOwn(t *testing.T) {
	d, e := disk.New(5), disk.New(5)
	d.Write("abc")
	e.Replace("xy")
	d.Sync()
	checkDisk(t, "the first one", d, "abc", 0, 2)
	checkDisk(t, "the second one", e, "", 2, 3)
}

// 5.1: what is written waits, behind all that waits, and is no content till Sync.
func TestWrite(t *testing.T) {
	d := disk.New(10)
	for _, x := range []struct {
		text          string
		waiting, free int
	}{{"ab", 2, 8}, {"", 2, 8}, {"c", 3, 7}, {"\x00\xff\x80", 6, 4}} {
		checkErr(t, "Write", d.Write(x.text), api.OK)
		checkDisk(t, "Write", d, "", x.waiting, x.free)
	}
	d.Sync()
	checkDisk(t, "Sync", d, "abc\x00\xff\x80", 0, 4)
	d.Sync()
	checkDisk(t, "a second Sync", d, "abc\x00\xff\x80", 0, 4)
	d.Write("de")
	checkDisk(t, "Write behind content", d, "abc\x00\xff\x80", 2, 2)
	d.Sync()
	checkDisk(t, "Sync behind content", d, "abc\x00\xff\x80de", 0, 2)
}

// 5.1: content and what waits may have size bytes together; what would have more is refused whole, and changes nothing.
func TestWriteIsFull(t *testing.T) {
	d := disk.New(10)
	d.Write("1234")
	d.Sync()
	d.Write("567")
	for _, s := range []string{"abcd", "abcde", row(10, 1), row(11, 1), row(most+1, 1)} {
		checkErr(t, "Write of too many", d.Write(s), api.ErrFull)
		checkDisk(t, "Write of too many", d, "1234", 3, 3)
	}
	checkErr(t, "Write of the rest", d.Write("890"), api.OK)
	checkDisk(t, "Write of the rest", d, "1234", 6, 0)
	checkErr(t, "Write to a full disk", d.Write("x"), api.ErrFull)
	checkErr(t, "Write of nothing to a full disk", d.Write(""), api.OK)
	d.Sync()
	checkDisk(t, "Sync", d, "1234567890", 0, 0)
	checkErr(t, "Write behind full content", d.Write("x"), api.ErrFull)
	checkErr(t, "Write of nothing behind full content", d.Write(""), api.OK)
}

// 5.1: behind a replacement, the replacement alone counts, and it has what is written behind it.
func TestWriteBehindReplace(t *testing.T) {
	d := disk.New(5)
	d.Write("12345")
	d.Sync()
	checkErr(t, "Replace", d.Replace("xyz"), api.OK)
	checkDisk(t, "Replace", d, "12345", 3, 2)
	checkErr(t, "Write of too many", d.Write("uvw"), api.ErrFull)
	checkDisk(t, "Write of too many", d, "12345", 3, 2)
	checkErr(t, "Write of the rest", d.Write("uv"), api.OK)
	checkDisk(t, "Write of the rest", d, "12345", 5, 0)
	checkErr(t, "Write of one more", d.Write("w"), api.ErrFull)
	d.Sync()
	checkDisk(t, "Sync", d, "xyzuv", 0, 0)
}

// 5.1: a replacement is all that waits: neither writes nor a replacement ahead of it are safe later.
func TestReplace(t *testing.T) {
	d := disk.New(6)
	d.Write("abc")
	d.Sync()
	d.Write("def")
	checkErr(t, "Replace behind Write", d.Replace("xy"), api.OK)
	checkDisk(t, "Replace behind Write", d, "abc", 2, 4)
	checkErr(t, "Replace behind Replace", d.Replace("123456"), api.OK)
	checkDisk(t, "Replace behind Replace", d, "abc", 6, 0)
	checkErr(t, "Replace by less", d.Replace("z"), api.OK)
	checkDisk(t, "Replace by less", d, "abc", 1, 5)
	d.Sync()
	checkDisk(t, "Sync", d, "z", 0, 5)
	d.Write("a")
	d.Sync()
	checkDisk(t, "Write behind Sync", d, "za", 0, 4)
}

// 5.1: of a replacement that is refused, what waits stays, and as what it was.
func TestReplaceIsFull(t *testing.T) {
	d := disk.New(4)
	d.Write("ab")
	d.Sync()
	d.Write("c")
	for _, s := range []string{"12345", row(100, 1), row(most+1, 1)} {
		checkErr(t, "Replace by too many", d.Replace(s), api.ErrFull)
		checkDisk(t, "Replace by too many", d, "ab", 1, 1)
	}
	d.Crash(1)
	checkDisk(t, "Crash behind it", d, "abc", 0, 1)
	d.Replace("xy")
	checkErr(t, "a second Replace by too many", d.Replace("12345"), api.ErrFull)
	checkDisk(t, "a second Replace by too many", d, "abc", 2, 2)
	d.Crash(1)
	checkDisk(t, "Crash behind a replacement that waits", d, "abc", 0, 1)
	d.Replace("xy")
	d.Replace("12345")
	d.Sync()
	checkDisk(t, "Sync behind a replacement that waits", d, "xy", 0, 2)
}

// 5.1: a replacement by nothing is one: Sync takes it, and each crash has all its bytes.
func TestReplaceByNothing(t *testing.T) {
	d := disk.New(4)
	fill := func() {
		d.Replace("abc")
		d.Sync()
		d.Write("d")
		checkErr(t, "Replace by nothing", d.Replace(""), api.OK)
		checkDisk(t, "Replace by nothing", d, "abc", 0, 4)
	}
	fill()
	d.Sync()
	checkDisk(t, "Sync", d, "", 0, 4)
	for _, keep := range []int{0, -1, 1, math.MinInt, math.MaxInt} {
		fill()
		d.Crash(keep)
		checkDisk(t, "Crash("+strconv.Itoa(keep)+")", d, "", 0, 4)
	}
	fill()
	d.Write("xy")
	d.Crash(1)
	checkDisk(t, "Write behind it, Crash(1)", d, "abc", 0, 1)
}

// 5.1: of what waits a crash makes the first keep bytes content, whatever keep is, and nothing waits then.
func TestCrash(t *testing.T) {
	for _, x := range []struct {
		keep    int
		content string
	}{
		{math.MinInt, "ab"}, {-3, "ab"}, {-1, "ab"}, {0, "ab"}, {1, "abc"}, {2, "abcd"}, {3, "abcde"}, {4, "abcdef"}, {5, "abcdef"}, {6, "abcdef"}, {99, "abcdef"}, {1 << 40, "abcdef"}, {math.MaxInt, "abcdef"},
	} {
		d := disk.New(8)
		d.Write("ab")
		d.Sync()
		d.Write("cde")
		d.Write("f")
		d.Crash(x.keep)
		what := "Crash(" + strconv.Itoa(x.keep) + ")"
		checkDisk(t, what, d, x.content, 0, 8-len(x.content))
		d.Crash(99)
		d.Sync()
		checkDisk(t, what+", Crash, Sync", d, x.content, 0, 8-len(x.content))
		d.Write("gh")
		checkDisk(t, what+", Write", d, x.content, 2, 6-len(x.content))
		d.Crash(1)
		checkDisk(t, what+", Write, Crash(1)", d, x.content+"g", 0, 7-len(x.content))
		d.Sync()
		checkDisk(t, what+", Write, Crash(1), Sync", d, x.content+"g", 0, 7-len(x.content))
	}
}

// 5.1: a replacement is content whole or not at all.
func TestCrashOfReplacement(t *testing.T) {
	for _, x := range []struct {
		keep    int
		content string
	}{
		{math.MinInt, "ab"}, {-1, "ab"}, {0, "ab"}, {1, "ab"}, {2, "ab"}, {3, "ab"}, {4, "wxyz"}, {5, "wxyz"}, {math.MaxInt, "wxyz"},
	} {
		d := disk.New(8)
		d.Write("ab")
		d.Sync()
		d.Write("cdefgh")
		d.Replace("wxy")
		d.Write("z")
		d.Crash(x.keep)
		what := "Crash(" + strconv.Itoa(x.keep) + ")"
		checkDisk(t, what, d, x.content, 0, 8-len(x.content))
		d.Sync()
		d.Crash(99)
		checkDisk(t, what+", Sync, Crash", d, x.content, 0, 8-len(x.content))
		d.Write("gh")
		d.Crash(1)
		checkDisk(t, what+", Write, Crash(1)", d, x.content+"g", 0, 7-len(x.content))
	}
}

// 5.1: where nothing waits a crash or a Sync changes nothing.
func TestNothingWaits(t *testing.T) {
	for _, keep := range []int{math.MinInt, -1, 0, 1, 2, 3, 99, math.MaxInt} {
		d := disk.New(4)
		d.Crash(keep)
		checkDisk(t, "Crash of an empty disk", d, "", 0, 4)
		d.Write("abc")
		d.Sync()
		d.Crash(keep)
		d.Sync()
		d.Crash(keep)
		checkDisk(t, "Crash where nothing waits", d, "abc", 0, 1)
	}
}

// all calls f with each row of so many steps of the given ones.
func all(steps []step, many int, ahead []step, f func([]step)) {
	if many == 0 {
		f(ahead)
		return
	}
	for _, s := range steps {
		all(steps, many-1, append(ahead[:len(ahead):len(ahead)], s), f)
	}
}

// 5.1: each row of four calls, and of five on one of the disks, which are small enough to be full.
func TestAllShortRows(t *testing.T) {
	steps := []step{{'w', "", 0}, {'w', "a", 0}, {'w', "bc", 0}, {'r', "", 0}, {'r', "xyz", 0}, {'s', "", 0}, {'c', "", 0}, {'c', "", 1}, {'c', "", 2}, {'c', "", 3}}
	for size := range 6 {
		many := 4
		if size == 4 {
			many = 5
		}
		all(steps, many, nil, func(l []step) { play(t, size, l) })
	}
}

// 5.1: long rows of calls that are like none in particular.
func TestLongRows(t *testing.T) {
	for _, size := range []int{0, 1, 7, 40, 300, 5000, 70000} {
		seed := uint32(size) + 17
		next := func(n int) int {
			seed = seed*1664525 + 1013904223
			return int(seed>>8) % n
		}
		for range 20 {
			var l []step
			for range 150 {
				long := size/2 + 2
				switch next(10) {
				case 0, 1, 2, 3, 4:
					l = append(l, step{'w', row(next(long/4+2), seed), 0})
				case 5:
					l = append(l, step{'r', row(next(long), seed), 0})
				case 6, 7:
					l = append(l, step{'c', "", next(long) - 1})
				case 8:
					l = append(l, step{'c', "", next(4) - 1})
				default:
					l = append(l, step{'s', "", 0})
				}
			}
			play(t, size, l)
		}
	}
}

// 5.1: the greatest disk is filled byte by byte, each of them made safe: no call may cost what the content has.
func TestFilledByteByByte(t *testing.T) {
	d, s := disk.New(most), row(most, 5)
	for i := range most {
		if e := d.Write(s[i : i+1]); e != api.OK {
			t.Fatalf("Write %d: error %d", i, e)
		}
		d.Sync()
	}
	checkErr(t, "Write of one more", d.Write("x"), api.ErrFull)
	checkDisk(t, "all bytes", d, s, 0, 0)
}

// R1: on a nil disk all answers are zero values, but ErrArg where it is an error.
func TestNil(t *testing.T) {
	var d *disk.Disk
	for _, s := range []string{"", "a", row(most+1, 1)} {
		checkErr(t, "Write to nil", d.Write(s), api.ErrArg)
		checkErr(t, "Replace of nil", d.Replace(s), api.ErrArg)
	}
	d.Sync()
	for _, keep := range []int{math.MinInt, -1, 0, 1, math.MaxInt} {
		d.Crash(keep)
	}
	checkDisk(t, "nil", d, "", 0, 0)
}

// R4: what is handed out is new memory: it shares none with another answer, nor with what was written, and stays as it is whatever is done later.
func TestNewMemory(t *testing.T) {
	s := strings.Clone("abcdef")
	for _, put := range []func(*disk.Disk, string) api.Errno{(*disk.Disk).Write, (*disk.Disk).Replace} {
		d := disk.New(10)
		put(d, s)
		d.Sync()
		first, second := d.Content(), d.Content()
		if unsafe.StringData(first) == unsafe.StringData(second) || unsafe.StringData(first) == unsafe.StringData(s) {
			t.Error("Content shares memory")
		}
		d.Crash(0)
		d.Write("gh")
		d.Crash(1)
		d.Write("ij")
		d.Replace("0123456789")
		d.Sync()
		if first != "abcdef" || second != "abcdef" || s != "abcdef" {
			t.Errorf("Content changed later: %q, %q; what was written: %q", first, second, s)
		}
	}
}
