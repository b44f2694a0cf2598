package journal_test

import (
	"hash/crc32"
	"math"
	"slices"
	"strconv"
	"strings"
	"testing"
	"unsafe"

	"tithebarn/api"
	"tithebarn/disk"
	"tithebarn/journal"
)

const (
	most     = 1 << 14 // how many bytes a record has at most
	mostDisk = 1 << 20 // how many bytes a disk has at most
	head     = 8       // how many bytes stand ahead of a frame's text
)

var castagnoli = crc32.MakeTable(crc32.Castagnoli)

// number is n's four bytes, the lowest first.
func number(n uint32) string {
	return string([]byte{byte(n), byte(n >> 8), byte(n >> 16), byte(n >> 24)})
}

// frame is s as a frame, whatever its length.
func frame(s string) string {
	return number(uint32(len(s))) + number(crc32.Checksum([]byte(s), castagnoli)) + s
}

// frames are those of l, one behind the other.
func frames(l ...string) string {
	var b strings.Builder
	for _, s := range l {
		b.WriteString(frame(s))
	}
	return b.String()
}

// row is n bytes that look like none in particular, the same ones for the same seed.
func row(n int, seed uint32) string {
	b := make([]byte, n)
	for i := range b {
		seed = seed*1664525 + 1013904223
		b[i] = byte(seed >> 24)
	}
	return string(b)
}

// turned is s with the byte at i put to by (exclusive or).
func turned(s string, i int, by byte) string {
	b := []byte(s)
	b[i] ^= by
	return string(b)
}

// short is s, or how it begins if it is long.
func short(s string) string {
	if len(s) > 60 {
		return s[:60] + " and so on"
	}
	return s
}

// shorts are l's texts, each of them short.
func shorts(l []string) []string {
	var out []string
	for _, s := range l[:min(len(l), 20)] {
		out = append(out, short(s))
	}
	return out
}

// texts are of all kinds: empty, of zeros, of ones, of a frame, at the edges of a length's bytes and of a record.
func texts() []string {
	return []string{
		"", "a", "one", "", "\x00", strings.Repeat("\x00", 8), strings.Repeat("\xff", 8), "zehnt\xe2\x82\xac\xff\xfe\x00ende\n", frame(""), frame("abc"), frame("abc")[:10],
		row(7, 1), row(8, 2), row(9, 3), row(255, 4), row(256, 5), row(257, 6), row(4096, 7), row(most-8, 8), row(most-1, 9), row(most, 10), "",
	}
}

// noFrames are rows of bytes of which none begins with a frame: too few of them, too long, torn, turned.
func noFrames() []string {
	whole := frame("abc")
	l := []string{"", "\x00", "\x00\x00\x00\x00\x00\x00\x00", "abc", "\xff\xff\xff\xff\xff\xff\xff\xff", frame(row(most+1, 1)), number(most+1) + number(0), number(1<<31+3) + whole[4:], number(1) + number(0), number(most) + number(0) + row(most-1, 1)}
	for n := range whole {
		l = append(l, whole[:n])
	}
	for i := range whole {
		l = append(l, turned(whole, i, 0x10), turned(whole, i, 0x81))
	}
	return append(l, turned(frame(""), 7, 1), turned(frame(row(300, 2)), 200, 0xff), frame(row(300, 2))[:307])
}

func checkErr(t *testing.T, what string, got, want api.Errno) {
	t.Helper()
	if got != want {
		t.Errorf("%s: error %d, want %d", what, got, want)
	}
}

func checkTexts(t *testing.T, what string, got, want []string) {
	t.Helper()
	if !slices.Equal(got, want) {
		t.Errorf("%s: %d records %q; want %d, %q", what, len(got), shorts(got), len(want), shorts(want))
	}
}

func checkScan(t *testing.T, s string, want []string, n int) {
	t.Helper()
	got, m := journal.Scan(s)
	what := "Scan of " + strconv.Quote(short(s)) + ", " + strconv.Itoa(len(s)) + " bytes"
	checkTexts(t, what, got, want)
	if m != n {
		t.Errorf("%s: %d bytes, want %d", what, m, n)
	}
}

// checkDisk holds a disk's content, and what waits on it, against what they should be.
func checkDisk(t *testing.T, what string, d *disk.Disk, content string, waiting int) {
	t.Helper()
	if got := d.Content(); got != content {
		t.Errorf("%s: the disk has %q, %d bytes; want %q, %d bytes", what, short(got), len(got), short(content), len(content))
	}
	if got := d.Waiting(); got != waiting {
		t.Errorf("%s: %d bytes wait, want %d", what, got, waiting)
	}
}

// checkKept holds a journal to have the records l, on a disk that has their frames, all of them safe, and nothing else.
func checkKept(t *testing.T, what string, j *journal.Journal, d *disk.Disk, l []string) {
	t.Helper()
	if got := j.Records(); got != len(l) {
		t.Errorf("%s: Records %d, want %d", what, got, len(l))
	}
	checkDisk(t, what, d, frames(l...), 0)
}

// checkOpen opens a disk and holds what is found to be l, and the disk to have nothing else.
func checkOpen(t *testing.T, what string, d *disk.Disk, l []string) *journal.Journal {
	t.Helper()
	j, got := journal.Open(d)
	checkTexts(t, what+", Open", got, l)
	checkKept(t, what+", Open", j, d, l)
	return j
}

// holding is a disk of size bytes with a content, and nothing that waits.
func holding(t *testing.T, size int, content string) *disk.Disk {
	t.Helper()
	d := disk.New(size)
	checkErr(t, "Write of a content", d.Write(content), api.OK)
	d.Sync()
	return d
}

// 6.1: the chapter's own example.
func TestExample(t *testing.T) {
	half := frame("three")
	checkScan(t, frames("one", "two")+half[:len(half)/2], []string{"one", "two"}, 22)
}

// 6.1: the texts of one frame, and of a row of them, empty ones too, up to the end.
func TestScan(t *testing.T) {
	checkScan(t, "", nil, 0)
	for _, s := range texts() {
		checkScan(t, frame(s), []string{s}, len(s)+8)
	}
	l := texts()
	for n := range len(l) {
		checkScan(t, frames(l[:n]...), l[:n], len(frames(l[:n]...)))
		checkScan(t, frames(l[n:]...), l[n:], len(frames(l[n:]...)))
	}
	checkScan(t, strings.Repeat("\x00", 8*5000), make([]string, 5000), 8*5000)
	checkScan(t, strings.Repeat("\x00", 8*5000+7), make([]string, 5000), 8*5000)
}

// 6.1: Scan ends with what is no frame, however it is none, and whatever stands behind it.
func TestScanUpToNoFrame(t *testing.T) {
	for _, none := range noFrames() {
		checkScan(t, none, nil, 0)
		checkScan(t, frame("one")+none, []string{"one"}, 11)
		checkScan(t, frames("one", "", "two")+none, []string{"one", "", "two"}, 30)
	}
	for _, none := range []string{turned(frame("abc"), 9, 1), turned(frame("abc"), 5, 1), number(most+1) + number(0), "\xff"} {
		checkScan(t, none+frames("one", "two"), nil, 0)
		checkScan(t, frame("one")+none+frames("two", "three"), []string{"one"}, 11)
	}
}

// 6.1: of a row that ends anywhere, Scan has the frames that are all there.
func TestScanOfTorn(t *testing.T) {
	l := []string{"one", "", "\x00\x00", row(40, 1), "", frame("x")}
	all := frames(l...)
	for n := range len(all) + 1 {
		whole := 0
		for whole < len(l) && len(frames(l[:whole+1]...)) <= n {
			whole++
		}
		checkScan(t, all[:n], l[:whole], len(frames(l[:whole]...)))
	}
}

// 6.1: of a row of which any byte of a text or a sum is turned, Scan has the frames ahead of it.
func TestScanOfTurned(t *testing.T) {
	l := []string{"one", "two", "", row(20, 1)}
	all := frames(l...)
	for whole := range l {
		at := len(frames(l[:whole]...))
		for i := at + 4; i < at+head+len(l[whole]); i++ {
			checkScan(t, turned(all, i, 0x40), l[:whole], at)
		}
	}
}

// 6.1: Scan knows no greatest disk.
func TestScanOfMuch(t *testing.T) {
	l := make([]string, 100)
	for i := range l {
		l[i] = row(most, uint32(i))
	}
	all := frames(l...)
	checkScan(t, all, l, len(all))
	checkScan(t, all[:len(all)-1], l[:99], len(all)-most-8)
}

// R4: texts share no memory with the bytes they were found in.
func TestScanIsNewMemory(t *testing.T) {
	s := frames("abc", row(most, 4))
	l, _ := journal.Scan(s)
	for i, at := range []int{8, 19} {
		if unsafe.StringData(l[i]) == unsafe.StringData(s[at:]) {
			t.Errorf("text %d shares its memory with what was scanned", i)
		}
	}
}

// 6.1: Open of an empty disk has no records, and leaves it empty.
func TestOpenOfEmpty(t *testing.T) {
	for _, size := range []int{-1, 0, 1, 7, 8, 100, mostDisk, math.MaxInt} {
		checkOpen(t, "an empty disk", disk.New(size), nil)
	}
}

// 6.1: Open has the records of a disk that is whole, and changes nothing on it, as often as it is opened.
func TestOpenOfWhole(t *testing.T) {
	for _, l := range [][]string{{""}, {"one"}, {"one", "two"}, {"", "", ""}, {frame("one")}, texts()} {
		for _, size := range []int{len(frames(l...)), len(frames(l...)) + 1, mostDisk} {
			d := holding(t, size, frames(l...))
			checkOpen(t, "a whole disk", d, l)
			checkOpen(t, "a whole disk, once more", d, l)
		}
	}
}

// 6.1: what is no frame, and all behind it, has to go, and what is left is safe; what is appended next is found.
func TestOpenOfTorn(t *testing.T) {
	for _, l := range [][]string{nil, {"one"}, {"one", "", "two"}} {
		for _, none := range noFrames() {
			for _, behind := range []string{"", frame("three")} {
				if _, n := journal.Scan(none + behind); n > 0 {
					continue
				}
				d := holding(t, len(frames(l...))+len(none)+50, frames(l...)+none+behind)
				j := checkOpen(t, "a torn disk", d, l)
				d.Crash(0)
				checkKept(t, "a torn disk, Crash", j, d, l)
				checkErr(t, "Append behind what was torn", j.Append("new"), api.OK)
				checkOpen(t, "Append behind what was torn", d, append(l[:len(l):len(l)], "new"))
			}
		}
	}
}

// 6.1: a full disk that is torn is opened as well, and has room then.
func TestOpenOfFullAndTorn(t *testing.T) {
	d := holding(t, 30, frame("one")+frame(row(12, 1))[:19])
	j := checkOpen(t, "a full disk", d, []string{"one"})
	if d.Free() != 19 {
		t.Errorf("Free: %d, want 19", d.Free())
	}
	checkErr(t, "Append of too many", j.Append(row(12, 1)), api.ErrFull)
	checkErr(t, "Append of all", j.Append(row(11, 1)), api.OK)
	checkKept(t, "Append of all", j, d, []string{"one", row(11, 1)})
	all := row(mostDisk, 3)
	checkOpen(t, "the greatest disk, of no frame", holding(t, mostDisk, all), nil)
}

// 6.1: Open looks at content alone. What waits behind whole frames is left as it is; behind others it goes with them.
func TestOpenWhereSomethingWaits(t *testing.T) {
	d := holding(t, 60, frame("one"))
	d.Write(frame("two"))
	j, l := journal.Open(d)
	checkTexts(t, "Open where a frame waits", l, []string{"one"})
	checkDisk(t, "Open where a frame waits", d, frame("one"), 11)
	if j.Records() != 1 {
		t.Errorf("Records: %d, want 1", j.Records())
	}
	d.Crash(11)
	checkOpen(t, "Crash behind it", d, []string{"one", "two"})

	d = holding(t, 60, frame("one")+"torn")
	d.Write(frame("two"))
	checkOpen(t, "a torn disk where a frame waits", d, []string{"one"})
	d.Crash(99)
	checkOpen(t, "Crash behind it", d, []string{"one"})

	d = holding(t, 60, frame("one"))
	d.Replace(frame("two"))
	_, l = journal.Open(d)
	checkTexts(t, "Open where a replacement waits", l, []string{"one"})
	checkDisk(t, "Open where a replacement waits", d, frame("one"), 11)
	d.Sync()
	checkOpen(t, "Sync behind it", d, []string{"two"})
}

// R1: no disk is one of no bytes.
func TestOpenOfNil(t *testing.T) {
	j, l := journal.Open(nil)
	checkTexts(t, "Open of nil", l, nil)
	if j == nil {
		t.Fatal("Open of nil: no journal")
	}
	checkErr(t, "Append of nothing", j.Append(""), api.ErrFull)
	checkErr(t, "Append of too long", j.Append(row(most+1, 1)), api.ErrSize)
	checkErr(t, "Reset to one", j.Reset([]string{""}), api.ErrFull)
	checkErr(t, "Reset to none", j.Reset(nil), api.OK)
	if j.Records() != 0 {
		t.Errorf("Records: %d, want 0", j.Records())
	}
}

// R1: on nil the calls answer ErrArg, whatever else is wrong, and 0.
func TestNil(t *testing.T) {
	var j *journal.Journal
	for _, s := range []string{"", "one", row(most, 1), row(most+1, 1)} {
		checkErr(t, "Append on nil", j.Append(s), api.ErrArg)
		checkErr(t, "Reset on nil", j.Reset([]string{s}), api.ErrArg)
	}
	checkErr(t, "Reset on nil to none", j.Reset(nil), api.ErrArg)
	if j.Records() != 0 {
		t.Errorf("Records on nil: %d, want 0", j.Records())
	}
}

// 6.1: each record that is appended is on the disk as a frame, behind those ahead of it, and safe.
func TestAppend(t *testing.T) {
	d := disk.New(mostDisk)
	j := checkOpen(t, "an empty disk", d, nil)
	for i, s := range texts() {
		checkErr(t, "Append", j.Append(s), api.OK)
		checkKept(t, "Append", j, d, texts()[:i+1])
		d.Crash(0)
		checkKept(t, "Append, Crash", j, d, texts()[:i+1])
	}
	checkOpen(t, "Append of all", d, texts())
}

// 6.1: a record has at most MaxRecord bytes; of more it is refused, and changes nothing.
func TestAppendOfTooLong(t *testing.T) {
	if api.MaxRecord != most {
		t.Fatalf("MaxRecord: %d, want %d", api.MaxRecord, most)
	}
	d := disk.New(mostDisk)
	j := checkOpen(t, "an empty disk", d, nil)
	for _, n := range []int{most + 1, most + 2, 2 * most, 1 << 16, mostDisk, 1 << 22} {
		checkErr(t, "Append of too long", j.Append(row(n, 1)), api.ErrSize)
		checkKept(t, "Append of too long", j, d, nil)
	}
	checkErr(t, "Append of MaxRecord", j.Append(row(most, 1)), api.OK)
	checkKept(t, "Append of MaxRecord", j, d, []string{row(most, 1)})
}

// 6.1: a frame that the disk has no room for is refused whole, and changes nothing; ErrSize is told ahead of it.
func TestAppendIsFull(t *testing.T) {
	for size := range 30 {
		for n := range 30 {
			d := disk.New(size)
			j := checkOpen(t, "an empty disk", d, nil)
			if n+8 <= size {
				checkErr(t, "Append", j.Append(row(n, 1)), api.OK)
				checkKept(t, "Append", j, d, []string{row(n, 1)})
				checkErr(t, "Append of one too many behind it", j.Append(row(max(size-n-15, 0), 2)), api.ErrFull)
				checkKept(t, "Append behind it", j, d, []string{row(n, 1)})
			} else {
				checkErr(t, "Append of too many", j.Append(row(n, 1)), api.ErrFull)
				checkKept(t, "Append of too many", j, d, nil)
			}
			checkErr(t, "Append of too long", j.Append(row(most+1, 1)), api.ErrSize)
		}
	}
}

// 6.1: room is what the disk has behind all, what waits too; a refused record leaves that waiting.
func TestAppendWhereSomethingWaits(t *testing.T) {
	d := holding(t, 30, frame("one"))
	j := checkOpen(t, "one record", d, []string{"one"})
	d.Write(frame("two"))
	checkErr(t, "Append of too many", j.Append("x"), api.ErrFull)
	checkErr(t, "Append of too long", j.Append(row(most+1, 1)), api.ErrSize)
	checkDisk(t, "Append of too many", d, frame("one"), 11)
	checkErr(t, "Append of the rest", j.Append(""), api.OK)
	checkDisk(t, "Append of the rest", d, frames("one", "two", ""), 0)
	checkOpen(t, "Append of the rest", d, []string{"one", "two", ""})
}

// 6.1: the greatest disk takes as many records as it has room for, and Records tells how many at each.
func TestAppendTillFull(t *testing.T) {
	d := disk.New(math.MaxInt)
	j := checkOpen(t, "the greatest disk", d, nil)
	for i := range mostDisk / 8 {
		if e := j.Append(""); e != api.OK || j.Records() != i+1 {
			t.Fatalf("Append %d: error %d, Records %d", i, e, j.Records())
		}
	}
	checkErr(t, "Append to a full disk", j.Append(""), api.ErrFull)
	checkOpen(t, "a full disk", d, make([]string, mostDisk/8))
}

// 6.1: Reset leaves the frames of l alone on the disk, and they are safe; more records may be appended.
func TestReset(t *testing.T) {
	d := disk.New(mostDisk)
	j := checkOpen(t, "an empty disk", d, nil)
	for _, l := range [][]string{{"one"}, {"one", "two", "three"}, nil, {""}, {"", ""}, {}, texts(), {"x"}} {
		checkErr(t, "Reset", j.Reset(l), api.OK)
		checkKept(t, "Reset", j, d, l)
		d.Crash(0)
		checkOpen(t, "Reset, Crash", d, l)
		checkErr(t, "Append behind Reset", j.Append("new"), api.OK)
		checkKept(t, "Append behind Reset", j, d, append(l[:len(l):len(l)], "new"))
		checkOpen(t, "Append behind Reset", d, append(l[:len(l):len(l)], "new"))
	}
}

// 6.1: one record that is too long, wherever it stands, is told ahead of all being too many; nothing changes.
func TestResetToTooLong(t *testing.T) {
	d := disk.New(40)
	j := checkOpen(t, "an empty disk", d, nil)
	j.Append("one")
	d.Write("wait")
	long, full := row(most+1, 1), row(most, 1)
	for _, l := range [][]string{
		{long}, {long, "x"}, {"x", long}, {"x", long, "y"}, {full, long}, {long, full}, {full, full, full, long}, {long, long}, {row(mostDisk, 1)},
		append(slices.Repeat([]string{full}, 100), long),
	} {
		checkErr(t, "Reset to too long", j.Reset(l), api.ErrSize)
		checkDisk(t, "Reset to too long", d, frame("one"), 4)
		if j.Records() != 1 {
			t.Errorf("Reset to too long: Records %d, want 1", j.Records())
		}
	}
	d.Crash(0)
	checkOpen(t, "Crash behind it", d, []string{"one"})
}

// 6.1: all the frames may have as many bytes as the disk, whatever was on it; if they had more nothing changes.
func TestResetIsFull(t *testing.T) {
	for size := range 40 {
		for _, l := range [][]string{nil, {""}, {"one"}, {"one", "two"}, {"", "", ""}, {row(12, 1), ""}, {row(30, 1)}, {"", row(40, 1)}} {
			d := disk.New(size)
			j := checkOpen(t, "an empty disk", d, nil)
			var old []string
			if j.Append("old") == api.OK {
				old = []string{"old"}
			}
			if len(frames(l...)) <= size {
				checkErr(t, "Reset", j.Reset(l), api.OK)
				checkKept(t, "Reset", j, d, l)
			} else {
				checkErr(t, "Reset to too many", j.Reset(l), api.ErrFull)
				checkKept(t, "Reset to too many", j, d, old)
				checkOpen(t, "Reset to too many", d, old)
			}
		}
	}
}

// 6.1: of a Reset that is refused what waits stays; of one that is not, it goes.
func TestResetWhereSomethingWaits(t *testing.T) {
	d := holding(t, 30, frame("one"))
	j := checkOpen(t, "one record", d, []string{"one"})
	d.Write(frame("two"))
	checkErr(t, "Reset to too many", j.Reset([]string{row(23, 1)}), api.ErrFull)
	checkDisk(t, "Reset to too many", d, frame("one"), 11)
	checkErr(t, "Reset to all", j.Reset([]string{row(22, 1)}), api.OK)
	checkKept(t, "Reset to all", j, d, []string{row(22, 1)})
}

// 6.1: the greatest disk: as many frames as it has room for, one more, and far more.
func TestResetToMuch(t *testing.T) {
	d := disk.New(math.MaxInt)
	j := checkOpen(t, "the greatest disk", d, nil)
	all := slices.Repeat([]string{row(most-8, 1)}, mostDisk/most)
	checkErr(t, "Reset to all", j.Reset(all), api.OK)
	checkKept(t, "Reset to all", j, d, all)
	for _, l := range [][]string{append(all[:len(all):len(all)], ""), append([]string{""}, all...), slices.Repeat([]string{row(most, 2)}, mostDisk/most), slices.Repeat([]string{row(most, 2)}, 120000), make([]string, 1<<22)} {
		checkErr(t, "Reset to too many", j.Reset(l), api.ErrFull)
		checkKept(t, "Reset to too many", j, d, all)
	}
	checkErr(t, "Reset to the smallest ones", j.Reset(make([]string, mostDisk/8)), api.OK)
	checkOpen(t, "Reset to the smallest ones", d, make([]string, mostDisk/8))
}

// R4: the list that Reset is given is neither changed, behind its end too, nor kept; nor is what Open gives.
func TestResetKeepsNoList(t *testing.T) {
	d := disk.New(100)
	j := checkOpen(t, "an empty disk", d, nil)
	l := []string{"one", "two", "behind"}
	checkErr(t, "Reset", j.Reset(l[:2]), api.OK)
	checkTexts(t, "the list", l, []string{"one", "two", "behind"})
	l[0], l[1] = "", "x"
	checkKept(t, "the list is changed", j, d, []string{"one", "two"})
	k, found := journal.Open(d)
	clear(found)
	checkKept(t, "what was found is changed", k, d, []string{"one", "two"})
	checkOpen(t, "what was found is changed", d, []string{"one", "two"})
}

// 6.1: journals on disks of their own have nothing in common.
func TestJournalsAreTheirOwn(t *testing.T) {
	d, e := disk.New(50), disk.New(50)
	j, k := checkOpen(t, "the first one", d, nil), checkOpen(t, "the second one", e, nil)
	j.Append("one")
	k.Append("two")
	k.Append("three")
	checkKept(t, "the first one", j, d, []string{"one"})
	checkKept(t, "the second one", k, e, []string{"two", "three"})
}

// 6.2, T2: the power goes while a record is written, at each byte: it is there whole or not at all, and all the others are there.
func TestCrashWhileAppended(t *testing.T) {
	for _, last := range []string{"", "a", "three", "\x00\x00\x00\x00\x00\x00\x00\x00", frame("x"), frames("x", "y")} {
		for _, ahead := range [][]string{nil, {""}, {"one", "two"}, {frame("x")}} {
			for keep := -1; keep <= len(frame(last))+1; keep++ {
				d := disk.New(200)
				j := checkOpen(t, "an empty disk", d, nil)
				for _, s := range ahead {
					j.Append(s)
				}
				d.Write(frame(last))
				d.Crash(keep)
				want := ahead[:len(ahead):len(ahead)]
				if keep >= len(frame(last)) {
					want = append(want, last)
				}
				j = checkOpen(t, "Crash while appended", d, want)
				checkErr(t, "Append behind the crash", j.Append("new"), api.OK)
				checkOpen(t, "Append behind the crash", d, append(want, "new"))
			}
		}
	}
}

// 6.2, T2: the power goes while all is reset: either all the old records are there or all the new ones.
func TestCrashWhileReset(t *testing.T) {
	old, fresh := []string{"one", "two"}, []string{"x", "", "three"}
	for keep := -1; keep <= len(frames(fresh...))+1; keep++ {
		d := disk.New(100)
		j := checkOpen(t, "an empty disk", d, nil)
		for _, s := range old {
			j.Append(s)
		}
		d.Replace(frames(fresh...))
		d.Crash(keep)
		want := old
		if keep >= len(frames(fresh...)) {
			want = fresh
		}
		checkOpen(t, "Crash while reset", d, want)
	}
}

// fits is whether a disk of size bytes has room for l's frames.
func fits(size int, l []string) bool { return len(frames(l...)) <= size }

// wanted is what Append of s behind l should answer, or Reset, if it is all that there is.
func wanted(size int, l []string, s ...string) api.Errno {
	for _, x := range s {
		if len(x) > most {
			return api.ErrSize
		}
	}
	if !fits(size, append(l[:len(l):len(l)], s...)) {
		return api.ErrFull
	}
	return api.OK
}

// 6.1, 6.2: long rows of calls, crashes and torn records among them, hold against a list of the records that were appended.
func TestLongRows(t *testing.T) {
	for seed := range uint32(60) {
		size := []int{0, 20, 60, 150, 400, 3 * most}[seed%6]
		d, next := disk.New(size), seed*2654435761
		draw := func(n int) int {
			next = next*1664525 + 1013904223
			return int(next>>8) % n
		}
		text := func() string { return row([]int{0, 1, draw(20), draw(90), most, most + 1}[draw(6)], next) }
		j, kept := checkOpen(t, "an empty disk", d, nil), []string(nil)
		for range 200 {
			switch s := text(); draw(8) {
			case 0:
				l := []string{s, text(), text()}[:draw(4)]
				want := wanted(size, nil, l...)
				checkErr(t, "Reset", j.Reset(l), want)
				if want == api.OK {
					kept = l
				}
			case 1:
				d.Crash(draw(99))
			case 2:
				if len(s) <= most && d.Write(frame(s)) == api.OK {
					keep := draw(len(frame(s)) + 2)
					d.Crash(keep)
					if keep >= len(frame(s)) {
						kept = append(kept, s)
					}
				}
				j = checkOpen(t, "a torn record", d, kept)
			case 3:
				j = checkOpen(t, "all anew", d, kept)
			default:
				want := wanted(size, kept, s)
				checkErr(t, "Append", j.Append(s), want)
				if want == api.OK {
					kept = append(kept, s)
				}
			}
			checkKept(t, "a long row", j, d, kept)
			if t.Failed() {
				t.Fatalf("seed %d, a disk of %d bytes", seed, size)
			}
		}
	}
}
