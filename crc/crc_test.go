package crc_test

import (
	"hash/crc32"
	"strings"
	"testing"
	"unsafe"

	"tithebarn/api"
	"tithebarn/crc"
)

const (
	most = 16384 // how many bytes a record has at most
	head = 8     // how many bytes stand ahead of a frame's text
)

var castagnoli = crc32.MakeTable(crc32.Castagnoli)

// exactSum is the library's CRC-32C.
func exactSum(s string) uint32 { return crc32.Checksum([]byte(s), castagnoli) }

// row is n bytes that look like none in particular, the same ones for the same seed.
func row(n int, seed uint32) string {
	var b strings.Builder
	for range n {
		seed = seed*1664525 + 1013904223
		b.WriteByte(byte(seed >> 24))
	}
	return b.String()
}

// number is n's four bytes, the lowest first.
func number(n uint32) string {
	return string([]byte{byte(n), byte(n >> 8), byte(n >> 16), byte(n >> 24)})
}

// frame is s as a frame, whatever its length.
func frame(s string) string { return number(uint32(len(s))) + number(exactSum(s)) + s }

// turned is s with the byte at i put to by (exclusive or).
func turned(s string, i int, by byte) string {
	b := []byte(s)
	b[i] ^= by
	return string(b)
}

// texts are of all kinds: empty, of zeros, of runes, of no runes, of a frame, at the edges of a length's bytes and of a record.
func texts() []string {
	l := []string{
		"", "a", "abc", "123456789", "\x00", "\x00\x00\x00\x00", "\xff", "\xff\xff\xff\xff", "\x80", "\xc3", "\xe2\x82\xac", "zehnt\xe2\x82\xac\xff\xfe\x00ende\n",
		frame(""), frame("abc"), frame("abc")[:10], strings.Repeat("\x00", 4096), strings.Repeat("\xff", 4096),
	}
	for i, n := range []int{1, 2, 3, 4, 7, 8, 9, 15, 16, 17, 63, 64, 65, 127, 128, 254, 255, 256, 257, 511, 512, 4095, 4096, 8191, 8192, most - 9, most - 8, most - 1, most} {
		l = append(l, row(n, uint32(i)))
	}
	return l
}

// short is s, or what it is like if it is long.
func short(s string) string {
	if len(s) > 40 {
		return s[:40] + " and so on"
	}
	return s
}

func checkSum(t *testing.T, s string, want uint32) {
	t.Helper()
	if got := crc.Sum(s); got != want {
		t.Errorf("Sum(%q), %d bytes: %#x, want %#x", short(s), len(s), got, want)
	}
}

func checkFrame(t *testing.T, s, want string) {
	t.Helper()
	if got := crc.Frame(s); got != want {
		t.Errorf("Frame(%q), %d bytes: %q, %d bytes; want %q, %d bytes", short(s), len(s), short(got), len(got), short(want), len(want))
	}
}

func checkRead(t *testing.T, s, want string, n int, e api.Errno) {
	t.Helper()
	if got, m, f := crc.Read(s); got != want || m != n || f != e {
		t.Errorf("Read(%q), %d bytes: %q, %d, error %d; want %q, %d, error %d", short(s), len(s), short(got), m, f, short(want), n, e)
	}
}

// checkFault holds all else to be zero beside an error.
func checkFault(t *testing.T, s string, e api.Errno) {
	t.Helper()
	checkRead(t, s, "", 0, e)
}

// 4.1: the chapter's own examples.
func TestExamples(t *testing.T) {
	checkSum(t, "123456789", 0xE3069283)
	checkFrame(t, "", "\x00\x00\x00\x00\x00\x00\x00\x00")
}

// 4.1: sums that are known elsewhere: zeros, ones, rising, falling, and all that one byte may be.
func TestSum(t *testing.T) {
	rising, falling := make([]byte, 32), make([]byte, 32)
	for i := range 32 {
		rising[i], falling[31-i] = byte(i), byte(i)
	}
	for _, x := range []struct {
		s    string
		want uint32
	}{
		{"", 0}, {"a", 0xC1D04330}, {"abc", 0x364B3FB7},
		{strings.Repeat("\x00", 32), 0x8A9136AA}, {strings.Repeat("\xff", 32), 0x62A8AB43}, {string(rising), 0x46DD794E}, {string(falling), 0x113FDB5C},
	} {
		checkSum(t, x.s, x.want)
	}
}

// 4.1: the chapter's way, byte by byte and bit by bit, and the library's, are the same sum.
func TestSumIsMadeAsTheChapterSays(t *testing.T) {
	for _, s := range texts() {
		sum := uint32(0xFFFFFFFF)
		for i := range len(s) {
			sum ^= uint32(s[i])
			for range 8 {
				lowest := sum % 2
				sum /= 2
				if lowest == 1 {
					sum ^= 0x82F63B78
				}
			}
		}
		checkSum(t, s, ^sum)
		checkSum(t, s, exactSum(s))
	}
}

// 4.1: Sum is exact of each byte and each pair of bytes, and of each length.
func TestSumIsExact(t *testing.T) {
	for a := range 256 {
		one := string([]byte{byte(a)})
		checkSum(t, one, exactSum(one))
		for b := range 256 {
			two := string([]byte{byte(a), byte(b)})
			checkSum(t, two, exactSum(two))
		}
	}
	long := row(600, 7)
	for n := range len(long) {
		checkSum(t, long[:n], exactSum(long[:n]))
		checkSum(t, long[n:], exactSum(long[n:]))
	}
}

// 4.1: a sum knows no greatest length: MaxRecord bounds frames alone.
func TestSumOfMoreThanARecord(t *testing.T) {
	for _, n := range []int{most + 1, 65535, 65536, 65537, 1<<20 + 3} {
		s := row(n, 99)
		checkSum(t, s, exactSum(s))
	}
}

// 4.1: a frame is the length, the sum, the text, each number's lowest byte first.
func TestFrame(t *testing.T) {
	checkFrame(t, "abc", "\x03\x00\x00\x00\xb7\x3f\x4b\x36abc")
	checkFrame(t, "123456789", "\x09\x00\x00\x00\x83\x92\x06\xe3123456789")
	for _, s := range texts() {
		checkFrame(t, s, frame(s))
	}
	for n := range 600 {
		s := row(n, uint32(n))
		checkFrame(t, s, frame(s))
	}
}

// 4.1: a frame has at most MaxRecord bytes of text; of more there is none.
func TestFrameOfARecordAtMost(t *testing.T) {
	if api.MaxRecord != most {
		t.Fatalf("MaxRecord: %d, want %d", api.MaxRecord, most)
	}
	for _, x := range []struct {
		n    int
		want string
	}{{255, "\xff\x00\x00\x00"}, {256, "\x00\x01\x00\x00"}, {257, "\x01\x01\x00\x00"}, {most - 1, "\xff\x3f\x00\x00"}, {most, "\x00\x40\x00\x00"}} {
		s := row(x.n, 3)
		checkFrame(t, s, x.want+number(exactSum(s))+s)
	}
	for _, n := range []int{most + 1, most + 2, most + 8, 2 * most, 65535, 65536, 65537, 1 << 20} {
		checkFrame(t, row(n, 3), "")
		checkFrame(t, strings.Repeat("\x00", n), "")
	}
}

// 4.2, T7: Read of Frame is the text, and the bytes of the frame alone, whatever stands behind it.
func TestReadOfFrame(t *testing.T) {
	for _, s := range texts() {
		f := crc.Frame(s)
		for _, behind := range []string{"", "x", "\x00", "\x00\x00\x00\x00\x00\x00\x00\x00", "\xff\xff\xff\xff\xff\xff\xff\xff", f, f[:len(f)-1], frame(""), frame("abc"), row(most+1, 1)} {
			checkRead(t, f+behind, s, len(s)+8, api.OK)
		}
	}
	for n := range 600 {
		s := row(n, uint32(n))
		checkRead(t, crc.Frame(s), s, n+8, api.OK)
	}
}

// 4.2: frames behind one another are read one by one.
func TestReadOfARow(t *testing.T) {
	l := texts()
	var all string
	for _, s := range l {
		all += crc.Frame(s)
	}
	for _, s := range l {
		checkRead(t, all, s, len(s)+8, api.OK)
		all = all[len(s)+8:]
	}
	checkFault(t, all, api.ErrSyntax)
}

// 4.1: less than 8 bytes are no frame, whatever they say; 8 bytes are the least.
func TestReadOfLessThanAHead(t *testing.T) {
	for n := range head {
		for _, b := range []string{"\x00", "\xff", "a", "\x40"} {
			checkFault(t, strings.Repeat(b, n), api.ErrSyntax)
		}
		for _, s := range texts() {
			checkFault(t, frame(s)[:n], api.ErrSyntax)
		}
		checkFault(t, number(most + 1)[:min(n, 4)]+strings.Repeat("0", max(n-4, 0)), api.ErrSyntax)
	}
	checkRead(t, "\x00\x00\x00\x00\x00\x00\x00\x00", "", 8, api.OK)
}

// 4.1: a length above MaxRecord is told ahead of what is missing and of what the sum is, even of a frame that would be right.
func TestReadOfTooLong(t *testing.T) {
	for _, n := range []uint32{most + 1, most + 2, most + 255, most + 256, 2 * most, 65535, 65536, 65537, 1 << 20, 1<<24 - 1, 1 << 24, 1<<24 + 3, 1<<31 - 1, 1 << 31, 1<<31 + 3, 1<<32 - 8, 1<<32 - 1} {
		for _, behind := range []string{"", "abc", row(100, n), row(most, n), row(most+1, n)} {
			checkFault(t, number(n)+"\x00\x00\x00\x00"+behind, api.ErrSize)
			checkFault(t, number(n)+number(exactSum(behind))+behind, api.ErrSize)
		}
	}
	for _, n := range []int{most + 1, most + 2, 2 * most, 65536, 1 << 20} {
		checkFault(t, frame(row(n, 5)), api.ErrSize)
	}
}

// 4.1: a frame that is not all there is told ahead of its sum; no byte of it may lack.
func TestReadOfTorn(t *testing.T) {
	for _, s := range texts() {
		f := frame(s)
		for _, lack := range []int{1, 2, 3, 7, 8, 9, 100, len(s) / 2, len(s) - 1, len(s)} {
			if 0 < lack && lack <= len(s) {
				checkFault(t, f[:len(f)-lack], api.ErrSyntax)
				checkFault(t, turned(f[:len(f)-lack], 4, 1), api.ErrSyntax)
			}
		}
	}
	long := frame(row(300, 2))
	for n := range long {
		checkFault(t, long[:n], api.ErrSyntax)
	}
	for _, x := range []struct {
		length uint32
		there  int
		want   api.Errno
	}{{most, most - 1, api.ErrSyntax}, {most, 0, api.ErrSyntax}, {most, most, api.ErrSum}, {most, most + 1, api.ErrSum}, {most + 1, most, api.ErrSize}, {1, 0, api.ErrSyntax}, {1, 1, api.ErrSum}, {0, 0, api.ErrSum}, {0, 5, api.ErrSum}} {
		checkFault(t, number(x.length)+"\x01\x02\x03\x04"+strings.Repeat("y", x.there), x.want)
	}
}

// 4.2: one byte of the text or the sum that is turned, however it is turned, is told, whatever stands behind it.
func TestReadOfTurned(t *testing.T) {
	for _, s := range []string{"", "a", "abc", "\x00\x00\x00", "\xff\xff\xff\xff\xff", row(33, 8)} {
		f := crc.Frame(s)
		for i := 4; i < len(f); i++ {
			for by := 1; by < 256; by++ {
				checkFault(t, turned(f, i, byte(by)), api.ErrSum)
			}
			checkFault(t, turned(f, i, 0x80)+frame("x"), api.ErrSum)
		}
	}
	for _, s := range texts() {
		f := crc.Frame(s)
		for i := 4; i < len(f); i += 1 + len(f)/32 {
			checkFault(t, turned(f, i, 1<<(i%8)), api.ErrSum)
		}
		checkFault(t, turned(f, len(f)-1, 0xff), api.ErrSum)
	}
}

// exactRead goes the chapter's way, in its order.
func exactRead(s string) (string, int, api.Errno) {
	if len(s) < 8 {
		return "", 0, api.ErrSyntax
	}
	length := int64(s[0]) + 256*int64(s[1]) + 65536*int64(s[2]) + 16777216*int64(s[3])
	if length > most {
		return "", 0, api.ErrSize
	}
	if int64(len(s)-8) < length {
		return "", 0, api.ErrSyntax
	}
	text := s[8 : 8+length]
	if s[4:8] != number(exactSum(text)) {
		return "", 0, api.ErrSum
	}
	return text, len(text) + 8, api.OK
}

// 4.1: a length of which one byte is turned is told as the chapter's order has it.
func TestReadOfTurnedLength(t *testing.T) {
	for _, s := range texts() {
		for _, f := range []string{frame(s), frame(s) + frame("abc"), frame(s) + row(most, 6)} {
			for i := range 4 {
				for _, by := range []byte{1, 2, 3, 8, 0x3f, 0x40, 0x41, 0x80, 0xff} {
					g := turned(f, i, by)
					want, n, e := exactRead(g)
					checkRead(t, g, want, n, e)
				}
			}
		}
	}
}

// 4.1, T7: what is read of any bytes is what a frame of it would be, and nothing else.
func TestReadOfAnyBytes(t *testing.T) {
	for i := range 4000 {
		s := row(i%40, uint32(i)*2654435761)
		if i%3 > 0 && len(s) > 4 { // a length that may be there
			s = number(uint32(i%31)) + s[4:]
		}
		want, n, e := exactRead(s)
		checkRead(t, s, want, n, e)
		if text, m, f := crc.Read(s); f == api.OK && crc.Frame(text) != s[:m] {
			t.Errorf("Read(%q): %q, which has another frame", s, text)
		}
	}
}

// R4: a text that is read shares no memory with the bytes it was read of, nor a frame with its text.
func TestNewMemory(t *testing.T) {
	for _, s := range []string{"a", "abc", row(100, 4), row(most, 4)} {
		f := crc.Frame(s)
		if unsafe.StringData(f[head:]) == unsafe.StringData(s) {
			t.Errorf("Frame(%q) shares its memory with the text", short(s))
		}
		if text, _, _ := crc.Read(f); unsafe.StringData(text) == unsafe.StringData(f[head:]) {
			t.Errorf("Read of the frame of %q shares its memory with the frame", short(s))
		}
	}
}
