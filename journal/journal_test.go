package journal

import (
	"encoding/binary"
	"encoding/hex"
	"errors"
	"hash/crc32"
	"math"
	"slices"
	"strings"
	"testing"

	"tallyman/api"
)

// die draws numbers, the same each time.
type die uint32

func (d *die) draw(most int) int {
	*d = *d*1664525 + 1013904223
	return int(*d>>16) % most
}

// drawnText has so many bytes, of all values.
func drawnText(d *die, n int) string {
	b := make([]byte, n)
	for i := range b {
		b[i] = byte(d.draw(256))
	}
	return string(b)
}

// allBytes has each byte once, from 0 to 255.
func allBytes() string {
	b := make([]byte, 256)
	for i := range b {
		b[i] = byte(i)
	}
	return string(b)
}

// lines are some of several lengths: the shortest, the longest, one there twice, and such as look like frames.
func lines() []string {
	all := allBytes()
	return []string{"", "post 2000-02-29 in nail 12 at 2.50", "a", "", all[:100], all[100:], "a", strings.Repeat("\x00", 16), strings.Repeat("\xff", 200), raw(3, 0, ""), raw(10, 10, "x")}
}

// crc is the sum of a text, told by the library.
func crc(s string) uint32 {
	return crc32.ChecksumIEEE([]byte(s))
}

// le is a number as four bytes, the least first, told by the library.
func le(n uint32) string {
	return string(binary.LittleEndian.AppendUint32(nil, n))
}

// raw is a line in the form of a frame, with both sums right, of whatever length and number it claims.
func raw(size, n uint32, line string) string {
	head := le(size) + le(n)
	head += le(crc(head))
	return head + line + le(crc(head+line))
}

// framed are lines as frames, one behind another, numbered from 0 on; asked of nothing of this package.
func framed(l ...string) string {
	var s strings.Builder
	for i, line := range l {
		s.WriteString(raw(uint32(len(line)), uint32(i), line))
	}
	return s.String()
}

// ends are where the frames of lines end: the first at 0, for no frame at all.
func ends(l []string) []int {
	at := []int{0}
	for i, line := range l {
		at = append(at, at[i]+16+len(line))
	}
	return at
}

// wholly tells what Read asks of bytes, part by part, by the library.
func wholly(s string) ([]string, int) {
	var l []string
	b, taken := []byte(s), 0
	for len(l) <= 100_000 && len(b) >= 16 {
		size := uint64(binary.LittleEndian.Uint32(b))
		if size > 200 || uint64(len(b)) < 16+size {
			break
		}
		head, body := b[:8], b[:12+size]
		right := binary.LittleEndian.Uint32(b[4:]) == uint32(len(l)) &&
			binary.LittleEndian.Uint32(b[8:]) == crc32.ChecksumIEEE(head) &&
			binary.LittleEndian.Uint32(b[12+size:]) == crc32.ChecksumIEEE(body)
		if !right {
			break
		}
		l = append(l, string(body[12:]))
		taken += int(16 + size)
		b = b[16+size:]
	}
	return l, taken
}

// wantSum fails, unless a text has just this sum.
func wantSum(t *testing.T, s string, want uint32) {
	t.Helper()
	if got := Sum(s); got != want {
		t.Errorf("Sum of %.300q: %08x, not %08x", s, got, want)
	}
}

// wantFrame fails, unless a line is framed as just these bytes.
func wantFrame(t *testing.T, n int, line, want string) {
	t.Helper()
	if got, err := Frame(n, line); err != nil || got != want {
		t.Errorf("Frame of %d, %q: %x, %v, not %x", n, line, got, err, want)
	}
}

// wantRefused fails, unless a line is refused by just this error, and nothing else is told.
func wantRefused(t *testing.T, n int, line string, want api.Errno) {
	t.Helper()
	got, err := Frame(n, line)
	var at *api.At
	if api.Tell(err) != want || errors.As(err, &at) {
		t.Errorf("Frame of %d, and a line of %d: %v, not %v", n, len(line), err, want)
	}
	if got != "" {
		t.Errorf("Frame of %d, and a line of %d: %q beside an error", n, len(line), got)
	}
}

// wantRead fails, unless bytes tell just these lines, which take just so many bytes.
func wantRead(t *testing.T, s string, taken int, want ...string) {
	t.Helper()
	got, n := Read(s)
	if n != taken || !slices.Equal(got, want) {
		t.Errorf("Read of %.300x: %d lines, %.300q, of %d bytes, not %d, %.300q, of %d", s, len(got), got, n, len(want), want, taken)
	}
}

// wantAsWholly fails, unless bytes tell what their parts say.
func wantAsWholly(t *testing.T, s string) {
	t.Helper()
	l, taken := wholly(s)
	wantRead(t, s, taken, l...)
}

// 9.1: Sum

func TestSum(t *testing.T) {
	for s, want := range map[string]uint32{
		"123456789": 0xcbf43926,
		"":          0,
		"a":         0xe8b7be43,
		"abc":       0x352441c2,
		"\n":        0x32d70693,
		"\x00":      0xd202ef8d,
		"\x80":      0x3fba6cad,
		"\xff":      0xff000000,
		"The quick brown fox jumps over the lazy dog": 0x414fa339,
		"\x00\x00\x00\x00":       0x2144df1c,
		"\xff\xff\xff\xff":       0xffffffff,
		strings.Repeat("x", 200): 0x7ecb6ba6,
		allBytes():               0x29058c73,
	} {
		wantSum(t, s, want)
	}
}

// TestSumOfAllBytes: each byte alone, ahead of others, and behind them; and two of them.
func TestSumOfAllBytes(t *testing.T) {
	all := allBytes()
	for i := range all {
		b := all[i : i+1]
		for _, s := range []string{b, b + "12345678", "12345678" + b, all[:i], all[i:]} {
			wantSum(t, s, crc(s))
		}
		for j := range all {
			wantSum(t, b+all[j:j+1], crc(b+all[j:j+1]))
		}
	}
}

// TestSumOfAllLengths: of noughts too, which are not lost.
func TestSumOfAllLengths(t *testing.T) {
	d := die(1)
	for n := range 600 {
		for _, s := range []string{drawnText(&d, n), strings.Repeat("\x00", n), strings.Repeat("\xff", n)} {
			wantSum(t, s, crc(s))
		}
	}
	long := drawnText(&d, 1_000_000)
	wantSum(t, long, crc(long))
}

// 9.1: Frame

// TestFrame: the bytes, written out.
func TestFrame(t *testing.T) {
	for _, c := range []struct {
		n          int
		line, want string
	}{
		{0, "", "00000000 00000000 69df2265  1cdf4421"},
		{1, "a", "01000000 01000000 92b83411 61 d3a697fc"},
		{0, "void 1", "06000000 00000000 eed64da3 766f69642031 db9939e8"},
		{66051, "\x00\xff\n", "03000000 03020100 4b9287e3 00ff0a 12cb9dee"},
		{100000, "", "00000000 a0860100 1f90ead4  1cdf4421"},
		{100000, allBytes()[56:], "c8000000 a0860100 9dcca97d " + hex.EncodeToString([]byte(allBytes()[56:])) + " b1dfb1a4"},
	} {
		want, err := hex.DecodeString(strings.ReplaceAll(c.want, " ", ""))
		if err != nil {
			t.Fatal(err)
		}
		wantFrame(t, c.n, c.line, string(want))
	}
}

// TestFrameOfAllLengths: lines from none to 200 bytes, beyond which there are none.
func TestFrameOfAllLengths(t *testing.T) {
	d := die(2)
	for size := range 400 {
		line := drawnText(&d, size)
		for _, n := range []int{0, 1, 255, 256, 65535, 65536, 99999, 100000} {
			if size > 200 {
				wantRefused(t, n, line, api.ErrLimit)
			} else {
				wantFrame(t, n, line, raw(uint32(size), uint32(n), line))
			}
		}
	}
	wantRefused(t, 0, strings.Repeat("x", 1_000_000), api.ErrLimit)
}

// TestFrameOfAllNumbers: and of none below and above.
func TestFrameOfAllNumbers(t *testing.T) {
	for n := range 100_001 {
		wantFrame(t, n, "ab", raw(2, uint32(n), "ab"))
	}
}

// wrong are numbers of no frame, some of which would be one's if they were cut to fewer bits.
var wrong = []int{-1, -2, -100_000, 100_001, 100_002, 1 << 17, 1 << 31, 1 << 32, 1<<32 + 1, 1<<32 + 100_000, -1 << 32, math.MaxInt, math.MinInt}

func TestFrameOfWrongNumbers(t *testing.T) {
	for _, n := range wrong {
		for _, size := range []int{0, 1, 199, 200} {
			wantRefused(t, n, strings.Repeat("x", size), api.ErrArg)
		}
	}
}

// TestFrameOfBothWrong: that the line is too long is told first.
func TestFrameOfBothWrong(t *testing.T) {
	for _, n := range wrong {
		wantRefused(t, n, strings.Repeat("x", 201), api.ErrLimit)
		wantRefused(t, n, strings.Repeat("x", 100_000), api.ErrLimit)
	}
}

// TestFrameOfAnyBytes: a line may have any bytes, line feeds and such as are no letters, too.
func TestFrameOfAnyBytes(t *testing.T) {
	all := allBytes()
	for i := range all {
		wantFrame(t, i, all[i:i+1], raw(1, uint32(i), all[i:i+1]))
	}
	for _, line := range []string{"\n", "a\nb", "\xc3\x28", "é", "\u2028", all[:200], framed("a", "b")} {
		wantFrame(t, 7, line, raw(uint32(len(line)), 7, line))
	}
}

// 9.1: Read

func TestReadOfNone(t *testing.T) {
	wantRead(t, "", 0)
}

func TestRead(t *testing.T) {
	wantRead(t, framed(""), 16, "")
	wantRead(t, framed("a"), 17, "a")
	wantRead(t, framed("", "", ""), 48, "", "", "")
	wantRead(t, framed("post x", "", "void 1"), 60, "post x", "", "void 1")
	all := lines()
	for i := range len(all) + 1 {
		s := framed(all[:i]...)
		wantRead(t, s, len(s), all[:i]...)
	}
}

// TestWhatIsFramedIsRead: lines of all lengths, through both Frame and Read.
func TestWhatIsFramedIsRead(t *testing.T) {
	d := die(5)
	var want []string
	var s strings.Builder
	for n := range 201 {
		line := drawnText(&d, n)
		frame, err := Frame(n, line)
		if err != nil {
			t.Fatal(err)
		}
		s.WriteString(frame)
		want = append(want, line)
		wantRead(t, s.String(), s.Len(), want...)
	}
}

// TestReadOfTorn: bytes that are cut off at each place tell those frames that are there wholly.
func TestReadOfTorn(t *testing.T) {
	all := lines()
	s, at := framed(all...), ends(all)
	whole := 0
	for i := range len(s) + 1 {
		if whole < len(all) && at[whole+1] == i {
			whole++
		}
		wantRead(t, s[:i], at[whole], all[:whole]...)
	}
	if whole != len(all) {
		t.Errorf("%d lines of %d", whole, len(all))
	}
}

// TestReadOfSpoilt: each byte of some frames another one: those ahead of it are told, and no more.
func TestReadOfSpoilt(t *testing.T) {
	all := []string{"", "post x", "", allBytes()[30:60], "b"}
	s, at := framed(all...), ends(all)
	for whole := range all {
		for i := at[whole]; i < at[whole+1]; i++ {
			for change := 1; change < 256; change++ {
				b := []byte(s)
				b[i] ^= byte(change)
				wantRead(t, string(b), at[whole], all[:whole]...)
			}
		}
	}
}

// TestReadOfSpoiltLong: likewise within a line of 200 bytes, bit by bit.
func TestReadOfSpoiltLong(t *testing.T) {
	all := []string{"a", allBytes()[:200], "b"}
	s := framed(all...)
	for i := 17; i < 17+216; i++ {
		for bit := range 8 {
			b := []byte(s)
			b[i] ^= 1 << bit
			wantRead(t, string(b), 17, "a")
		}
	}
}

// TestReadOfShifted: at each place a byte is left out, is there twice, or another one is put.
func TestReadOfShifted(t *testing.T) {
	all := []string{"", "ab", "", "\x00\x00", "void 12"}
	s, at := framed(all...), ends(all)
	for i := range s {
		wantAsWholly(t, s[i:])
		wantAsWholly(t, s[:i]+s[i+1:])
		wantAsWholly(t, s[:i]+s[i:i+1]+s[i:])
		for _, c := range []string{"\x00", "\x01", "x", "\xff"} {
			wantAsWholly(t, s[:i]+c+s[i:])
		}
		if i > 0 {
			// No frame begins within another one.
			wantRead(t, s[i:], 0)
		}
	}
	wantRead(t, "\x00"+s, 0)
	wantRead(t, s[:at[2]]+"\x01"+s[at[2]:], at[2], all[:2]...)
}

// TestReadOfOtherNumbers: a frame is told only where its number is due.
func TestReadOfOtherNumbers(t *testing.T) {
	for _, n := range []uint32{1, 2, 255, 256, 1 << 16, 1 << 24, 100_000, 100_001, 1 << 31, math.MaxUint32} {
		wantRead(t, raw(0, n, ""), 0)
		wantRead(t, raw(1, n, "a"), 0)
		wantRead(t, raw(1, n, "a")+framed("b"), 0)
		if n != 1 {
			wantRead(t, framed("a")+raw(1, n, "b"), 17, "a")
		}
		if n != 2 {
			wantRead(t, framed("a", "")+raw(1, n, "b")+raw(1, 3, "c"), 33, "a", "")
		}
	}
	wantRead(t, framed("a")+raw(1, 0, "b"), 17, "a")
	wantRead(t, framed("a", "b", "c")+raw(1, 2, "d"), 51, "a", "b", "c")
}

// TestReadOfFramesMoved: each frame is there twice, or left out, or has changed places with the next one.
func TestReadOfFramesMoved(t *testing.T) {
	all := lines()
	s, at := framed(all...), ends(all)
	for i := range all {
		wantRead(t, s[:at[i+1]]+s[at[i]:], at[i+1], all[:i+1]...)
		wantRead(t, s[:at[i]]+s[at[i+1]:], at[i], all[:i]...)
		if i+2 < len(at) {
			wantRead(t, s[:at[i]]+s[at[i+1]:at[i+2]]+s[at[i]:at[i+1]]+s[at[i+2]:], at[i], all[:i]...)
		}
	}
	wantRead(t, s+s, len(s), all...)
}

// TestReadOfWrongLengths: whatever length is told, and sums that are right beside it.
func TestReadOfWrongLengths(t *testing.T) {
	for _, size := range []int{201, 202, 255, 256, 1000, 65536, 1 << 17} {
		line := strings.Repeat("x", size)
		wantRead(t, raw(uint32(size), 0, line), 0)
		wantRead(t, framed("a", "b")+raw(uint32(size), 2, line)+raw(1, 3, "c"), 34, "a", "b")
	}
	for _, size := range []uint32{0, 2, 3, 17, 200, 201, 256 + 1, 1<<16 + 1, 1<<24 + 1, 1 << 31, 1<<31 + 1, math.MaxUint32 - 15, math.MaxUint32 - 11, math.MaxUint32} {
		s := raw(size, 0, "a")
		wantRead(t, s, 0)
		wantRead(t, s+strings.Repeat("\x00", 1000), 0)
		wantRead(t, framed("", "b")+raw(size, 2, "a")+framed("c"), 33, "", "b")
	}
	wantRead(t, framed(strings.Repeat("x", 200)), 216, strings.Repeat("x", 200))
}

// TestReadOfOtherForms: of other orders, and other sums.
func TestReadOfOtherForms(t *testing.T) {
	be := func(n uint32) string { return string(binary.BigEndian.AppendUint32(nil, n)) }
	head := le(2) + le(0)
	good := head + le(crc(head)) + "ab"
	for _, s := range []string{
		be(2) + be(0) + be(crc(be(2)+be(0))) + "ab",
		head + be(crc(head)) + "ab",
		head + le(^crc(head)) + "ab",
		head + le(0) + "ab",
		head + le(crc(le(2))) + "ab",
		le(0) + le(2) + le(crc(le(0)+le(2))) + "ab",
	} {
		wantRead(t, s+le(crc(s)), 0)
		wantRead(t, s+be(crc(s)), 0)
	}
	for _, s := range []string{good + be(crc(good)), good + le(^crc(good)), good + le(crc("ab")), good + le(crc(head+"ab")), good + le(0), good, head + "ab" + le(crc(head+"ab"))} {
		wantRead(t, s, 0)
		wantRead(t, s+strings.Repeat("\x00", 300), 0)
	}
	wantRead(t, good+le(crc(good)), 18, "ab")
}

// TestReadOfMoreBehind: whatever stands behind the last frame that is there wholly.
func TestReadOfMoreBehind(t *testing.T) {
	d := die(9)
	all := lines()
	s := framed(all...)
	behind := []string{"\n", "\x00", "\xff", strings.Repeat("\x00", 16), strings.Repeat("\x00", 10_000), strings.Repeat("\xff", 10_000), "post 2000-02-29 in nail 12 at 2.50\n", allBytes(), framed("a"), framed(all...), raw(1, uint32(len(all))+1, "a")}
	for n := range 40 {
		behind = append(behind, drawnText(&d, n))
	}
	for _, more := range behind {
		wantRead(t, s+more, len(s), all...)
	}
}

// TestReadOfNoFrames: bytes that are none at all.
func TestReadOfNoFrames(t *testing.T) {
	all := allBytes()
	for i := range all {
		b := all[i : i+1]
		for _, n := range []int{1, 2, 3, 4, 7, 8, 11, 12, 13, 15, 16, 17, 32, 300, 70_000} {
			wantRead(t, strings.Repeat(b, n), 0)
		}
	}
	for _, s := range []string{"post 2000-02-29 in nail 12 at 2.50", "123456789", all, strings.Repeat("post x\n", 1000)} {
		wantRead(t, s, 0)
	}
}

// TestReadOfDrawnBytes: short ones, with lengths that fit now and then.
func TestReadOfDrawnBytes(t *testing.T) {
	d := die(12)
	for range 50_000 {
		b := []byte(drawnText(&d, d.draw(50)))
		for i := range min(len(b), 8) {
			if d.draw(4) > 0 {
				b[i] = 0
			}
		}
		wantAsWholly(t, string(b))
	}
}

// TestReadOfDrawnFrames: some numbers are others, some bytes are spoilt, and some are torn off.
func TestReadOfDrawnFrames(t *testing.T) {
	d := die(13)
	told := map[int]int{}
	for range 20_000 {
		var s strings.Builder
		for i := range d.draw(6) {
			line := drawnText(&d, d.draw(20))
			s.WriteString(raw(uint32(len(line)+d.draw(30)/29), uint32(i+d.draw(30)/29), line))
		}
		b := []byte(s.String())
		if len(b) > 0 && d.draw(3) == 0 {
			b[d.draw(len(b))] = byte(d.draw(256))
		}
		if len(b) > 0 && d.draw(3) == 0 {
			b = b[:d.draw(len(b))]
		}
		l, _ := wholly(string(b))
		told[len(l)]++
		wantAsWholly(t, string(b))
	}
	for n := range 6 {
		if told[n] == 0 {
			t.Errorf("no drawn bytes tell %d lines", n)
		}
	}
}

// TestReadOfAllNumbers: there is a frame of 100000, and none beyond it.
func TestReadOfAllNumbers(t *testing.T) {
	want := make([]string, 100_001)
	for i := range want {
		want[i] = allBytes()[i%200 : i%200+i%3]
	}
	s := framed(want...)
	wantRead(t, s, len(s), want...)
	wantRead(t, s+raw(0, 100_001, ""), len(s), want...)
	wantRead(t, s+raw(0, 0, ""), len(s), want...)
	wantRead(t, s+raw(1, 100_001, "a")+raw(1, 100_002, "a"), len(s), want...)
	last := 16 + len(want[100_000])
	wantRead(t, s[:len(s)-1], len(s)-last, want[:100_000]...)
}

// TestReadIsABeginning: what is told takes just the bytes of its frames, and these alone tell the same.
func TestReadIsABeginning(t *testing.T) {
	d := die(21)
	for range 2_000 {
		var all []string
		for range d.draw(8) {
			all = append(all, drawnText(&d, d.draw(60)))
		}
		s := framed(all...) + drawnText(&d, d.draw(40))
		b := []byte(s[:len(s)-d.draw(len(s)+1)])
		if len(b) > 0 && d.draw(2) == 0 {
			b[d.draw(len(b))] ^= byte(1 + d.draw(255))
		}
		l, taken := Read(string(b))
		if taken > len(b) || len(l) > len(all) || !slices.Equal(l, all[:len(l)]) || string(b[:taken]) != framed(l...) {
			t.Fatalf("Read of %x: %q of %d bytes", b, l, taken)
		}
		wantRead(t, string(b[:taken]), taken, l...)
	}
}

// P4

// TestAnswersAreFresh: who writes into an answer changes no other one.
func TestAnswersAreFresh(t *testing.T) {
	all := lines()
	s := framed(all...)
	first, _ := Read(s)
	second, _ := Read(s)
	for i := range first {
		first[i] = "other"
	}
	_ = append(first[:0], "more")
	if !slices.Equal(second, all) {
		t.Errorf("two answers share memory: %q", second)
	}
	wantRead(t, s, len(s), all...)
}
