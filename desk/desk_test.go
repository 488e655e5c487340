package desk

import (
	"errors"
	"fmt"
	"hash/crc32"
	"maps"
	"math"
	"regexp"
	"slices"
	"strconv"
	"strings"
	"testing"

	"tallyman/api"
	"tallyman/day"
	"tallyman/event"
	"tallyman/house"
	"tallyman/ledger"
	"tallyman/money"
	"tallyman/report"
)

// helpText is what help is to tell, asked of nothing of the program.
const helpText = "at change close closed correct day events help history moves months open post sum tear trial turn void"

// form and span are what is told of a line of another form, and of one beyond what there is.
const (
	form = "error 3"
	span = "error 2"
)

// die draws numbers, the same each time.
type die uint32

func (d *die) draw(most int) int {
	*d = *d*1664525 + 1013904223
	return int(*d>>16) % most
}

// one is one of some texts.
func (d *die) one(l ...string) string {
	return l[d.draw(len(l))]
}

// drawnText has so many bytes, of all values.
func drawnText(d *die, n int) string {
	b := make([]byte, n)
	for i := range b {
		b[i] = byte(d.draw(256))
	}
	return string(b)
}

// qa is a line, and what it is to be answered.
type qa struct{ line, want string }

// asks fails, unless each line of one session is answered so.
func asks(t *testing.T, l []qa) {
	t.Helper()
	text, want := "", ""
	for _, x := range l {
		text += x.line + "\n"
		want += x.want + "\n"
	}
	got := Session(text)
	if got == want {
		return
	}
	told := strings.Split(got, "\n")
	for i, x := range l {
		if i >= len(told) || told[i] != x.want {
			t.Fatalf("line %d, %.300q: %.600q, not %.600q", i, x.line, told[min(i, len(told)-1)], x.want)
		}
	}
	t.Fatalf("%d lines: %.600q", len(l), got)
}

// tells fails, unless a text is answered so.
func tells(t *testing.T, text, want string) {
	t.Helper()
	if got := Session(text); got != want {
		t.Errorf("Session of %.300q: %.600q, not %.600q", text, got, want)
	}
}

// setUp are lines of a house in which there is something to tell, and what they are answered.
func setUp() []qa {
	return []qa{
		{"post 1900-01-05 in nail 12 at 2.50", "posted 1"},
		{"post 1900-01-06 charge nail 0.75 for 1", "posted 2"},
		{"post 1900-02-09 out nail 3", "posted 3"},
		{"correct 1 1900-01-05 in nail 10 at 2.50", "corrected"},
		{"close 1900-01", "closed 1"},
		{"post 1900-01-31 count nail 9", "posted 4 late"},
		{"void 3", "voided"},
		{"close 1900-04", "closed 1"},
		{"post 1900-04-01 in screw 1 at 0.00", "posted 5 late"},
		{"post 1900-06-02 out screw 4", "posted 6"},
		{"post 1900-06-03 charge screw 0.07 for 5", "posted 7"},
		{"post 1900-06-30 count nail 11", "posted 8"},
	}
}

// report1 are lines that tell of the house of setUp, and what they are answered.
func report1() []qa {
	return []qa{
		{"at 1900-01-04 -1", "at"},
		{"at 1900-01-05 3", "at nail:12=30.00"},
		{"at 1900-02-08 3", "at nail:12=30.75"},
		{"at 1900-02-09 3", "at nail:9=23.07"},
		{"at 1900-02-09 -1", "at nail:9=23.18"},
		{"at 1900-04-01 10", "at nail:9=23.18 screw:1=0.00"},
		{"at 1900-06-30 10", "at nail:11=28.18"},
		{"at 1900-06-30 0", "at"},
		{"change 1900-02-09 3 6", "change nail:0=0.11"},
		{"change 1900-06-30 10 3", "change nail:-2=-5.11"},
		{"change 1900-04-01 4 7", "change nail:2=5.15 screw:1=0.00"},
		{"change 1900-06-30 10 10", "change"},
		{"events 0", "events"},
		{"events 1", "events | 1 1900-01-05 in nail 12 at 2.50"},
		{"events 3", "events | 1 1900-01-05 in nail 12 at 2.50 | 2 1900-01-06 charge nail 0.75 for 1 | 3 1900-02-09 out nail 3"},
		{"events 6", "events | 1 1900-01-05 in nail 10 at 2.50 | 2 1900-01-06 charge nail 0.75 for 1 | 4 1900-01-31 count nail 9"},
		{"history 1", "history 1-4 4-0"},
		{"history 2", "history 2-0"},
		{"history 3", "history 3-6"},
		{"history 9", "history"},
		{"moves nail", "moves 1:25.00:0:0.00:10=25.00 2:0.75:0:0.00:10=25.75 4:2.57:0:0.00:9=23.18 8:5.00:0:0.00:11=28.18"},
		{"moves screw", "moves 5:0.00:0:0.00:1=0.00 6:0.00:3:0.00:0=0.00 7:0.00:0:0.07:0=0.00"},
		{"moves bolt", "moves"},
		{"open", "open 0.00 0.00 0.00 5.00 0.07"},
		{"closed", "closed | 0 4 25.75 0.00 0.00 0.00 0.00 | 3 6 0.00 0.00 2.57 0.00 0.00"},
		{"months", "months 25.75 stock from supply|2.57 loss from stock|5.00 stock from gain|0.07 late from supply|"},
		{"trial", "trial gain=-5.00 late=0.07 loss=2.57 stock=28.18 supply=-25.82"},
		{"turn", "turn 10"},
		{"day 2000-02-29", "day 36583 1201"},
		{"sum 123456789", "sum 3421780262"},
		{"help", helpText},
	}
}

// 11.1: each line of the table

func TestFilled(t *testing.T) {
	asks(t, slices.Concat(setUp(), report1(), report1()))
}

// TestEmptyHouse: each line, when there is nothing to tell.
func TestEmptyHouse(t *testing.T) {
	for _, x := range []qa{
		{"post 1900-01-05 in nail 12 at 2.50", "posted 1"},
		{"correct 1 1900-01-05 in nail 12 at 2.50", "error 7"},
		{"void 1", "error 7"},
		{"close 1900-01", "closed 0"},
		{"at 1900-01-05 0", "at"},
		{"at 1900-01-05 -1", "at"},
		{"at 1900-01-05 1", "at"},
		{"change 1900-01-05 0 1", "change"},
		{"events 0", "events"},
		{"events -1", "events"},
		{"history 0", "history"},
		{"history 1", "history"},
		{"moves nail", "moves"},
		{"open", "open 0.00 0.00 0.00 0.00 0.00"},
		{"closed", "closed"},
		{"months", "months "},
		{"trial", "trial"},
		{"turn", "turn 0"},
		{"day 1900-01-01", "day 0 0"},
		{"sum", "sum 0"},
		{"tear 0", "tear 0 0"},
		{"tear 1", span},
		{"help", helpText},
	} {
		tells(t, x.line, x.want+"\n")
		tells(t, x.line+"\n", x.want+"\n")
	}
}

// TestHelpNamesAll: the words of help are those of which lines there are, and no others.
func TestHelpNamesAll(t *testing.T) {
	want := slices.Sorted(slices.Values(strings.Fields(helpText)))
	if got := slices.Sorted(maps.Keys((&clerk{}).deeds())); !slices.Equal(got, want) {
		t.Errorf("lines of %q, not of %q", got, want)
	}
}

// TestEveryErrorOfDo: what the house refuses is told by its number.
func TestEveryErrorOfDo(t *testing.T) {
	var l []qa
	for id := 1; id <= api.MaxLive; id++ {
		l = append(l, qa{"post 1900-01-05 out a 1", fmt.Sprint("posted ", id)})
	}
	l = append(l,
		qa{"post 1900-01-05 out a 1", "error 12"},
		qa{"correct 1 1900-01-05 out a 1", "error 12"},
		qa{"correct 121 1900-01-05 out a 1", "error 7"},
		qa{"correct 121 1900-01-05 out a 0", form},
		qa{"post 1900-01-05 out a 0", form},
		qa{"void 0", "error 7"},
		qa{"void -1", "error 7"},
		qa{"void 120", "voided"},
		qa{"void 120", "error 7"},
		qa{"turn", "turn 121"},
	)
	for month := range 60 {
		l = append(l, qa{fmt.Sprintf("close %04d-%02d", 1900+month/12, month%12+1), "closed 0"})
	}
	l = append(l,
		qa{"close 1904-12", "error 10"},
		qa{"close 1900-01", "error 10"},
		qa{"close 1905-01", "error 12"},
		qa{"close 1905-13", form},
		qa{"close 2173-11", form},
	)
	asks(t, l)
}

// TestBelowNought: figures that are taken back, on the other side.
func TestBelowNought(t *testing.T) {
	asks(t, []qa{
		{"post 1900-01-05 in a 4 at 1.00", "posted 1"},
		{"post 1900-01-05 out a 1", "posted 2"},
		{"post 1900-01-06 count a 2", "posted 3"},
		{"post 1900-01-07 count a 3", "posted 4"},
		{"post 1900-01-08 charge a 0.50 for 9", "posted 5"},
		{"close 1900-01", "closed 5"},
		{"open", "open 0.00 0.00 0.00 0.00 0.00"},
		{"months", "months 4.00 stock from supply|1.00 sold from stock|1.00 loss from stock|1.00 stock from gain|0.50 late from supply|"},
		{"void 1", "voided"},
		{"void 2", "voided"},
		{"void 3", "voided"},
		{"void 4", "voided"},
		{"void 5", "voided"},
		{"open", "open -4.00 -1.00 -1.00 -1.00 -0.50"},
		{"months", "months 4.00 stock from supply|1.00 sold from stock|1.00 loss from stock|1.00 stock from gain|0.50 late from supply|" +
			"4.00 supply from stock|1.00 stock from sold|1.00 stock from loss|1.00 gain from stock|0.50 supply from late|"},
		{"trial", "trial gain=0.00 late=0.00 loss=0.00 sold=0.00 stock=0.00 supply=0.00"},
		{"close 1900-03", "closed 5"},
		{"closed", "closed | 0 5 4.00 1.00 1.00 1.00 0.50 | 2 10 -4.00 -1.00 -1.00 -1.00 -0.50"},
		{"open", "open 0.00 0.00 0.00 0.00 0.00"},
	})
}

// TestGreatest: the greatest amounts, days and numbers there are.
func TestGreatest(t *testing.T) {
	asks(t, []qa{
		{"post 2173-10-15 in abcdefghij 100000 at 10000.00", "posted 1"},
		{"post 2173-10-15 charge abcdefghij 1000000000.00 for 1", "posted 2"},
		{"post 2173-10-15 charge z 0.01 for 9223372036854775807", "posted 3"},
		{"post 1900-01-01 out z9 100000", "posted 4"},
		{"at 2173-10-15 -1", "at abcdefghij:100000=2000000000.00"},
		{"at 2173-10-14 -1", "at"},
		{"moves abcdefghij", "moves 1:1000000000.00:0:0.00:100000=1000000000.00 2:1000000000.00:0:0.00:100000=2000000000.00"},
		{"moves z9", "moves 4:0.00:100000:0.00:0=0.00"},
		{"events -1", "events | 4 1900-01-01 out z9 100000 | 1 2173-10-15 in abcdefghij 100000 at 10000.00 | 2 2173-10-15 charge abcdefghij 1000000000.00 for 1 | 3 2173-10-15 charge z 0.01 for 9223372036854775807"},
		{"close 2173-10", "closed 2"},
		{"closed", "closed | 3285 4 2000000000.00 0.00 0.00 0.00 0.01"},
		{"day 2173-10-15", "day 99999 3285"},
	})
}

// 11.1: how a text is cut

func TestLines(t *testing.T) {
	for _, x := range []struct{ text, want string }{
		{"", "ok\n"},
		{"\n", "ok\n"},
		{"\n\n", "ok\nok\n"},
		{"\n\n\n", "ok\nok\nok\n"},
		{"turn", "turn 0\n"},
		{"turn\n", "turn 0\n"},
		{"turn\n\n", "turn 0\nok\n"},
		{"turn\n\n\n", "turn 0\nok\nok\n"},
		{"\nturn", "ok\nturn 0\n"},
		{"\n\nturn\n", "ok\nok\nturn 0\n"},
		{"turn\nturn", "turn 0\nturn 0\n"},
		{"turn\n\nturn\n", "turn 0\nok\nturn 0\n"},
		{"x\nturn", "error 3\nturn 0\n"},
		{"turn\nx", "turn 0\nerror 3\n"},
		{" ", "ok\n"},
		{" \n", "ok\n"},
		{"\n ", "ok\nok\n"},
		{"   \n \n", "ok\nok\n"},
		{"post 1900-01-01\nin a 1 at 1.00", "error 3\nerror 3\n"},
		{"turn\r\n", "error 3\n"},
		{"\r\n", "error 3\n"},
		{"\r", "error 3\n"},
		{"\x00", "error 3\n"},
		{"turn\x00", "error 3\n"},
		{"turn\vturn", "error 3\n"},
		{"turn\u2028turn", "error 3\n"},
		{"turn\u0085turn", "error 3\n"},
	} {
		tells(t, x.text, x.want)
	}
}

// TestMostText: as many bytes as there may be, and one more, whatever they are.
func TestMostText(t *testing.T) {
	for _, x := range []struct{ part, told string }{
		{"\n", "ok\n"},
		{"x\n", "error 3\n"},
		{"turn\n", "turn 0\n"},
		{"close 1900-13 \n", "error 3\n"},
	} {
		n := api.MaxText / len(x.part)
		whole := strings.Repeat(x.part, n) + strings.Repeat(" ", api.MaxText%len(x.part))
		want := strings.Repeat(x.told, n) + strings.Repeat("ok\n", min(1, api.MaxText%len(x.part)))
		if len(whole) != 20_000 {
			t.Fatal(len(whole))
		}
		tells(t, whole, want)
		for _, more := range []string{"\n", " ", "x", "\x00", "\xff"} {
			tells(t, whole+more, "error 4\n")
			tells(t, more+whole, "error 4\n")
		}
	}
	tells(t, strings.Repeat(" ", 20_000), "ok\n")
	tells(t, strings.Repeat(" ", 20_001), "error 4\n")
	// The line feed at the end is counted, though it is left out.
	tells(t, strings.Repeat(" ", 19_999)+"\n", "ok\n")
	tells(t, strings.Repeat(" ", 20_000)+"\n", "error 4\n")
	tells(t, strings.Repeat(" ", 19_996)+"turn", "turn 0\n")
	tells(t, "turn"+strings.Repeat(" ", 19_996), "turn 0\n")
	tells(t, strings.Repeat("x", 20_000), "error 3\n")
	tells(t, strings.Repeat("x", 20_001), "error 4\n")
	tells(t, strings.Repeat("x", 1_000_000), "error 4\n")
	tells(t, strings.Repeat("turn\n", 200_000), "error 4\n")
	// Bytes are counted, not runes.
	tells(t, strings.Repeat("\u00fc", 10_000), "error 3\n")
	tells(t, strings.Repeat("\u00fc", 10_001), "error 4\n")
}

// TestLongSums: words that fill a text.
func TestLongSums(t *testing.T) {
	word := strings.Repeat("y", 19_996)
	tells(t, "sum "+word, fmt.Sprintln("sum", crc32.ChecksumIEEE([]byte(word))))
	words := strings.TrimSuffix(strings.Repeat("y ", 9_998), " ")
	tells(t, "sum "+words, fmt.Sprintln("sum", crc32.ChecksumIEEE([]byte(words))))
}

// TestBlanks: several, and at both ends, make no difference; of the lines that are done, neither.
func TestBlanks(t *testing.T) {
	all := slices.Concat(setUp(), report1())
	for _, form := range []struct{ ahead, between, behind string }{
		{" ", " ", ""}, {"", " ", " "}, {"", "  ", ""}, {"   ", "     ", "  "}, {"", strings.Repeat(" ", 40), strings.Repeat(" ", 40)},
	} {
		var l []qa
		for _, x := range all {
			l = append(l, qa{form.ahead + strings.ReplaceAll(x.line, " ", form.between) + form.behind, x.want})
		}
		asks(t, l)
	}
	// The journal has one blank between, however many there were.
	asks(t, []qa{
		{"  post   1900-01-05  in a   3 at 1.00  ", "posted 1"},
		{fmt.Sprint("tear ", 16+len("post 1900-01-05 in a 3 at 1.00")+1), span},
		{fmt.Sprint("tear ", 16+len("post 1900-01-05 in a 3 at 1.00")), "tear 1 46"},
	})
	// A line of a house may be longer than it takes, if blanks make it so.
	asks(t, []qa{
		{"post" + strings.Repeat(" ", 500) + "1900-01-05 in a 3 at 1.00", "posted 1"},
		{"void 1" + strings.Repeat(" ", 500), "voided"},
	})
}

// TestOtherWhite: what is white, but no blank, belongs to a word.
func TestOtherWhite(t *testing.T) {
	for _, white := range []string{"\t", "\r", "\v", "\f", "\x00", "\x1c", "\x7f", "\u0085", "\u00a0", "\u2003", "\u3000", "\ufeff", "\x85", "\xa0"} {
		for _, x := range report1() {
			for _, line := range []string{white + x.line, white + " " + x.line} {
				asks(t, []qa{{line, form}})
			}
			if strings.HasPrefix(x.line, "sum ") || strings.HasPrefix(x.line, "moves ") {
				continue
			}
			for _, line := range []string{x.line + white, x.line + " " + white, strings.Replace(x.line, " ", white, 1)} {
				if line != x.line {
					asks(t, []qa{{line, form}})
				}
			}
		}
		asks(t, []qa{
			{white, form},
			{"sum" + white, form},
			{"sum " + white, fmt.Sprint("sum ", crc32.ChecksumIEEE([]byte(white)))},
			{"sum a" + white + "b  " + white, fmt.Sprint("sum ", crc32.ChecksumIEEE([]byte("a"+white+"b "+white)))},
			{"moves " + white, "moves"},
			{"moves a" + white + "b", "moves"},
			{"post 1900-01-05 in a 3 at" + white + "1.00", form},
		})
	}
}

// TestBytes: all values of bytes, in words and as words.
func TestBytes(t *testing.T) {
	for b := range 256 {
		c := string([]byte{byte(b)})
		if c == "\n" || c == " " {
			continue
		}
		asks(t, []qa{
			{"sum " + c, fmt.Sprint("sum ", crc32.ChecksumIEEE([]byte(c)))},
			{"sum " + c + "   " + c + c, fmt.Sprint("sum ", crc32.ChecksumIEEE([]byte(c+" "+c+c)))},
			{c, form},
			{"turn" + c, form},
			{c + "turn", form},
			{"turn " + c, form},
			{"events 1" + c, map[bool]string{true: "events", false: form}[b >= '0' && b <= '9']},
			{"day 1900-01-0" + c, map[bool]string{true: fmt.Sprint("day ", b-'1', " 0"), false: form}[b >= '1' && b <= '9']},
			{"moves " + c, "moves"},
		})
	}
	// A rune of several bytes that is cut off, ahead of a blank.
	cut := "\xe2\x82"
	tells(t, "sum "+cut+" "+cut, fmt.Sprintln("sum", crc32.ChecksumIEEE([]byte(cut+" "+cut))))
	tells(t, "sum \xf0 \xf0\x9f  \xff", fmt.Sprintln("sum", crc32.ChecksumIEEE([]byte("\xf0 \xf0\x9f \xff"))))
}

// 11.1: words

// counted are lines with just as many words as are told, and what they are answered behind one event.
func counted() []qa {
	return []qa{
		{"at 1900-01-05 1", "at a:3=3.00"},
		{"change 1900-01-05 0 1", "change a:3=3.00"},
		{"events 1", "events | 1 1900-01-05 in a 3 at 1.00"},
		{"history 1", "history 1-0"},
		{"moves a", "moves 1:3.00:0:0.00:3=3.00"},
		{"open", "open 3.00 0.00 0.00 0.00 0.00"},
		{"closed", "closed"},
		{"months", "months 3.00 stock from supply|"},
		{"trial", "trial stock=3.00 supply=-3.00"},
		{"turn", "turn 1"},
		{"day 1900-01-05", "day 4 0"},
		{"tear 46", "tear 1 46"},
		{"help", helpText},
	}
}

// TestWordsCounted: one too few, one too many, several too many, none at all, at each line.
func TestWordsCounted(t *testing.T) {
	for _, x := range counted() {
		words := strings.Fields(x.line)
		l := []qa{{"post 1900-01-05 in a 3 at 1.00", "posted 1"}, x}
		for n := 1; n < len(words); n++ {
			l = append(l, qa{strings.Join(words[:n], " "), form}, qa{strings.Join(words[:n], " ") + "  ", form})
		}
		for _, more := range []string{" 0", " 1", " x", " a", " 1900-01-05", " -1", " 1 1", " " + words[0], " 1 2 3 4 5 6 7", " help", " \t"} {
			l = append(l, qa{x.line + more, form})
		}
		asks(t, append(l, x, qa{"turn", "turn 1"}))
	}
}

// TestWordsCountedFirst: where the number of words and a word are wrong, the number is told; ErrRange comes last.
func TestWordsCountedFirst(t *testing.T) {
	asks(t, []qa{
		{"tear 1", span},
		{"tear -1", span},
		{"tear 1 1", form},
		{"tear -1 1", form},
		{"tear 0 0", form},
		{"tear", form},
		{"tear 1 x", form},
		{"tear x", form},
		{"tear 01", form},
		{"at x y", form},
		{"at 1900-01-05 y", form},
		{"at x 1", form},
		{"at 1 1900-01-05", form},
		{"change 1900-01-05 1 x", form},
		{"change 1900-01-05 x 1", form},
		{"change x 1 1", form},
		{"change 1 1 1900-01-05", form},
		{"change x y z", form},
	})
}

// TestFirstWords: those that are none.
func TestFirstWords(t *testing.T) {
	var l []qa
	for _, word := range strings.Fields(helpText) {
		for _, other := range []string{strings.ToUpper(word), strings.ToUpper(word[:1]) + word[1:], word + "s", word + ".", "." + word, word + ":", word + word, word + "\x00", "-" + word, word[:len(word)-1] + "\xff"} {
			for _, behind := range []string{"", " 1", " 1900-01-05", " 1900-01-05 1", " 1900-01-05 1 1", " 1900-01", " 1900-01-05 in a 3 at 1.00"} {
				l = append(l, qa{other + behind, form})
			}
		}
	}
	for _, word := range []string{"ok", "error", "posted", "corrected", "voided", "quit", "journal", "restore", "do", "a", "0", "1", "-1", "1900-01-05", "in", "out", "diff", "as", "sums", "|", "..", "DAY", "N", "T"} {
		l = append(l, qa{word, form}, qa{word + " 1", form})
	}
	for i := 0; i < len(l); i += 300 {
		asks(t, l[i:min(i+300, len(l))])
	}
}

// notNumbers are words that are none.
func notNumbers() []string {
	return []string{
		"x", "-", "+", "+0", "+1", "-0", "-00", "00", "01", "-01", "001", "1.", "1.0", ".1", "1e0", "0x1", "0b1", "0o1", "1_0", "1,0", "--1", "-+1", "+-1", "1-", "-x", "1x", "x1", "'1'",
		"9223372036854775808", "-9223372036854775809", "9223372036854775817", "18446744073709551615", "18446744073709551616", "18446744073709551617", "-18446744073709551616",
		"10000000000000000000", "1" + strings.Repeat("0", 100), strings.Repeat("9", 150), strings.Repeat("0", 100), "\xd9\xa1", "\uff11", "1\t", "\t1", "inf", "nan", "1900-01-05",
	}
}

func TestNotNumbers(t *testing.T) {
	for _, n := range notNumbers() {
		asks(t, []qa{
			{"post 1900-01-05 in a 3 at 1.00", "posted 1"},
			{"at 1900-01-05 " + n, form},
			{"change 1900-01-05 " + n + " 1", form},
			{"change 1900-01-05 1 " + n, form},
			{"change 1900-01-05 " + n + " " + n, form},
			{"events " + n, form},
			{"history " + n, form},
			{"tear " + n, form},
			{"void " + n, form},
			{"correct " + n + " 1900-01-05 in a 4 at 1.00", form},
			{"moves " + n, "moves"},
			{"events -1", "events | 1 1900-01-05 in a 3 at 1.00"},
		})
	}
}

// TestTurns: below 0, 0, each one, the last one, beyond it, and the least and greatest numbers of 64 bits.
func TestTurns(t *testing.T) {
	l := []qa{
		{"post 1900-01-05 in a 3 at 1.00", "posted 1"},
		{"post 1900-01-06 out a 1", "posted 2"},
		{"correct 1 1900-01-05 in a 5 at 1.00", "corrected"},
	}
	at := []string{"", " a:3=3.00", " a:2=2.00", " a:4=4.00"}
	events := []string{"", " | 1 1900-01-05 in a 3 at 1.00", " | 1 1900-01-05 in a 3 at 1.00 | 2 1900-01-06 out a 1", " | 1 1900-01-05 in a 5 at 1.00 | 2 1900-01-06 out a 1"}
	fromNone := []string{"", " a:3=3.00", " a:2=2.00", " a:4=4.00"}
	toLast := []string{" a:4=4.00", " a:1=1.00", " a:2=2.00", ""}
	for _, turn := range []int{0, 1, 2, 3, 4, 5, 100, math.MaxInt, math.MaxInt32 + 1, -1, -2, -100, math.MinInt} {
		is := turn
		if turn < 0 || turn > 3 {
			is = 3
		}
		n := strconv.Itoa(turn)
		l = append(l,
			qa{"at 1900-01-06 " + n, "at" + at[is]},
			qa{"events " + n, "events" + events[is]},
			qa{"change 1900-01-06 0 " + n, "change" + fromNone[is]},
			qa{"change 1900-01-06 " + n + " 3", "change" + toLast[is]},
			qa{"change 1900-01-06 " + n + " -1", "change" + toLast[is]},
			qa{"change 1900-01-06 " + n + " " + n, "change"},
		)
	}
	asks(t, l)
}

// TestHistories: of numbers that no event has.
func TestHistories(t *testing.T) {
	l := []qa{{"post 1900-01-05 in a 3 at 1.00", "posted 1"}, {"void 1", "voided"}, {"post 1900-01-05 in a 3 at 1.00", "posted 2"}, {"history 1", "history 1-2"}, {"history 2", "history 3-0"}}
	for _, id := range []int{0, -1, -2, 3, 4, math.MaxInt, math.MinInt} {
		l = append(l, qa{fmt.Sprint("history ", id), "history"})
	}
	asks(t, l)
}

// TestDays: the first and last ones, and words that are none.
func TestDays(t *testing.T) {
	l := []qa{
		{"day 1900-01-01", "day 0 0"},
		{"day 1900-01-31", "day 30 0"},
		{"day 1900-02-01", "day 31 1"},
		{"day 1900-02-28", "day 58 1"},
		{"day 1900-03-01", "day 59 2"},
		{"day 1999-12-31", "day 36523 1199"},
		{"day 2000-02-29", "day 36583 1201"},
		{"day 2173-10-15", "day 99999 3285"},
	}
	for _, s := range []string{"1899-12-31", "2173-10-16", "2174-01-01", "2200-12-31", "1900-02-29", "2100-02-29", "1900-02-30", "1900-04-31", "1900-00-01", "1900-13-01", "1900-01-00", "1900-01-32", "1900-1-1", "1900-01-1", "900-01-01", "01900-01-01", "+1900-01-01", "-1900-01-01", "1900/01/01", "1900-01", "19000101", "1900-01-01x", "x", "0", "1", "-1", "1900-01-0\xff"} {
		l = append(l, qa{"day " + s, form}, qa{"at " + s + " 0", form}, qa{"at " + s + " x", form}, qa{"change " + s + " 0 0", form})
	}
	asks(t, l)
}

// TestItems: any word is one to ask for.
func TestItems(t *testing.T) {
	l := []qa{{"post 1900-01-05 in a 3 at 1.00", "posted 1"}, {"moves a", "moves 1:3.00:0:0.00:3=3.00"}}
	for _, word := range []string{"b", "A", "aa", "0", "-1", "a1", "moves", "\xff", "a\x00", ".", "|", strings.Repeat("a", 5_000)} {
		l = append(l, qa{"moves " + word, "moves"})
	}
	asks(t, l)
}

// TestDoWithout: lines of a house without a word behind, or with too few, or too many.
func TestDoWithout(t *testing.T) {
	l := []qa{{"post 1900-01-05 in a 3 at 1.00", "posted 1"}}
	for _, line := range []string{"post", "correct", "void", "close", "post 1", "correct 1", "correct 1900-01-05 in a 3 at 1.00", "void x", "void 1 1", "close 1", "close 1900-01 1900-02", "close 1900-01-05", "post 1900-01-05 in a 3 at 1.00 x", "post 1900-01-05 in a 3 at", "correct 1 1 1900-01-05 in a 3 at 1.00", "post post 1900-01-05 in a 3 at 1.00", "void post"} {
		l = append(l, qa{line, form}, qa{"   " + strings.ReplaceAll(line, " ", "   ") + "   ", form})
	}
	long := strings.Repeat("x", 1_000)
	l = append(l, qa{"post " + long, form}, qa{"void " + long, form}, qa{"close " + long, form}, qa{"correct 1 " + long, form}, qa{"void 1 " + long, form})
	asks(t, append(l, qa{"turn", "turn 1"}, qa{"tear 46", "tear 1 46"}))
}

// TestSums: held against the library's.
func TestSums(t *testing.T) {
	for _, words := range []string{"", "a", "a b", "b a", "ab", "sum", "sum sum", "123456789", "0", "x y z", "post 1900-01-05 in a 3 at 1.00", strings.Repeat("w ", 400) + "w", "4294967295"} {
		want := fmt.Sprintln("sum", crc32.ChecksumIEEE([]byte(words)))
		tells(t, "sum "+words, want)
		tells(t, "  sum    "+strings.ReplaceAll(words, " ", "     ")+"   ", want)
	}
}

// 11.1: tear

// journalOf are lines that are done one behind the other, and how many bytes the journal has behind each (0: ahead of all).
func journalOf() (lines []string, ends []int) {
	ends = []int{0}
	for _, x := range setUp() {
		lines = append(lines, x.line)
		ends = append(ends, ends[len(ends)-1]+16+len(x.line))
	}
	return lines, ends
}

// TestTear: at each place of a journal the house is that of the lines that are there wholly; the lines behind are done to that.
func TestTear(t *testing.T) {
	lines, ends := journalOf()
	asking := []string{"events -1", "closed", "open", "months", "trial", "turn", "moves nail", "history 1", "at 1900-06-30 -1", "change 1900-06-30 3 -1", "post 1900-01-01 in nail 1 at 0.01", "close 1900-05", "void 1", "events -1", "closed", "turn"}
	whole := 0
	for size := range ends[len(lines)] + 1 {
		if whole < len(lines) && size == ends[whole+1] {
			whole++
		}
		tear := fmt.Sprintf("tear %d\n", size)
		got := Session(strings.Join(lines, "\n") + "\n" + tear + strings.Join(asking, "\n"))
		want := Session(strings.Join(append(slices.Clone(lines[:whole]), asking...), "\n"))
		first := strings.SplitAfter(got, "\n")
		if told := fmt.Sprintf("tear %d %d\n", whole, ends[whole]); first[len(lines)] != told {
			t.Fatalf("%q: %q, not %q", tear, first[len(lines)], told)
		}
		if strings.Join(first[len(lines)+1:], "") != strings.Join(strings.SplitAfter(want, "\n")[whole:], "") {
			t.Fatalf("behind %q: %s, not %s", tear, got, want)
		}
	}
	if whole != len(lines) {
		t.Errorf("%d lines of %d", whole, len(lines))
	}
}

// TestTearBeyond: more bytes than there are, and fewer than none; nothing is changed then.
func TestTearBeyond(t *testing.T) {
	_, ends := journalOf()
	all := ends[len(ends)-1]
	l := setUp()
	for _, n := range []int{-1, -2, -all, math.MinInt, all + 1, all + 2, 2 * all, math.MaxInt, math.MaxInt32 + 1} {
		l = append(l, qa{fmt.Sprint("tear ", n), span})
	}
	l = append(slices.Concat(l, report1()), qa{fmt.Sprint("tear ", all), fmt.Sprint("tear 12 ", all)})
	asks(t, slices.Concat(l, report1()))
}

// TestTearAgain: what was torn off is gone; the journal goes on behind what is left.
func TestTearAgain(t *testing.T) {
	asks(t, []qa{
		{"post 1900-01-05 in a 3 at 1.00", "posted 1"}, // 46 bytes
		{"post 1900-01-05 in b 4 at 1.00", "posted 2"}, // 46
		{"close 1900-01", "closed 1"},                  // 29
		{"tear 120", "tear 2 92"},
		{"closed", "closed"},
		{"tear 93", span},
		{"tear 92", "tear 2 92"},
		{"tear 91", "tear 1 46"},
		{"tear 92", span},
		{"void 2", "error 7"},
		{"void 1", "voided"}, // 22
		{"tear 68", "tear 2 68"},
		{"events -1", "events"},
		{"tear 67", "tear 1 46"},
		{"events -1", "events | 1 1900-01-05 in a 3 at 1.00"},
		{"post 1900-01-31 out a 1", "posted 2"}, // 39
		{"tear 85", "tear 2 85"},
		{"at 1900-01-31 -1", "at a:2=2.00"},
		{"tear 0", "tear 0 0"},
		{"turn", "turn 0"},
		{"tear 1", span},
		{"post 1900-01-31 out a 1", "posted 1"},
		{"tear 39", "tear 1 39"},
	})
}

// TestTearMakesRoom: of a book and periods that were full.
func TestTearMakesRoom(t *testing.T) {
	line := "post 1900-01-05 out a 1"
	l := []qa{}
	for id := 1; id <= 120; id++ {
		l = append(l, qa{line, fmt.Sprint("posted ", id)})
	}
	size := 16 + len(line)
	l = append(l,
		qa{line, "error 12"},
		qa{fmt.Sprint("tear ", 120*size), fmt.Sprint("tear 120 ", 120*size)},
		qa{line, "error 12"},
		qa{fmt.Sprint("tear ", 120*size-1), fmt.Sprint("tear 119 ", 119*size)},
		qa{line, "posted 120"},
		qa{line, "error 12"},
	)
	asks(t, l)
}

// What must not happen

// lineOf is a drawn line, of which some tell an error.
func lineOf(d *die) string {
	n := func() string {
		return d.one("-1", "0", "1", "2", "3", "4", "5", "9", "40", "100", "01", "-0", "x", "9223372036854775808")
	}
	date := func() string {
		return d.one("1900-01-05", "1900-01-31", "1900-02-01", "1900-02-28", "1900-03-01", "1900-05-31", "1900-02-29", "x")
	}
	what := func() string {
		return date() + " " + d.one("in a 3 at 1.00", "in a 5 at 0.33", "in b 7 at 0.01", "out a 2", "out a 9", "out b 1", "count a 4", "count b 3", "count a 0", "charge a 0.50 for 1", "charge b 0.07 for 2", "in c 0 at 1.00")
	}
	switch d.draw(26) {
	case 0:
		return "at " + date() + " " + n()
	case 1:
		return "change " + date() + " " + n() + " " + n()
	case 2:
		return "events " + n()
	case 3:
		return "history " + n()
	case 4:
		return "moves " + d.one("a", "b", "c", "\xff")
	case 5:
		return d.one("open", "closed", "months", "trial", "turn", "help", "", "  ", "x", "post", "sum")
	case 6:
		return d.one("open", "closed", "months", "trial") + d.one("", "", "", " ", " x")
	case 7:
		return "day " + date()
	case 8:
		return "sum " + d.one("a  b", "\xff", "1")
	case 9, 10:
		return "tear " + d.one(strconv.Itoa(d.draw(60)), strconv.Itoa(d.draw(800)), n())
	case 11, 12:
		return "void " + n()
	case 13, 14:
		return "close 1900-0" + strconv.Itoa(d.draw(7))
	case 15, 16, 17:
		return "correct " + n() + " " + what()
	}
	return d.one("post ", "post ", "  post  ") + what()
}

// drawnLines are some of them.
func drawnLines(d *die) []string {
	var l []string
	for range d.draw(40) {
		l = append(l, lineOf(d))
	}
	return l
}

// answers are what lines are answered, each for itself.
func answers(t *testing.T, lines []string) []string {
	t.Helper()
	s := Session(strings.Join(lines, "\n") + "\n")
	l := strings.Split(strings.TrimSuffix(s, "\n"), "\n")
	if !strings.HasSuffix(s, "\n") || len(l) != max(1, len(lines)) {
		t.Fatalf("%d lines: %d answers: %q", len(lines), len(l), s)
	}
	return l
}

// TestErrorsChangeNothing: the session without the lines that were refused answers the other ones alike.
func TestErrorsChangeNothing(t *testing.T) {
	d := die(21)
	errs := map[string]int{}
	for range 400 {
		lines := drawnLines(&d)
		told := answers(t, lines)
		var others, want []string
		for i, line := range lines {
			if strings.HasPrefix(told[i], "error ") {
				errs[told[i]]++
				continue
			}
			others, want = append(others, line), append(want, told[i])
		}
		if len(others) > 0 {
			if got := answers(t, others); !slices.Equal(got, want) {
				t.Fatalf("%q: %q, not %q", others, got, want)
			}
		}
	}
	for _, e := range []string{form, span, "error 7", "error 10"} {
		if errs[e] < 20 {
			t.Errorf("%q was told %d times", e, errs[e])
		}
	}
}

// TestTellingChangesNothing: the session without the lines that only tell answers those that do alike.
func TestTellingChangesNothing(t *testing.T) {
	d := die(22)
	for range 400 {
		lines := drawnLines(&d)
		told := answers(t, lines)
		var others, want []string
		for i, line := range lines {
			word, _, _ := strings.Cut(strings.TrimSpace(line), " ")
			if slices.Contains([]string{"post", "correct", "void", "close", "tear"}, word) {
				others, want = append(others, line), append(want, told[i])
			}
		}
		if len(others) > 0 {
			if got := answers(t, others); !slices.Equal(got, want) {
				t.Fatalf("%q: %q, not %q", others, got, want)
			}
		}
	}
}

// TestLaterLines: what stands behind a line changes nothing of its answer; the same text is answered alike.
func TestLaterLines(t *testing.T) {
	d := die(23)
	for range 100 {
		lines := drawnLines(&d)
		told := answers(t, lines)
		for n := 1; n <= len(lines); n++ {
			if got := answers(t, lines[:n]); !slices.Equal(got, told[:n]) {
				t.Fatalf("%q: %q, not %q", lines[:n], got, told[:n])
			}
		}
	}
}

// TestSessionsShareNothing: what one did, no other one sees.
func TestSessionsShareNothing(t *testing.T) {
	for range 3 {
		asks(t, append([]qa{{"events -1", "events"}, {"closed", "closed"}, {"turn", "turn 0"}, {"tear 1", span}}, setUp()...))
		tells(t, "turn\nclosed\nvoid 1\ntear 1", "turn 0\nclosed\nerror 7\nerror 2\n")
	}
}

// TestAnyBytes: no text panics, and each of its lines is answered by one.
func TestAnyBytes(t *testing.T) {
	d := die(24)
	for range 3_000 {
		text := drawnText(&d, d.draw(100))
		if d.draw(2) == 0 {
			text = strings.Join(drawnLines(&d), "\n")
			b := []byte(text)
			for range d.draw(20) {
				if len(b) > 0 {
					b[d.draw(len(b))] = byte(d.draw(256))
				}
			}
			text = string(b)
		}
		want := strings.Count(strings.TrimSuffix(text, "\n"), "\n") + 1
		if got := Session(text); strings.Count(got, "\n") != want || !strings.HasSuffix(got, "\n") {
			t.Fatalf("Session of %q, of %d lines: %q", text, want, got)
		}
		if got := Session(text); got != Session(text) {
			t.Fatalf("Session of %q: %q, and then something else", text, got)
		}
	}
}

// TestThrown: whatever is thrown is caught; what is no Errno has no number of the program's.
func TestThrown(t *testing.T) {
	throws := func(what any) deed { return func([]string) string { panic(what) } }
	deeds := map[string]deed{
		"full":  throws(api.ErrFull),
		"text":  throws("text"),
		"error": throws(errors.New("error")),
		"nil":   func(words []string) string { return words[7] },
		"fine":  func([]string) string { return "fine" },
	}
	for _, x := range []qa{{"full", "error 12"}, {"text", "error -1"}, {"error", "error -1"}, {"nil", "error -1"}, {"fine", "fine"}, {"none", form}} {
		if got := answer(deeds, []string{x.line}); got != x.want {
			t.Errorf("%q: %q, not %q", x.line, got, x.want)
		}
	}
}

// A session by another way

var (
	dayForm    = `([0-9]{4}-[0-9]{2}-[0-9]{2})`
	numberForm = `(0|-?[1-9][0-9]*)`
	doForm     = regexp.MustCompile(`\A(?:post|correct|void|close)(?: .*)?\z`)
	atForm     = regexp.MustCompile(`\Aat ` + dayForm + ` ` + numberForm + `\z`)
	changeForm = regexp.MustCompile(`\Achange ` + dayForm + ` ` + numberForm + ` ` + numberForm + `\z`)
	oneForm    = regexp.MustCompile(`\A(events|history|tear) ` + numberForm + `\z`)
	movesForm  = regexp.MustCompile(`\Amoves ([^ ]+)\z`)
	dateForm   = regexp.MustCompile(`\Aday ` + dayForm + `\z`)
	sumForm    = regexp.MustCompile(`\Asum(?: (.*))?\z`)
	blanksForm = regexp.MustCompile(` +`)
)

// model is a session of which lines are told apart by patterns.
type model struct{ house *house.House }

// tell is what a line is answered; its errors are told by their numbers.
func (m *model) tell(line string) string {
	line = strings.Trim(blanksForm.ReplaceAllString(line, " "), " ")
	if line == "" {
		return "ok"
	}
	told, err := m.look(line)
	if err != nil {
		return fmt.Sprint("error ", int(api.Tell(err)))
	}
	return told
}

func (m *model) look(line string) (string, error) {
	if doForm.MatchString(line) {
		return m.house.Do(line)
	}
	if p := atForm.FindStringSubmatch(line); p != nil {
		n, turn, err := dated(p[1], p[2])
		return fmt.Sprint("at", held(report.At(&m.house.Book, n, turn))), err
	}
	if p := changeForm.FindStringSubmatch(line); p != nil {
		n, from, err := dated(p[1], p[2])
		_, to, none := dated(p[1], p[3])
		var l []report.Holding
		for _, c := range report.Diff(&m.house.Book, n, from, to) {
			l = append(l, report.Holding(c))
		}
		return fmt.Sprint("change", held(l)), errors.Join(err, none)
	}
	if p := oneForm.FindStringSubmatch(line); p != nil {
		n, err := strconv.ParseInt(p[2], 10, 64)
		if err != nil {
			return "", api.ErrForm
		}
		return m.one(p[1], int(n))
	}
	if p := movesForm.FindStringSubmatch(line); p != nil {
		s := "moves"
		for _, v := range report.Moves(&m.house.Book, p[1], m.house.Book.Turn()) {
			s += fmt.Sprintf(" %d:%s:%d:%s:%d=%s", v.Event.ID, money.Print(v.Line.Value), v.Line.Short, money.Print(v.Line.Late), v.Qty, money.Print(v.Value))
		}
		return s, nil
	}
	if p := dateForm.FindStringSubmatch(line); p != nil {
		n, _, err := dated(p[1], "0")
		month, _ := day.Month(n)
		return fmt.Sprintf("day %d %d", n, month), err
	}
	if p := sumForm.FindStringSubmatch(line); p != nil {
		return fmt.Sprint("sum ", crc32.ChecksumIEEE([]byte(p[1]))), nil
	}
	return m.plain(line)
}

// one is what a line of one number tells.
func (m *model) one(word string, n int) (string, error) {
	s := word
	switch word {
	case "events":
		for _, e := range m.house.Book.As(n) {
			text, _ := event.Print(e)
			s += fmt.Sprintf(" | %d %s", e.ID, text)
		}
	case "history":
		for _, v := range m.house.Book.History(n) {
			s += fmt.Sprintf(" %d-%d", v.From, v.To)
		}
	case "tear":
		all := m.house.Journal()
		if n < 0 || n > len(all) {
			return "", api.ErrRange
		}
		h, lines, err := house.Restore(all[:n])
		if err != nil {
			return "", err
		}
		m.house = h
		s += fmt.Sprintf(" %d %d", lines, len(h.Journal()))
	}
	return s, nil
}

// plain is what a line of one word tells.
func (m *model) plain(line string) (string, error) {
	b, p := &m.house.Book, &m.house.Periods
	postings, closes := []ledger.Posting{}, ""
	for _, c := range p.Closed() {
		postings = append(postings, ledger.Post(c.Posted)...)
		closes += fmt.Sprintf(" | %d %d%s", c.Month, c.Turn, five(c.Posted))
	}
	postings = append(postings, ledger.Post(p.Open(b))...)
	switch line {
	case "open":
		return "open" + five(p.Open(b)), nil
	case "closed":
		return "closed" + closes, nil
	case "months":
		return "months " + strings.Join(strings.Split(ledger.Print(postings), "\n"), "|"), nil
	case "trial":
		s := "trial"
		for _, x := range ledger.Trial(postings) {
			s += fmt.Sprintf(" %s=%s", x.Account, money.Print(x.Amount))
		}
		return s, nil
	case "turn":
		return fmt.Sprint("turn ", b.Turn()), nil
	case "help":
		return helpText, nil
	}
	return "", api.ErrForm
}

// dated are a day and a number, as words.
func dated(date, number string) (int, int, error) {
	n, err := day.Parse(date)
	turn, none := strconv.ParseInt(number, 10, 64)
	if err != nil || none != nil {
		return 0, 0, api.ErrForm
	}
	return n, int(turn), nil
}

// held are items, how many, of which value.
func held(l []report.Holding) string {
	s := ""
	for _, h := range l {
		s += fmt.Sprintf(" %s:%d=%s", h.Item, h.Qty, money.Print(h.Value))
	}
	return s
}

// five are figures.
func five(f api.Figures) string {
	return fmt.Sprintf(" %s %s %s %s %s", money.Print(f.In), money.Print(f.Out), money.Print(f.Loss), money.Print(f.Gain), money.Print(f.Late))
}

// TestDrawn: many sessions, held against the other way.
func TestDrawn(t *testing.T) {
	d := die(25)
	told := map[string]int{}
	for range 3_000 {
		m := &model{house: &house.House{}}
		var l []qa
		for _, line := range drawnLines(&d) {
			x := qa{line, m.tell(line)}
			l = append(l, x)
			word, rest, _ := strings.Cut(x.want, " ")
			if rest != "" {
				told[word]++
			}
		}
		if len(l) > 0 {
			asks(t, l)
		}
	}
	for _, word := range []string{"posted", "corrected", "closed", "at", "change", "events", "history", "moves", "open", "months", "trial", "turn", "day", "sum", "tear", "error"} {
		if told[word] < 50 {
			t.Errorf("%d drawn lines told something of %q", told[word], word)
		}
	}
}
