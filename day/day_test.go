package day

import (
	"errors"
	"math"
	"strings"
	"testing"
	"time"

	"tallyman/api"
)

// wantErrno fails, unless an error is just that Errno, without a place.
func wantErrno(t *testing.T, what string, err error, want api.Errno) {
	t.Helper()
	var at *api.At
	if api.Tell(err) != want || errors.As(err, &at) {
		t.Errorf("%s: error %v, not %v", what, err, want)
	}
}

// at is the day that lies n days behind 1900-01-01, as the library has it.
func at(n int) time.Time {
	return time.Date(1900, time.January, 1+n, 0, 0, 0, 0, time.UTC)
}

// noDays are numbers of no day.
var noDays = []int{-1, -36583, math.MinInt, api.MaxDay + 1, api.MaxDay + 365, 146097, math.MaxInt - 1, math.MaxInt}

// 2.1

// days are some of them, with all that is told of them.
var days = []struct {
	n, y, m, d, month int
	text              string
}{
	{0, 1900, 1, 1, 0, "1900-01-01"},
	{1, 1900, 1, 2, 0, "1900-01-02"},
	{30, 1900, 1, 31, 0, "1900-01-31"},
	{31, 1900, 2, 1, 1, "1900-02-01"},
	{58, 1900, 2, 28, 1, "1900-02-28"},
	{59, 1900, 3, 1, 2, "1900-03-01"},
	{364, 1900, 12, 31, 11, "1900-12-31"},
	{365, 1901, 1, 1, 12, "1901-01-01"},
	{1518, 1904, 2, 28, 49, "1904-02-28"},
	{1519, 1904, 2, 29, 49, "1904-02-29"},
	{1520, 1904, 3, 1, 50, "1904-03-01"},
	{36524, 2000, 1, 1, 1200, "2000-01-01"},
	{36582, 2000, 2, 28, 1201, "2000-02-28"},
	{36583, 2000, 2, 29, 1201, "2000-02-29"},
	{36584, 2000, 3, 1, 1202, "2000-03-01"},
	{36889, 2000, 12, 31, 1211, "2000-12-31"},
	{36890, 2001, 1, 1, 1212, "2001-01-01"},
	{73107, 2100, 2, 28, 2401, "2100-02-28"},
	{73108, 2100, 3, 1, 2402, "2100-03-01"},
	{99998, 2173, 10, 14, 3285, "2173-10-14"},
	{99999, 2173, 10, 15, 3285, "2173-10-15"},
}

func TestOf(t *testing.T) {
	for _, c := range days {
		if n, err := Of(c.y, c.m, c.d); n != c.n || err != nil {
			t.Errorf("Of(%d, %d, %d) = %d, %v, not %d", c.y, c.m, c.d, n, err, c.n)
		}
	}
}

// TestOfAll asks for every day of every month, and beyond its ends.
func TestOfAll(t *testing.T) {
	n := 0
	for y := 1898; y <= 2202; y++ {
		for m := -1; m <= 14; m++ {
			for d := -1; d <= 33; d++ {
				real := time.Date(y, time.Month(m), d, 0, 0, 0, 0, time.UTC)
				there := real.Year() == y && int(real.Month()) == m && real.Day() == d
				got, err := Of(y, m, d)
				if !there || y < 1900 || y > 2200 || n > api.MaxDay {
					wantErrno(t, real.String(), err, api.ErrArg)
					if got != 0 {
						t.Fatalf("Of(%d, %d, %d) = %d beside an error", y, m, d, got)
					}
					continue
				}
				if got != n || err != nil {
					t.Fatalf("Of(%d, %d, %d) = %d, %v, not %d", y, m, d, got, err, n)
				}
				n++
			}
		}
	}
	if n != api.MaxDay+1 {
		t.Errorf("%d days, not %d", n, api.MaxDay+1)
	}
}

func TestOfWrongInputs(t *testing.T) {
	for _, c := range [][3]int{
		{1899, 12, 31},
		{1896, 2, 29},
		{0, 1, 1},
		{-1900, 1, 1},
		{2201, 1, 1},
		{2400, 2, 29},
		{math.MaxInt, 1, 1},
		{math.MinInt, 1, 1},
		{1900, 2, 29},
		{2100, 2, 29},
		{2001, 2, 29},
		{2000, 2, 30},
		{2000, 4, 31},
		{2000, 6, 31},
		{2000, 9, 31},
		{2000, 11, 31},
		{2000, 1, 32},
		{2000, 12, 32},
		{2000, 0, 1},
		{2000, -1, 1},
		{2000, 13, 1},
		{2000, math.MaxInt, 1},
		{2000, math.MinInt, 1},
		{2000, 1, 0},
		{2000, 1, -1},
		{2000, 1, math.MaxInt},
		{2000, 1, math.MinInt},
		{2173, 10, 16},
		{2173, 11, 1},
		{2174, 1, 1},
		{2200, 1, 1},
		{2200, 12, 31},
	} {
		n, err := Of(c[0], c[1], c[2])
		wantErrno(t, "Of", err, api.ErrArg)
		if n != 0 {
			t.Errorf("Of(%v) = %d beside an error", c, n)
		}
	}
}

func TestParts(t *testing.T) {
	for _, c := range days {
		if y, m, d, err := Parts(c.n); y != c.y || m != c.m || d != c.d || err != nil {
			t.Errorf("Parts(%d) = %d, %d, %d, %v, not %d, %d, %d", c.n, y, m, d, err, c.y, c.m, c.d)
		}
	}
	for n := range api.MaxDay + 1 {
		real := at(n)
		if y, m, d, err := Parts(n); y != real.Year() || m != int(real.Month()) || d != real.Day() || err != nil {
			t.Fatalf("Parts(%d) = %d, %d, %d, %v, not %v", n, y, m, d, err, real)
		}
	}
}

func TestPartsOfWrongInputs(t *testing.T) {
	for _, n := range noDays {
		y, m, d, err := Parts(n)
		wantErrno(t, "Parts", err, api.ErrArg)
		if y != 0 || m != 0 || d != 0 {
			t.Errorf("Parts(%d) = %d, %d, %d beside an error", n, y, m, d)
		}
	}
}

func TestMonth(t *testing.T) {
	for _, c := range days {
		if m, err := Month(c.n); m != c.month || err != nil {
			t.Errorf("Month(%d) = %d, %v, not %d", c.n, m, err, c.month)
		}
	}
	month := -1
	for n := range api.MaxDay + 1 {
		if at(n).Day() == 1 {
			month++
		}
		if m, err := Month(n); m != month || err != nil {
			t.Fatalf("Month(%d) = %d, %v, not %d", n, m, err, month)
		}
	}
}

func TestMonthOfWrongInputs(t *testing.T) {
	for _, n := range noDays {
		m, err := Month(n)
		wantErrno(t, "Month", err, api.ErrArg)
		if m != 0 {
			t.Errorf("Month(%d) = %d beside an error", n, m)
		}
	}
}

func TestLast(t *testing.T) {
	for _, c := range []struct{ month, want int }{
		{0, 30},
		{1, 58},
		{2, 89},
		{11, 364},
		{12, 395},
		{49, 1519},
		{1201, 36583},
		{1211, 36889},
		{2401, 73107},
		{3284, 99984},
		{3285, 99999}, // the last day of all stands in the middle of its month
	} {
		if n, err := Last(c.month); n != c.want || err != nil {
			t.Errorf("Last(%d) = %d, %v, not %d", c.month, n, err, c.want)
		}
	}
}

// TestLastIsTheLast: a month's last day is of that month, and the next day is not.
func TestLastIsTheLast(t *testing.T) {
	first := 0
	for month := range 3285 {
		n, err := Last(month)
		if err != nil || n < first {
			t.Fatalf("Last(%d) = %d, %v, its first day being %d", month, n, err, first)
		}
		if m, err := Month(n); m != month || err != nil {
			t.Fatalf("Last(%d) = %d, of month %d, %v", month, n, m, err)
		}
		if m, err := Month(n + 1); m != month+1 || err != nil {
			t.Fatalf("Last(%d) = %d, but the next day is of month %d, %v", month, n, m, err)
		}
		first = n + 1
	}
}

func TestLastOfWrongInputs(t *testing.T) {
	for _, month := range []int{-1, -12, math.MinInt, 3286, 3287, 3299, 3599, 3600, 3601, 99999, math.MaxInt - 1, math.MaxInt} {
		n, err := Last(month)
		wantErrno(t, "Last", err, api.ErrArg)
		if n != 0 {
			t.Errorf("Last(%d) = %d beside an error", month, n)
		}
	}
}

func TestPrint(t *testing.T) {
	for _, c := range days {
		if s, err := Print(c.n); s != c.text || err != nil {
			t.Errorf("Print(%d) = %q, %v, not %q", c.n, s, err, c.text)
		}
	}
	for n := range api.MaxDay + 1 {
		want := at(n).Format(time.DateOnly)
		if s, err := Print(n); s != want || err != nil {
			t.Fatalf("Print(%d) = %q, %v, not %q", n, s, err, want)
		}
	}
}

func TestPrintOfWrongInputs(t *testing.T) {
	for _, n := range noDays {
		s, err := Print(n)
		wantErrno(t, "Print", err, api.ErrArg)
		if s != "" {
			t.Errorf("Print(%d) = %q beside an error", n, s)
		}
	}
}

func TestParse(t *testing.T) {
	for _, c := range days {
		if n, err := Parse(c.text); n != c.n || err != nil {
			t.Errorf("Parse(%q) = %d, %v, not %d", c.text, n, err, c.n)
		}
	}
	for n := range api.MaxDay + 1 {
		s, _ := Print(n)
		if got, err := Parse(s); got != n || err != nil {
			t.Fatalf("Parse(%q) = %d, %v, not %d", s, got, err, n)
		}
	}
}

func TestParseOfWrongInputs(t *testing.T) {
	for _, s := range []string{
		"",
		"-",
		"2000",
		"2000-02",
		"2000-02-2",
		"2000-02-029",
		"2000-2-29",
		"2000-02-29 ",
		" 2000-02-29",
		"2000-02-29\n",
		"2000-02-29\x00",
		"02000-02-29",
		"+2000-02-29",
		"-2000-02-29",
		"200-02-029",
		"2000-2-029",
		"2000-002-9",
		"2000/02/29",
		"2000 02 29",
		"2000-02 29",
		"2000002029",
		"20000229",
		"2000-02-30",
		"1900-02-29",
		"2100-02-29",
		"2000-00-01",
		"2000-13-01",
		"2000-01-00",
		"2000-01-32",
		"2000-04-31",
		"1899-12-31",
		"0000-00-00",
		"0000-01-01",
		"2173-10-16",
		"2174-01-01",
		"2200-01-01",
		"2201-01-01",
		"9999-99-99",
		// Each of these would make a day, were a byte taken for a digit by its place alone.
		"2000-0:-01",
		"2000-1/-01",
		"2000-02-1:",
		"2000-02-3/",
		"1:00-02-28",
		"199:-01-01",
		"20\x00\x00-02-29",
		"２000-02",
		"\xff\xff\xff\xff-\xff\xff-\xff\xff",
		strings.Repeat("2000-02-29", 2),
		strings.Repeat("0", 100_000),
	} {
		n, err := Parse(s)
		wantErrno(t, "Parse of "+s[:min(len(s), 20)], err, api.ErrForm)
		if n != 0 {
			t.Errorf("Parse(%.20q) = %d beside an error", s, n)
		}
	}
}

// TestParseReadsPrintAlone: with any one byte changed, a text is a day's only where Print writes it.
func TestParseReadsPrintAlone(t *testing.T) {
	for _, c := range days {
		for i := range len(c.text) {
			for b := range 256 {
				text := []byte(c.text)
				text[i] = byte(b)
				s := string(text)
				n, err := Parse(s)
				if err != nil {
					wantErrno(t, s, err, api.ErrForm)
					if real, err := time.Parse(time.DateOnly, s); err == nil && !real.Before(at(0)) && !real.After(at(api.MaxDay)) {
						t.Errorf("Parse refuses %q", s)
					}
					continue
				}
				if back, err := Print(n); back != s || err != nil {
					t.Errorf("Parse(%q) = %d, which is %q", s, n, back)
				}
			}
		}
	}
}
