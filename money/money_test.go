package money

import (
	"errors"
	"math"
	"math/big"
	"math/rand"
	"slices"
	"strings"
	"testing"

	"tallyman/api"
)

// wantErrno fails, unless an error is just that Errno, without a place.
func wantErrno(t *testing.T, what string, err error, want api.Errno) {
	t.Helper()
	var at *api.At
	if api.Tell(err) != want || errors.As(err, &at) {
		t.Errorf("%s: error %v, not %v", what, err, want)
	}
}

// exact is total times some by whole, cut, however great they are.
func exact(total, some, whole int) int {
	n := new(big.Int).Mul(big.NewInt(int64(total)), big.NewInt(int64(some)))
	return int(n.Div(n, big.NewInt(int64(whole))).Int64())
}

// 1.1

func TestPart(t *testing.T) {
	const most = 20 * api.MaxTotal
	for _, c := range []struct{ total, some, whole, want int }{
		{100, 1, 3, 33},
		{100, 2, 3, 66},
		{100, 3, 3, 100},
		{100, 0, 3, 0},
		{0, 2, 3, 0},
		{0, 0, 1, 0},
		{1, 1, 1, 1},
		{99, 1, 100, 0},
		{7, 5, 7, 5},
		{most, 1, 1, most},
		{most, 0, 1, 0},
		{most, api.MaxQty, api.MaxQty, most},
		{most, api.MaxQty - 1, api.MaxQty, most - most/api.MaxQty},
		{most - 1, api.MaxQty - 1, api.MaxQty, most - most/api.MaxQty - 1},
		{most, 1, api.MaxQty, most / api.MaxQty},
		{api.MaxTotal + 1, 1, 2, api.MaxTotal / 2},
	} {
		got, err := Part(c.total, c.some, c.whole)
		if got != c.want || err != nil {
			t.Errorf("Part(%d, %d, %d) = %d, %v, not %d", c.total, c.some, c.whole, got, err, c.want)
		}
	}
}

func TestPartOfWrongInputs(t *testing.T) {
	for _, c := range [][3]int{
		{-1, 1, 3},
		{20*api.MaxTotal + 1, 1, 3},
		{math.MaxInt, 1, 3},
		{math.MinInt, 1, 3},
		{100, 0, 0},
		{100, 1, 0},
		{100, -1, -1},
		{100, 0, -3},
		{100, math.MinInt, math.MinInt},
		{100, 1, api.MaxQty + 1},
		{100, 1, math.MaxInt},
		{100, -1, 3},
		{100, 4, 3},
		{100, math.MaxInt, 3},
		{100, math.MinInt, 3},
	} {
		got, err := Part(c[0], c[1], c[2])
		wantErrno(t, "Part", err, api.ErrArg)
		if got != 0 {
			t.Errorf("Part(%v) = %d beside an error", c, got)
		}
	}
}

func TestPartIsExact(t *testing.T) {
	r := rand.New(rand.NewSource(1))
	for range 20_000 {
		total, whole := r.Intn(20*api.MaxTotal+1), 1+r.Intn(api.MaxQty)
		some := r.Intn(whole + 1)
		got, err := Part(total, some, whole)
		if want := exact(total, some, whole); got != want || err != nil {
			t.Fatalf("Part(%d, %d, %d) = %d, %v, not %d", total, some, whole, got, err, want)
		}
	}
}

func TestSpread(t *testing.T) {
	for _, c := range []struct {
		total         int
		weights, want []int
	}{
		{100, []int{1, 1, 1}, []int{33, 33, 34}},
		{100, []int{1}, []int{100}},
		{100, []int{0, 1, 0}, []int{0, 100, 0}},
		{100, []int{3, 0, 2, 1}, []int{50, 0, 33, 17}},
		{2, []int{1, 1, 1}, []int{0, 1, 1}},
		{0, []int{1, 2}, []int{0, 0}},
		{api.MaxTotal, []int{1}, []int{api.MaxTotal}},
		{api.MaxTotal, []int{api.MaxQty, api.MaxQty}, []int{api.MaxTotal / 2, api.MaxTotal / 2}},
		{api.MaxTotal, []int{1, 1, 1}, []int{333333333333, 333333333333, 333333333334}},
	} {
		got, err := Spread(c.total, c.weights)
		if !slices.Equal(got, c.want) || err != nil {
			t.Errorf("Spread(%d, %v) = %v, %v, not %v", c.total, c.weights, got, err, c.want)
		}
	}
}

func TestSpreadOfWrongInputs(t *testing.T) {
	full := slices.Repeat([]int{api.MaxQty}, 1000)
	for _, c := range []struct {
		total   int
		weights []int
	}{
		{-1, []int{1}},
		{api.MaxTotal + 1, []int{1}},
		{math.MinInt, []int{1}},
		{math.MaxInt, []int{1}},
		{100, nil},
		{100, []int{}},
		{100, []int{0}},
		{100, []int{0, 0, 0}},
		{100, []int{1, -1}},
		{100, []int{-1, 2}},
		{100, []int{2, -1}},
		{100, []int{api.MaxQty + 1}},
		{100, []int{math.MaxInt, math.MaxInt, 3}},
		{100, []int{math.MinInt, math.MinInt, 1}},
		{100, append(slices.Clone(full), 1)},
		{0, nil},
	} {
		got, err := Spread(c.total, c.weights)
		wantErrno(t, "Spread", err, api.ErrArg)
		if got != nil {
			t.Errorf("Spread(%d, %d weights) = %v beside an error", c.total, len(c.weights), got)
		}
	}
}

func TestSpreadOfTheGreatest(t *testing.T) {
	full := slices.Repeat([]int{api.MaxQty}, 1000)
	got, err := Spread(api.MaxTotal, full)
	if err != nil || !slices.Equal(got, slices.Repeat([]int{api.MaxTotal / 1000}, 1000)) {
		t.Errorf("Spread of the greatest total by the greatest weights: %v, %v", got, err)
	}
	got, err = Spread(api.MaxTotal-1, append(full, 0))
	if err != nil || len(got) != 1001 || got[0] != api.MaxTotal/1000-1 || got[999] != api.MaxTotal/1000 || got[1000] != 0 {
		t.Errorf("Spread with a weight of 0 behind the greatest ones: %v, %v", got, err)
	}
}

func TestSpreadIsExactAndLosesNothing(t *testing.T) {
	r := rand.New(rand.NewSource(2))
	for range 500 {
		total := r.Intn(api.MaxTotal + 1)
		weights := []int{1 + r.Intn(api.MaxQty)}
		for range r.Intn(999) {
			weights = append(weights, r.Intn(api.MaxQty+1)*r.Intn(2))
		}
		all := 0
		for _, w := range weights {
			all += w
		}
		got, err := Spread(total, weights)
		if err != nil || len(got) != len(weights) {
			t.Fatalf("Spread(%d, %d weights): %d parts, %v", total, len(weights), len(got), err)
		}
		some, sum := 0, 0
		for i, w := range weights {
			some += w
			sum += got[i]
			if want := exact(total, some, all); sum != want || got[i] < 0 {
				t.Fatalf("Spread(%d, %v): up to %d %d, not %d", total, weights, i, sum, want)
			}
		}
		if sum != total {
			t.Fatalf("Spread(%d, %v): %d in all", total, weights, sum)
		}
	}
}

func TestSpreadLeavesItsListAlone(t *testing.T) {
	behind := []int{1, 2, 3, 4, 5}
	first, _ := Spread(100, behind[:3])
	second, _ := Spread(100, behind[:3])
	for i := range first {
		first[i] = -1
	}
	first = append(first, -1)
	if !slices.Equal(behind, []int{1, 2, 3, 4, 5}) {
		t.Errorf("Spread wrote into its list, or shares it: %v", behind)
	}
	if !slices.Equal(second, []int{16, 34, 50}) {
		t.Errorf("two answers share memory: %v", second)
	}
}

// 1.2

// written are amounts that Parse reads, and how they are written.
var written = []struct {
	n int
	s string
}{
	{0, "0.00"},
	{1, "0.01"},
	{-1, "-0.01"},
	{9, "0.09"},
	{10, "0.10"},
	{99, "0.99"},
	{-99, "-0.99"},
	{100, "1.00"},
	{-100, "-1.00"},
	{101, "1.01"},
	{999, "9.99"},
	{1000, "10.00"},
	{10010, "100.10"},
	{123456789, "1234567.89"},
	{-123456789, "-1234567.89"},
	{api.MaxTotal - 1, "9999999999.99"},
	{1 - api.MaxTotal, "-9999999999.99"},
	{api.MaxTotal, "10000000000.00"},
	{-api.MaxTotal, "-10000000000.00"},
}

func TestPrint(t *testing.T) {
	for _, c := range written {
		if got := Print(c.n); got != c.s {
			t.Errorf("Print(%d) = %q, not %q", c.n, got, c.s)
		}
	}
}

func TestPrintOfTheGreatest(t *testing.T) {
	for n, want := range map[int]string{
		math.MaxInt:       "92233720368547758.07",
		math.MinInt:       "-92233720368547758.08",
		math.MinInt + 1:   "-92233720368547758.07",
		api.MaxTotal + 1:  "10000000000.01",
		-api.MaxTotal - 1: "-10000000000.01",
	} {
		if got := Print(n); got != want {
			t.Errorf("Print(%d) = %q, not %q", n, got, want)
		}
	}
}

func TestParse(t *testing.T) {
	for _, c := range written {
		if got, err := Parse(c.s); got != c.n || err != nil {
			t.Errorf("Parse(%q) = %d, %v, not %d", c.s, got, err, c.n)
		}
	}
}

func TestParseOfWrongInputs(t *testing.T) {
	for _, s := range []string{
		"", "-", ".", "-.", "0", "1", "-1", "00", "100",
		".00", ".01", "-.01", "1.", "1.0", "1.000", "0.001", "1.00.", "1..00", "1.0.0", ".1.00",
		"-0.00", "00.00", "01.00", "-01.00", "00.01", "000", "0.0.1",
		"+1.00", "--1.00", "1-.00", "1.-00", "1.0-0", "1.00-", "-", "--",
		" 1.00", "1.00 ", "1 .00", "1,00", "1.00\n", "\x001.00", "1.0\x00", "1.0a", "a.00", "0x1.00", "1e2.00", "1_0.00", "1_000.00",
		"1.0\xff", "\xff", "١.٠٠", "1。00", "٣1.00",
		"10000000000.01", "-10000000000.01", "10000000000.0", "99999999999.99", "-99999999999.99", "100000000000.00", "-100000000000.00",
		"184467440737095516.16", "184467440737095516.17", "-184467440737095516.17",
		"92233720368547758.07", "-92233720368547758.08", "0000000000001.00",
		strings.Repeat("0", 100_000) + ".00", strings.Repeat("9", 100_000), strings.Repeat("-", 100_000),
	} {
		got, err := Parse(s)
		wantErrno(t, "Parse", err, api.ErrForm)
		if got != 0 || err == nil {
			t.Errorf("Parse(%.40q) = %d, %v", s, got, err)
		}
	}
}

func TestWhatIsWrittenIsReadAsItWas(t *testing.T) {
	r := rand.New(rand.NewSource(3))
	for range 20_000 {
		n := r.Intn(2*api.MaxTotal+1) - api.MaxTotal
		n /= int(math.Pow10(r.Intn(13)))
		if got, err := Parse(Print(n)); got != n || err != nil {
			t.Fatalf("Parse(Print(%d)) = %d, %v", n, got, err)
		}
	}
}

// What Parse reads is just what Print writes: of all texts of up to six of these letters.
func TestParseReadsNothingElse(t *testing.T) {
	const letters, most = "0129.- ", 6
	texts := map[string]int{}
	for n := -99_999; n <= 99_999; n++ {
		texts[Print(n)] = n
	}
	var look func(s string)
	look = func(s string) {
		got, err := Parse(s)
		want, ok := texts[s]
		if got != want || ok != (err == nil) {
			t.Fatalf("Parse(%q) = %d, %v", s, got, err)
		}
		if len(s) == most {
			return
		}
		for i := range len(letters) {
			look(s + letters[i:i+1])
		}
	}
	look("")
}
