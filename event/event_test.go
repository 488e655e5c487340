package event

import (
	"errors"
	"math"
	"slices"
	"strconv"
	"strings"
	"testing"

	"tallyman/api"
	"tallyman/day"
	"tallyman/money"
)

// wantErrno fails, unless an error is just that Errno, without a place.
func wantErrno(t *testing.T, what string, err error, want api.Errno) {
	t.Helper()
	var at *api.At
	if api.Tell(err) != want || errors.As(err, &at) {
		t.Errorf("%s: error %v, not %v", what, err, want)
	}
}

// 3.1

func TestName(t *testing.T) {
	for _, s := range []string{"a", "m", "z", "a0", "z9", "nail", "a1b2c3", "abcdefghij", "zzzzzzzzzz", "a123456789", "in", "out", "at"} {
		if !Name(s) {
			t.Errorf("Name(%q) is false", s)
		}
	}
}

func TestNameNot(t *testing.T) {
	wrong := []string{
		"", "0", "9", "1a", "0nail", "A", "Z", "aB", "nAil", "abcdefghijk", "a1234567890", strings.Repeat("a", 100000),
		" ", " a", "a ", "a b", "a-b", "a_b", "a.b", "-", "a\n", "\na", "a\x00", "\x00", "a\xff", "é", "aé", "ａ", "a٣",
	}
	for _, s := range wrong {
		if Name(s) {
			t.Errorf("Name(%q) is true", s)
		}
	}
}

// TestNameEveryByte asks for every byte, first and later.
func TestNameEveryByte(t *testing.T) {
	const letters, digits = "abcdefghijklmnopqrstuvwxyz", "0123456789"
	for c := range 256 {
		sign := string([]byte{byte(c)})
		if got, want := Name(sign), strings.Contains(letters, sign); got != want {
			t.Errorf("Name(%q) = %v", sign, got)
		}
		for _, s := range []string{"a" + sign, "a" + sign + "a", "abcdefghi" + sign} {
			if got, want := Name(s), strings.Contains(letters+digits, sign); got != want {
				t.Errorf("Name(%q) = %v", s, got)
			}
		}
	}
}

// told are events that are right, with what Print tells of them: each kind, the least and the greatest of each part.
var told = []struct {
	e    api.Event
	text string
}{
	{api.Event{Item: "nail", Kind: api.In, Qty: 12, Price: 250, Day: 36583}, "2000-02-29 in nail 12 at 2.50"},
	{api.Event{Item: "a", Kind: api.In, Qty: 1, Price: 0, Day: 0}, "1900-01-01 in a 1 at 0.00"},
	{api.Event{Item: "abcdefghij", Kind: api.In, Qty: 100000, Price: 1000000, Day: 99999}, "2173-10-15 in abcdefghij 100000 at 10000.00"},
	{api.Event{Item: "nail", Kind: api.Charge, Price: 1234, Of: 7, Day: 364}, "1900-12-31 charge nail 12.34 for 7"},
	{api.Event{Item: "z", Kind: api.Charge, Price: 1, Of: 1, Day: 0}, "1900-01-01 charge z 0.01 for 1"},
	{api.Event{Item: "a123456789", Kind: api.Charge, Price: 100000000000, Of: math.MaxInt, Day: 99999}, "2173-10-15 charge a123456789 1000000000.00 for 9223372036854775807"},
	{api.Event{Item: "nail", Kind: api.Out, Qty: 30, Day: 59}, "1900-03-01 out nail 30"},
	{api.Event{Item: "b", Kind: api.Out, Qty: 1, Day: 0}, "1900-01-01 out b 1"},
	{api.Event{Item: "b2", Kind: api.Out, Qty: 100000, Day: 99999}, "2173-10-15 out b2 100000"},
	{api.Event{Item: "nail", Kind: api.Count, Qty: 5, Day: 1}, "1900-01-02 count nail 5"},
	{api.Event{Item: "c", Kind: api.Count, Qty: 0, Day: 0}, "1900-01-01 count c 0"},
	{api.Event{Item: "count", Kind: api.Count, Qty: 100000, Day: 99999}, "2173-10-15 count count 100000"},
}

// ids are numbers that an event may have: all of them.
var ids = []int{0, 1, 7, -1, 121, math.MaxInt, math.MinInt}

// wrong are the changes that make an event of a kind one that may not be.
func wrong(kind int) []func(*api.Event) {
	var l []func(*api.Event)
	for _, s := range []string{"", "A", "1", "abcdefghijk", "a b", " a", "a\n"} {
		l = append(l, func(e *api.Event) { e.Item = s })
	}
	add := func(field func(*api.Event) *int, values ...int) {
		for _, n := range append(values, math.MinInt, math.MaxInt) {
			l = append(l, func(e *api.Event) { *field(e) = n })
		}
	}
	qty := func(e *api.Event) *int { return &e.Qty }
	price := func(e *api.Event) *int { return &e.Price }
	of := func(e *api.Event) *int { return &e.Of }
	add(func(e *api.Event) *int { return &e.Day }, -1, 100000)
	add(func(e *api.Event) *int { return &e.Kind }, -1, 0, 5, 6)
	switch kind {
	case api.In:
		add(qty, -1, 0, 100001)
		add(price, -1, 1000001)
		add(of, -1, 1)
	case api.Charge:
		add(qty, -1, 1)
		add(price, -1, 0, 100000000001)
		for _, n := range []int{0, -1, math.MinInt} {
			l = append(l, func(e *api.Event) { e.Of = n })
		}
	case api.Out:
		add(qty, -1, 0, 100001)
		add(price, -1, 1)
		add(of, -1, 1)
	case api.Count:
		add(qty, -1, 100001)
		add(price, -1, 1)
		add(of, -1, 1)
	}
	return l
}

func TestRight(t *testing.T) {
	for _, c := range told {
		for _, id := range ids {
			e := c.e
			e.ID = id
			if !Right(e) {
				t.Errorf("Right(%+v) is false", e)
			}
		}
	}
}

func TestRightNot(t *testing.T) {
	if Right(api.Event{}) || Right(api.Event{Item: "a", Qty: 1}) {
		t.Error("an event of no kind is right")
	}
	for _, c := range told {
		for _, change := range wrong(c.e.Kind) {
			e := c.e
			change(&e)
			if Right(e) {
				t.Errorf("Right(%+v) is true", e)
			}
		}
	}
}

func TestCompare(t *testing.T) {
	// In order: days first, then kinds, then numbers; nothing else counts.
	order := []api.Event{
		{Day: math.MinInt, Kind: 4, ID: 9},
		{Day: -1, Kind: math.MaxInt, ID: math.MaxInt},
		{Day: 0, Kind: 1, ID: 8, Item: "z", Qty: 9, Price: 9, Of: 9},
		{Day: 0, Kind: 2, ID: 7, Item: "y", Qty: 8, Price: 8, Of: 8},
		{Day: 0, Kind: 3, ID: 6, Item: "x"},
		{Day: 0, Kind: 4, ID: 5},
		{Day: 1, Kind: 1, ID: math.MinInt},
		{Day: 1, Kind: 1, ID: -1},
		{Day: 1, Kind: 1, ID: 0},
		{Day: 1, Kind: 1, ID: 1},
		{Day: 1, Kind: 1, ID: math.MaxInt},
		{Day: 1, Kind: 2, ID: math.MinInt},
		{Day: 99999, Kind: math.MinInt, ID: 1},
		{Day: 99999, Kind: 1, ID: 1},
		{Day: 99999, Kind: math.MaxInt, ID: 1},
		{Day: math.MaxInt, Kind: math.MinInt, ID: math.MinInt},
	}
	for i, a := range order {
		for j, b := range order {
			n := Compare(a, b)
			if n < 0 != (i < j) || n > 0 != (i > j) {
				t.Errorf("Compare(%+v, %+v) = %d", a, b, n)
			}
		}
		b := api.Event{ID: a.ID, Kind: a.Kind, Day: a.Day, Item: "else", Qty: 4, Price: 5, Of: 6}
		if n := Compare(a, b); n != 0 {
			t.Errorf("Compare(%+v, %+v) = %d, not 0", a, b, n)
		}
	}
}

// TestCompareSorts: a day's events come as In, Charge, Out, Count.
func TestCompareSorts(t *testing.T) {
	l := []api.Event{{ID: 1, Kind: api.Count}, {ID: 2, Kind: api.Out}, {ID: 3, Kind: api.Charge}, {ID: 4, Kind: api.In}, {ID: 5, Kind: api.In, Day: 1}}
	slices.SortFunc(l, Compare)
	var got []int
	for _, e := range l {
		got = append(got, e.ID)
	}
	if !slices.Equal(got, []int{4, 3, 2, 1, 5}) {
		t.Errorf("in order: %v", got)
	}
}

// 3.2

func TestPrint(t *testing.T) {
	for _, c := range told {
		for _, id := range ids {
			e := c.e
			e.ID = id
			if s, err := Print(e); s != c.text || err != nil {
				t.Errorf("Print(%+v) = %q, %v, not %q", e, s, err, c.text)
			}
		}
	}
}

func TestPrintNot(t *testing.T) {
	for _, c := range told {
		for _, change := range wrong(c.e.Kind) {
			e := c.e
			change(&e)
			s, err := Print(e)
			wantErrno(t, c.text, err, api.ErrArg)
			if s != "" {
				t.Errorf("Print(%+v) = %q beside an error", e, s)
			}
		}
	}
	_, err := Print(api.Event{})
	wantErrno(t, "no event", err, api.ErrArg)
}

func TestParse(t *testing.T) {
	for _, c := range told {
		if e, err := Parse(c.text); e != c.e || err != nil {
			t.Errorf("Parse(%q) = %+v, %v, not %+v", c.text, e, err, c.e)
		}
	}
}

// mustRefuse fails, unless Parse answers a text with ErrForm and no event.
func mustRefuse(t *testing.T, s string) {
	t.Helper()
	e, err := Parse(s)
	wantErrno(t, strconv.Quote(s), err, api.ErrForm)
	if e != (api.Event{}) {
		t.Errorf("Parse(%q) = %+v beside an error", s, e)
	}
}

func TestParseNot(t *testing.T) {
	texts := []string{
		"", " ", "   ", "     ", "in", "1900-01-01", "1900-01-01 in", "1900-01-01 in a", "1900-01-01 in a 1", "1900-01-01 in a 1 at", "1900-01-01 in a 1 at ",
		"1900-01-01 in a 1 for 0.01", "1900-01-01 in a 1 0.01", "1900-01-01 in a 0 at 0.01", "1900-01-01 in a 100001 at 0.01", "1900-01-01 in a -1 at 0.01",
		"1900-01-01 in a 1 at 10000.01", "1900-01-01 in a 1 at -0.01", "1900-01-01 in a 1 at 1", "1900-01-01 in a 1 at 1.0", "1900-01-01 in a 1 at 01.00", "1900-01-01 in a 01 at 1.00",
		"1900-01-01 in a +1 at 1.00", "1900-01-01 in a 1 at +1.00", "1900-01-01 in a 1 at 1.00 for 1", "1900-01-01 in a 1.00 for 1",
		"1900-01-01 in A 1 at 1.00", "1900-01-01 in 1a 1 at 1.00", "1900-01-01 in  1 at 1.00", "1900-01-01 in abcdefghijk 1 at 1.00",
		"1900-01-01 charge a 0.00 for 1", "1900-01-01 charge a 1000000000.01 for 1", "1900-01-01 charge a 0.01 for 0", "1900-01-01 charge a 0.01 for -1", "1900-01-01 charge a 0.01 for 01",
		"1900-01-01 charge a 0.01 for 9223372036854775808", "1900-01-01 charge a 0.01 for 99999999999999999999999", "1900-01-01 charge a 0.01 at 1", "1900-01-01 charge a 0.01 for",
		"1900-01-01 charge a 1 for 1", "1900-01-01 charge a 0.01", "1900-01-01 charge a 1 at 0.01",
		"1900-01-01 out a 0", "1900-01-01 out a 100001", "1900-01-01 out a -1", "1900-01-01 out a 1 at 1.00", "1900-01-01 out a 1 ", "1900-01-01 out a", "1900-01-01 out a ", "1900-01-01 out a 1.00", "1900-01-01 out a 1_0",
		"1900-01-01 count a -1", "1900-01-01 count a -0", "1900-01-01 count a 100001", "1900-01-01 count a 00", "1900-01-01 count a +0", "1900-01-01 count a", "1900-01-01 count a x",
		"1900-1-1 out a 1", "1899-12-31 out a 1", "2173-10-16 out a 1", "1900-02-29 out a 1", "0 out a 1", " out a 1", "out a 1",
		"1900-01-01 Out a 1", "1900-01-01 ou a 1", "1900-01-01 outs a 1", "1900-01-01  a 1", "1900-01-01 3 a 1", "1900-01-01 at a 1",
		"1900-01-01  out a 1", "1900-01-01 out  a 1", "1900-01-01 out a  1", " 1900-01-01 out a 1", "1900-01-01 out a 1\n", "1900-01-01\tout a 1", "1900-01-01 out\ta 1", "1900-01-01 out a\t1",
		"1900-01-01 out a 1\x00", "1900-01-01 out a 1\xff", "1900-01-01 out a １", "7 1900-01-01 out a 1",
		strings.Repeat(" ", 100000), "1900-01-01 out a " + strings.Repeat("9", 100000), "1900-01-01 out " + strings.Repeat("a", 100000) + " 1",
	}
	for _, s := range texts {
		mustRefuse(t, s)
	}
}

// TestParseParts: what is told with a part left out, twice, or in another's place is refused.
func TestParseParts(t *testing.T) {
	for _, c := range told {
		parts := strings.Split(c.text, " ")
		for i := range parts {
			less := slices.Concat(parts[:i], parts[i+1:])
			twice := slices.Concat(parts[:i+1], parts[i:])
			mustRefuse(t, strings.Join(less, " "))
			mustRefuse(t, strings.Join(twice, " "))
		}
		mustRefuse(t, c.text+" ")
		mustRefuse(t, " "+c.text)
		mustRefuse(t, c.text+"\n"+c.text)
		for n := range len(c.text) {
			if e, err := Parse(c.text[:n]); err == nil {
				wantAgain(t, c.text[:n], e)
			}
		}
	}
}

// wantAgain fails, unless Print tells just that text of an event that Parse read, whose number is 0.
func wantAgain(t *testing.T, s string, e api.Event) {
	t.Helper()
	if again, err := Print(e); again != s || err != nil || e.ID != 0 {
		t.Errorf("Parse(%q) = %+v, of which Print tells %q, %v", s, e, again, err)
	}
}

// byHand is what the document says that Print tells, put together part by part for a text that is taken apart.
func byHand(s string) bool {
	l := strings.Split(s, " ")
	if len(l) < 4 || !Name(l[2]) {
		return false
	}
	if _, err := day.Parse(l[0]); err != nil {
		return false
	}
	whole := func(s string, low, high int) bool {
		n, err := strconv.Atoi(s)
		return err == nil && strconv.Itoa(n) == s && low <= n && n <= high
	}
	price := func(s string, low, high int) bool {
		n, err := money.Parse(s)
		return err == nil && low <= n && n <= high
	}
	switch l[1] {
	case "in":
		return len(l) == 6 && l[4] == "at" && whole(l[3], 1, 100000) && price(l[5], 0, 1000000)
	case "charge":
		return len(l) == 6 && l[4] == "for" && price(l[3], 1, 100000000000) && whole(l[5], 1, math.MaxInt)
	case "out":
		return len(l) == 4 && whole(l[3], 1, 100000)
	case "count":
		return len(l) == 4 && whole(l[3], 0, 100000)
	}
	return false
}

// TestParseEveryByte changes, takes out and puts in each byte of what is told: just what Print tells is read.
func TestParseEveryByte(t *testing.T) {
	check := func(s string) {
		e, err := Parse(s)
		if byHand(s) != (err == nil) {
			t.Errorf("Parse(%q) = %+v, %v", s, e, err)
		}
		if err != nil {
			mustRefuse(t, s)
			return
		}
		wantAgain(t, s, e)
	}
	for _, c := range told {
		for i := range len(c.text) {
			check(c.text[:i] + c.text[i+1:])
			for b := range 256 {
				sign := string([]byte{byte(b)})
				check(c.text[:i] + sign + c.text[i+1:])
				check(c.text[:i] + sign + c.text[i:])
			}
		}
	}
}

// TestThereAndBack: what is written is read as it was, for many events of each kind.
func TestThereAndBack(t *testing.T) {
	for i := range 20000 {
		e := api.Event{Item: "a" + strconv.Itoa(i%1000), Kind: 1 + i%4, Day: i * 5}
		switch e.Kind {
		case api.In:
			e.Qty, e.Price = 1+i*5, i*50
		case api.Charge:
			e.Price, e.Of = 1+i*5000000, 1+i*i*i
		case api.Out:
			e.Qty = 1 + i*5
		default:
			e.Qty = i * 5
		}
		s, err := Print(e)
		if err != nil {
			t.Fatalf("Print(%+v): %v", e, err)
		}
		if got, err := Parse(s); got != e || err != nil {
			t.Fatalf("Parse(%q) = %+v, %v, not %+v", s, got, err, e)
		}
	}
}
