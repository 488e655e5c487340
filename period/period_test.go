package period

import (
	"math"
	"slices"
	"testing"

	"tallyman/api"
	"tallyman/book"
	"tallyman/cost"
	"tallyman/day"
)

// in, charge, out and count are events of one item.
func in(id, n, qty, price int) api.Event {
	return api.Event{ID: id, Item: "nail", Kind: api.In, Qty: qty, Price: price, Day: n}
}

func charge(id, n, price, of int) api.Event {
	return api.Event{ID: id, Item: "nail", Kind: api.Charge, Price: price, Of: of, Day: n}
}

func out(id, n, qty int) api.Event {
	return api.Event{ID: id, Item: "nail", Kind: api.Out, Qty: qty, Day: n}
}

func count(id, n, qty int) api.Event {
	return api.Event{ID: id, Item: "nail", Kind: api.Count, Qty: qty, Day: n}
}

// of is an event of another item.
func of(item string, e api.Event) api.Event {
	e.Item = item
	return e
}

// Days of the first months of all: January 1900 is 0 to 30, February 31 to 58, March 59 to 89, April 90 to 119, May 120 to 150.
const (
	january, januaryEnds   = 0, 30
	february, februaryEnds = 31, 58
	march, marchEnds       = 59, 89
	april, aprilEnds       = 90, 119
	may                    = 120
)

// die draws numbers, the same each time.
type die uint32

func (d *die) draw(most int) int {
	*d = *d*1664525 + 1013904223
	return int(*d>>16) % most
}

// drawnEvent is an event of one of several items and months, Right, without an ID.
func drawnEvent(d *die) api.Event {
	n := []int{d.draw(4), 28 + d.draw(6), 57 + d.draw(4), d.draw(150)}[d.draw(4)]
	e := in(0, n, 1+d.draw(9), []int{0, 1, 7, 33, 100}[d.draw(5)])
	switch d.draw(6) {
	case 0:
		e = charge(0, n, 1+d.draw(100), 1+d.draw(12))
	case 1, 2:
		e = out(0, n, 1+d.draw(12))
	case 3:
		e = count(0, n, d.draw(12))
	}
	return of([]string{"nail", "nail", "screw", "a1"}[d.draw(4)], e)
}

// drawn are events of several items and months, in no order, all Right, no two of one ID.
func drawn(seed, n int) []api.Event {
	d := die(seed + 1)
	var l []api.Event
	for i := range n {
		e := drawnEvent(&d)
		e.ID = i + 1
		l = append(l, e)
	}
	return l
}

// wantFigures fails, unless figures are just these.
func wantFigures(t *testing.T, what string, got, want api.Figures) {
	t.Helper()
	if got != want {
		t.Errorf("%s: %+v, not %+v", what, got, want)
	}
}

// wantMonths fails, unless events come to just these months.
func wantMonths(t *testing.T, l []api.Event, want ...Month) {
	t.Helper()
	if got := Months(l); !slices.Equal(got, want) {
		t.Errorf("Months are %+v, not %+v", got, want)
	}
}

// wantClosed fails, unless just these closes are there.
func wantClosed(t *testing.T, p *Periods, want ...Close) {
	t.Helper()
	if got := p.Closed(); !slices.Equal(got, want) {
		t.Errorf("Closed are %+v, not %+v", got, want)
	}
}

// wantLate fails, unless a day is late, or is not.
func wantLate(t *testing.T, p *Periods, n int, want bool) {
	t.Helper()
	if got := p.Late(n); got != want {
		t.Errorf("Late(%d) = %t behind %+v", n, got, p.Closed())
	}
}

// closes closes a month that may be closed: what was posted.
func closes(t *testing.T, p *Periods, b *book.Book, month int) api.Figures {
	t.Helper()
	f, err := p.Close(b, month)
	if err != nil {
		t.Fatalf("Close of %d: %v", month, err)
	}
	return f
}

// refuses fails, unless a close of a month is refused with just this error, and changes nothing.
func refuses(t *testing.T, p *Periods, b *book.Book, month int, want error) {
	t.Helper()
	closed, open, turn, known := p.Closed(), p.Open(b), b.Turn(), b.As(-1)
	f, err := p.Close(b, month)
	if err != want || f != (api.Figures{}) {
		t.Errorf("Close of %d: %+v, %v, not %v", month, f, err, want)
	}
	wantClosed(t, p, closed...)
	wantFigures(t, "Open behind what was refused", p.Open(b), open)
	if b.Turn() != turn || !slices.Equal(b.As(-1), known) {
		t.Errorf("Close of %d, that was refused, changed the book", month)
	}
}

// posts writes events into a book.
func posts(t *testing.T, b *book.Book, l ...api.Event) {
	t.Helper()
	for _, e := range l {
		if _, err := b.Post(e); err != nil {
			t.Fatalf("Post of %+v: %v", e, err)
		}
	}
}

// done fails, if an act of a book was refused.
func done(t *testing.T, err error) {
	t.Helper()
	if err != nil {
		t.Fatal(err)
	}
}

// bookOf is a book of events.
func bookOf(t *testing.T, l ...api.Event) *book.Book {
	t.Helper()
	b := &book.Book{}
	posts(t, b, l...)
	return b
}

// 6.1: Plus, Minus

func TestPlus(t *testing.T) {
	got := Plus(api.Figures{In: 1, Out: 20, Loss: 300, Gain: 4000, Late: 50000}, api.Figures{In: 7, Out: -60, Loss: 500, Gain: -4000, Late: 1})
	wantFigures(t, "Plus", got, api.Figures{In: 8, Out: -40, Loss: 800, Gain: 0, Late: 50001})
	wantFigures(t, "Plus of nothing", Plus(api.Figures{}, api.Figures{}), api.Figures{})
}

func TestMinus(t *testing.T) {
	got := Minus(api.Figures{In: 1, Out: 20, Loss: 300, Gain: 4000, Late: 50000}, api.Figures{In: 7, Out: -60, Loss: 500, Gain: 4000, Late: 1})
	wantFigures(t, "Minus", got, api.Figures{In: -6, Out: 80, Loss: -200, Gain: 0, Late: 49999})
	wantFigures(t, "Minus of nothing", Minus(api.Figures{}, api.Figures{}), api.Figures{})
}

// TestPlusMinusWrap: numbers that are added up wrap where they must, each for itself.
func TestPlusMinusWrap(t *testing.T) {
	most, least := math.MaxInt, math.MinInt
	one := api.Figures{In: 1, Out: 1, Loss: 1, Gain: 1, Late: 1}
	all := api.Figures{In: most, Out: most, Loss: most, Gain: most, Late: most}
	none := api.Figures{In: least, Out: least, Loss: least, Gain: least, Late: least}
	wantFigures(t, "Plus", Plus(all, one), none)
	wantFigures(t, "Minus", Minus(none, one), all)
	wantFigures(t, "Minus of the least", Minus(api.Figures{}, api.Figures{In: least}), api.Figures{In: least})
}

// TestPlusMinus: what is put to and taken away leaves what was there.
func TestPlusMinus(t *testing.T) {
	d := die(5)
	draw := func() api.Figures {
		return api.Figures{In: d.draw(1000) - 500, Out: d.draw(1000) - 500, Loss: d.draw(1000) - 500, Gain: d.draw(1000) - 500, Late: d.draw(1000) - 500}
	}
	for range 100 {
		a, b := draw(), draw()
		wantFigures(t, "Minus of Plus", Minus(Plus(a, b), b), a)
		wantFigures(t, "Plus of Minus", Plus(Minus(a, b), b), a)
		wantFigures(t, "Plus the other way round", Plus(b, a), Plus(a, b))
	}
}

// 6.1: Months

func TestMonthsOfNone(t *testing.T) {
	wantMonths(t, nil)
	wantMonths(t, []api.Event{})
}

func TestMonths(t *testing.T) {
	wantMonths(t, []api.Event{
		in(1, january, 4, 10), charge(2, january+1, 8, 1), out(3, januaryEnds, 1),
		of("screw", in(4, february, 2, 50)), out(5, february+1, 2), count(6, februaryEnds, 0),
		of("screw", count(7, april, 5)), charge(8, april, 9, 1), in(9, aprilEnds, 1, 7),
	},
		Month{N: 0, Figures: api.Figures{In: 48, Out: 12}},
		Month{N: 1, Figures: api.Figures{In: 100, Out: 24, Loss: 12}},
		Month{N: 3, Figures: api.Figures{In: 7, Gain: 150, Late: 9}},
	)
}

// TestMonthsOfKinds: each kind has its figure, and no other one.
func TestMonthsOfKinds(t *testing.T) {
	before := in(1, january, 5, 10)
	first := Month{N: 0, Figures: api.Figures{In: 50}}
	for _, c := range []struct {
		e    api.Event
		want api.Figures
	}{
		{in(2, february, 3, 7), api.Figures{In: 21}},
		{in(2, february, 3, 0), api.Figures{}},
		{charge(2, february, 6, 1), api.Figures{In: 6}},
		{charge(2, february, 6, 9), api.Figures{Late: 6}},
		{out(2, february, 2), api.Figures{Out: 20}},
		{out(2, february, 8), api.Figures{Out: 50}},
		{count(2, february, 8), api.Figures{Gain: 30}},
		{count(2, february, 5), api.Figures{}},
		{count(2, february, 1), api.Figures{Loss: 40}},
		{count(2, february, 0), api.Figures{Loss: 50}},
		{of("screw", out(2, february, 8)), api.Figures{}},
		{of("screw", count(2, february, 8)), api.Figures{}},
	} {
		wantMonths(t, []api.Event{before, c.e}, first, Month{N: 1, Figures: c.want})
	}
}

// TestMonthsOfLateCharge: of what is left of an In a charge is In in its own month; of what is gone it is Late.
func TestMonthsOfLateCharge(t *testing.T) {
	wantMonths(t, []api.Event{in(1, january, 2, 10), out(2, february, 1), charge(3, february+1, 6, 1), out(4, march, 1), charge(5, march, 7, 1), charge(6, april, 8, 1)},
		Month{N: 0, Figures: api.Figures{In: 20}},
		Month{N: 1, Figures: api.Figures{In: 6, Out: 10}},
		Month{N: 2, Figures: api.Figures{In: 7, Out: 23}},
		Month{N: 3, Figures: api.Figures{Late: 8}},
	)
}

// TestMonthsAtEnds: the last day of a month and the first one of the next; the first day of all, and the last one.
func TestMonthsAtEnds(t *testing.T) {
	var l []api.Event
	var want []Month
	for i, n := range []int{january, januaryEnds, february, februaryEnds, march, marchEnds, april, aprilEnds, may} {
		l = append(l, in(i+1, n, 1, 1+i))
		if i%2 == 0 {
			want = append(want, Month{N: i / 2})
		}
		m := &want[len(want)-1]
		m.Figures.In += 1 + i
	}
	wantMonths(t, l, want...)
	wantMonths(t, []api.Event{in(2, api.MaxDay, 1, 9), in(1, 0, 1, 5)}, Month{N: 0, Figures: api.Figures{In: 5}}, Month{N: 3285, Figures: api.Figures{In: 9}})
	wantMonths(t, []api.Event{in(1, 36583, 1, 5), in(2, 36584, 1, 9)}, Month{N: 1201, Figures: api.Figures{In: 5}}, Month{N: 1202, Figures: api.Figures{In: 9}})
}

// TestMonthsOfIDs: IDs may be any, and say nothing of days.
func TestMonthsOfIDs(t *testing.T) {
	wantMonths(t, []api.Event{in(math.MaxInt, january, 1, 10), in(0, february, 1, 20), in(-7, march, 1, 30), out(math.MinInt, march, 2)},
		Month{N: 0, Figures: api.Figures{In: 10}},
		Month{N: 1, Figures: api.Figures{In: 20}},
		Month{N: 2, Figures: api.Figures{In: 30, Out: 30}},
	)
}

// monthsOneByOne are months, by looking for the events of each one of them anew.
func monthsOneByOne(l []api.Event) []Month {
	lines := cost.Run(l).Lines
	var months []Month
	for n := range 10 {
		m, any := Month{N: n}, false
		for _, e := range l {
			if of, err := day.Month(e.Day); err != nil || of != n {
				continue
			}
			y := lines[slices.IndexFunc(lines, func(y api.Line) bool { return y.ID == e.ID })]
			any = true
			m.Figures.Late += y.Late
			switch {
			case e.Kind == api.In, e.Kind == api.Charge:
				m.Figures.In += y.Value
			case e.Kind == api.Out:
				m.Figures.Out += y.Value
			case y.Gain:
				m.Figures.Gain += y.Value
			default:
				m.Figures.Loss += y.Value
			}
		}
		if any {
			months = append(months, m)
		}
	}
	return months
}

func TestMonthsOfDrawn(t *testing.T) {
	for seed := range 200 {
		l := drawn(seed, seed/4)
		wantMonths(t, l, monthsOneByOne(l)...)
	}
}

// TestMonthsShowWhatIsThere: what came in and was found, less what went out and was lost, is there.
func TestMonthsShowWhatIsThere(t *testing.T) {
	for seed := range 200 {
		l := drawn(seed, seed/4)
		there := 0
		for _, layers := range cost.Run(l).Layers {
			for _, y := range layers {
				there += y.Value
			}
		}
		var f api.Figures
		for _, m := range Months(l) {
			f = Plus(f, m.Figures)
		}
		if got := f.In + f.Gain - f.Out - f.Loss; got != there {
			t.Errorf("seed %d: months say %d, %d is there", seed, got, there)
		}
	}
}

// TestMonthsOfMany: a list that is longer than any book's.
func TestMonthsOfMany(t *testing.T) {
	const many = 100_000
	l := make([]api.Event, 0, many)
	for i := range many {
		l = append(l, in(i+1, many-1-i, 1, 1))
	}
	sum := 0
	months := Months(l)
	for i, m := range months {
		if m.N != i {
			t.Fatalf("month %d is %d", i, m.N)
		}
		sum += m.Figures.In
	}
	if len(months) != 3286 || sum != many {
		t.Errorf("%d months, of %d", len(months), sum)
	}
}

// 6.1: Until

func TestUntil(t *testing.T) {
	l := []api.Event{in(1, january, 4, 10), out(2, february, 1), count(3, april, 1), of("screw", charge(4, april, 3, 1)), count(5, may, 2)}
	for _, c := range []struct {
		month int
		want  api.Figures
	}{
		{math.MinInt, api.Figures{}},
		{-1, api.Figures{}},
		{0, api.Figures{In: 40}},
		{1, api.Figures{In: 40, Out: 10}},
		{2, api.Figures{In: 40, Out: 10}},
		{3, api.Figures{In: 40, Out: 10, Loss: 20, Late: 3}},
		{4, api.Figures{In: 40, Out: 10, Loss: 20, Gain: 10, Late: 3}},
		{5, api.Figures{In: 40, Out: 10, Loss: 20, Gain: 10, Late: 3}},
		{3300, api.Figures{In: 40, Out: 10, Loss: 20, Gain: 10, Late: 3}},
		{math.MaxInt, api.Figures{In: 40, Out: 10, Loss: 20, Gain: 10, Late: 3}},
	} {
		wantFigures(t, "Until", Until(l, c.month), c.want)
	}
}

func TestUntilOfNone(t *testing.T) {
	for _, month := range []int{math.MinInt, -1, 0, 3299, 3300, math.MaxInt} {
		wantFigures(t, "Until of none", Until(nil, month), api.Figures{})
	}
}

// TestUntilAtEnds: the first month and the last one of which there are days.
func TestUntilAtEnds(t *testing.T) {
	l := []api.Event{in(1, 0, 1, 5), in(2, api.MaxDay, 1, 9)}
	for month, want := range map[int]int{-1: 0, 0: 5, 3284: 5, 3285: 14, 3299: 14, 3300: 14} {
		wantFigures(t, "Until", Until(l, month), api.Figures{In: want})
	}
}

// TestWholeIsItsMonths: each month is what Until tells of it more than of the one ahead, and all of them are the whole.
func TestWholeIsItsMonths(t *testing.T) {
	for seed := range 100 {
		l := drawn(seed, seed/2)
		var sum api.Figures
		next := 0
		for _, m := range Months(l) {
			for ; next < m.N; next++ {
				wantFigures(t, "Until of a month without events", Until(l, next), sum)
			}
			sum = Plus(sum, m.Figures)
			wantFigures(t, "Until of a month", Until(l, m.N), sum)
			next = m.N + 1
		}
		wantFigures(t, "Until of all", Until(l, 3300), sum)
	}
}

// TestUntilHangsOnNothingLater: what happened behind a month changes nothing of it.
func TestUntilHangsOnNothingLater(t *testing.T) {
	for seed := range 100 {
		l := drawn(seed, 30)
		for month := range 6 {
			last, err := day.Last(month)
			done(t, err)
			ahead := slices.DeleteFunc(slices.Clone(l), func(e api.Event) bool { return e.Day > last })
			wantFigures(t, "Until", Until(l, month), Until(ahead, 3300))
		}
	}
}

// TestMonthsOfAnyOrder: however events are told.
func TestMonthsOfAnyOrder(t *testing.T) {
	l := drawn(9, 40)
	want := Months(l)
	d := die(1)
	for range 50 {
		for i := range l {
			j := d.draw(i + 1)
			l[i], l[j] = l[j], l[i]
		}
		wantMonths(t, l, want...)
	}
}

// TestListsStay: no list that is handed in is written into, nor what stands behind its length, and what comes out is fresh.
func TestListsStay(t *testing.T) {
	whole := drawn(7, 40)
	l := whole[:30]
	kept := slices.Clone(whole)
	first := Months(l)
	want := slices.Clone(first)
	Until(l, 2)
	if !slices.Equal(whole, kept) {
		t.Error("a list that was handed in is changed")
	}
	for i := range first {
		first[i] = Month{N: -1}
	}
	wantMonths(t, l, want...)
}

// TestWrongEvents: nothing is promised of events that are not Right, or of one ID, but that calls end, and do not panic.
func TestWrongEvents(t *testing.T) {
	l := []api.Event{
		{},
		{ID: 1, Item: "nail", Kind: 5, Qty: 1, Day: 1},
		in(1, -1, 1, 1),
		in(1, api.MaxDay+1, 1, 1),
		in(1, 1, 0, 1),
		of("Nail", in(1, 1, 1, 1)),
		{ID: 1, Item: "nail", Kind: math.MinInt, Qty: math.MinInt, Price: math.MaxInt, Of: math.MinInt, Day: math.MaxInt},
	}
	wantMonths(t, l)
	wantFigures(t, "Until", Until(l, 3300), api.Figures{})
	l = append(l, in(1, february, 2, 10))
	l = append([]api.Event{in(1, math.MinInt, 1, 1)}, l...)
	wantMonths(t, l, Month{N: 1, Figures: api.Figures{In: 20}})
	same := []api.Event{in(1, january, 1, 1), out(1, february, 1), in(1, march, 1, 1), count(1, january, 0)}
	Months(same)
	Until(same, 1)
}

// 6.2: Close, Closed

func TestPeriodsZero(t *testing.T) {
	var p Periods
	wantClosed(t, &p)
	wantFigures(t, "Open of nothing", p.Open(&book.Book{}), api.Figures{})
}

func TestClose(t *testing.T) {
	var p Periods
	b := bookOf(t, in(0, january, 4, 10), out(0, january+5, 1), of("screw", in(0, february, 2, 50)))
	wantFigures(t, "January", closes(t, &p, b, 0), api.Figures{In: 40, Out: 10})
	posts(t, b, out(0, february+9, 2), count(0, februaryEnds, 0))
	wantFigures(t, "February", closes(t, &p, b, 1), api.Figures{In: 100, Out: 20, Loss: 10})
	posts(t, b, of("screw", count(0, march, 3)), charge(0, march, 6, 1), charge(0, march, 7, 3), in(0, april, 1, 1))
	wantFigures(t, "March", closes(t, &p, b, 2), api.Figures{In: 0, Gain: 50, Late: 13})
	wantClosed(t, &p,
		Close{Month: 0, Turn: 3, Posted: api.Figures{In: 40, Out: 10}},
		Close{Month: 1, Turn: 5, Posted: api.Figures{In: 100, Out: 20, Loss: 10}},
		Close{Month: 2, Turn: 9, Posted: api.Figures{Gain: 50, Late: 13}},
	)
}

// TestCloseOfNone: a book without events is closed, too, and so is a month in which nothing happened.
func TestCloseOfNone(t *testing.T) {
	var p Periods
	var b book.Book
	wantFigures(t, "January", closes(t, &p, &b, 0), api.Figures{})
	posts(t, &b, in(0, march, 1, 10))
	wantFigures(t, "February", closes(t, &p, &b, 1), api.Figures{})
	wantFigures(t, "March", closes(t, &p, &b, 2), api.Figures{In: 10})
	wantFigures(t, "April", closes(t, &p, &b, 3), api.Figures{})
	wantClosed(t, &p, Close{}, Close{Month: 1, Turn: 1}, Close{Month: 2, Turn: 1, Posted: api.Figures{In: 10}}, Close{Month: 3, Turn: 1})
}

// TestCloseLeavesOut: months between two closes are posted with the later one, and those ahead of the first with it.
func TestCloseLeavesOut(t *testing.T) {
	var p Periods
	b := bookOf(t, in(0, january, 1, 1), in(0, february, 1, 20), in(0, march, 1, 300), in(0, april, 1, 4000), in(0, may, 1, 50000))
	wantFigures(t, "up to February", closes(t, &p, b, 1), api.Figures{In: 21})
	wantFigures(t, "up to April", closes(t, &p, b, 3), api.Figures{In: 4300})
	wantClosed(t, &p, Close{Month: 1, Turn: 5, Posted: api.Figures{In: 21}}, Close{Month: 3, Turn: 5, Posted: api.Figures{In: 4300}})
	wantFigures(t, "Open", p.Open(b), api.Figures{In: 50000})
}

// TestCloseLatePost: an event of a closed month is posted at the next close, with all that it changes.
func TestCloseLatePost(t *testing.T) {
	var p Periods
	b := bookOf(t, in(0, january+5, 2, 30), out(0, january+9, 1))
	wantFigures(t, "January", closes(t, &p, b, 0), api.Figures{In: 60, Out: 30})
	posts(t, b, in(0, january, 1, 10))
	wantFigures(t, "Open", p.Open(b), api.Figures{In: 10, Out: -20})
	wantFigures(t, "February", closes(t, &p, b, 1), api.Figures{In: 10, Out: -20})
	wantFigures(t, "March", closes(t, &p, b, 2), api.Figures{})
	wantClosed(t, &p,
		Close{Month: 0, Turn: 2, Posted: api.Figures{In: 60, Out: 30}},
		Close{Month: 1, Turn: 3, Posted: api.Figures{In: 10, Out: -20}},
		Close{Month: 2, Turn: 3},
	)
}

// TestCloseLateCorrect: so is what was corrected, in its month, into another one, and into one that is closed.
func TestCloseLateCorrect(t *testing.T) {
	var p Periods
	b := bookOf(t, in(0, january, 2, 30), count(0, january+3, 1), in(0, april, 1, 7))
	wantFigures(t, "January", closes(t, &p, b, 0), api.Figures{In: 60, Loss: 30})
	done(t, b.Correct(2, count(0, january+3, 4)))
	wantFigures(t, "February", closes(t, &p, b, 1), api.Figures{Loss: -30, Gain: 60})
	done(t, b.Correct(1, in(0, april, 2, 30)))
	wantFigures(t, "March", closes(t, &p, b, 2), api.Figures{In: -60, Gain: -60})
	done(t, b.Correct(3, in(0, february, 1, 7)))
	wantFigures(t, "April", closes(t, &p, b, 3), api.Figures{In: 67})
	if got := p.Closed()[3].Turn; got != 6 {
		t.Errorf("the last close is of turn %d", got)
	}
}

// TestCloseLateVoid: so is what never was.
func TestCloseLateVoid(t *testing.T) {
	var p Periods
	b := bookOf(t, in(0, january, 2, 30), charge(0, january, 5, 1), out(0, january+3, 1), charge(0, january+4, 9, 7))
	wantFigures(t, "January", closes(t, &p, b, 0), api.Figures{In: 65, Out: 32, Late: 9})
	done(t, b.Void(1))
	wantFigures(t, "February", closes(t, &p, b, 1), api.Figures{In: -65, Out: -32, Late: 5})
	done(t, b.Void(2))
	done(t, b.Void(4))
	wantFigures(t, "March", closes(t, &p, b, 2), api.Figures{Late: -14})
	wantFigures(t, "all that was posted", posted(&p), Until(b.As(-1), 2))
}

// TestCloseTooLateCharge: a charge of a closed month that comes too late there.
func TestCloseTooLateCharge(t *testing.T) {
	var p Periods
	b := bookOf(t, in(0, january, 1, 30), out(0, january+3, 1))
	closes(t, &p, b, 0)
	posts(t, b, charge(0, january+4, 8, 1))
	wantFigures(t, "February", closes(t, &p, b, 1), api.Figures{Late: 8})
	posts(t, b, charge(0, january+2, 9, 1))
	wantFigures(t, "March", closes(t, &p, b, 2), api.Figures{In: 9, Out: 9})
}

// TestCloseMonths: the months that may be closed, and those that may not.
func TestCloseMonths(t *testing.T) {
	b := bookOf(t, in(0, january, 1, 5), in(0, api.MaxDay, 1, 9))
	for month, want := range map[int]int{0: 5, 1: 5, 3284: 5, 3285: 14, 3286: 14, 3299: 14} {
		var p Periods
		wantFigures(t, "Close", closes(t, &p, b, month), api.Figures{In: want})
		wantClosed(t, &p, Close{Month: month, Turn: 2, Posted: api.Figures{In: want}})
	}
	for _, month := range []int{math.MinInt, -3299, -1, 3300, 3301, 3600, math.MaxInt} {
		var p Periods
		refuses(t, &p, b, month, api.ErrArg)
		closes(t, &p, b, 7)
		refuses(t, &p, b, month, api.ErrArg)
	}
}

// TestCloseOrder: a month that is closed, and one ahead of it, are refused; the next one is not.
func TestCloseOrder(t *testing.T) {
	var p Periods
	b := bookOf(t, in(0, january, 1, 5), in(0, april, 1, 9))
	closes(t, &p, b, 2)
	posts(t, b, in(0, february, 1, 7))
	for _, month := range []int{0, 1, 2} {
		refuses(t, &p, b, month, api.ErrOrder)
	}
	wantFigures(t, "April", closes(t, &p, b, 3), api.Figures{In: 16})
	refuses(t, &p, b, 3, api.ErrOrder)
	wantFigures(t, "all others", closes(t, &p, b, 3299), api.Figures{})
	for _, month := range []int{0, 3, 4, 3298, 3299} {
		refuses(t, &p, b, month, api.ErrOrder)
	}
	wantClosed(t, &p, Close{Month: 2, Turn: 2, Posted: api.Figures{In: 5}}, Close{Month: 3, Turn: 3, Posted: api.Figures{In: 16}}, Close{Month: 3299, Turn: 3})
}

// TestCloseOrderOfZero: month 0 is closed only when a close says so.
func TestCloseOrderOfZero(t *testing.T) {
	var p Periods
	var b book.Book
	closes(t, &p, &b, 0)
	refuses(t, &p, &b, 0, api.ErrOrder)
	closes(t, &p, &b, 1)
}

// TestCloseFull: the sixtieth close is one, and there is none behind it; what is wrong with the month is told first.
func TestCloseFull(t *testing.T) {
	var p Periods
	b := bookOf(t, in(0, january, 1, 5))
	for i := range 60 {
		if i == 59 {
			posts(t, b, in(0, january, 1, 8))
		}
		closes(t, &p, b, 2*i)
	}
	closed := p.Closed()
	if len(closed) != 60 || closed[59] != (Close{Month: 118, Turn: 2, Posted: api.Figures{In: 8}}) {
		t.Errorf("Closed are %+v", closed)
	}
	for _, month := range []int{119, 120, 3299} {
		refuses(t, &p, b, month, api.ErrFull)
	}
	for _, month := range []int{0, 1, 117, 118} {
		refuses(t, &p, b, month, api.ErrOrder)
	}
	for _, month := range []int{-1, 3300} {
		refuses(t, &p, b, month, api.ErrArg)
	}
	posts(t, b, in(0, january, 1, 3))
	wantFigures(t, "Open behind the last close of all", p.Open(b), api.Figures{In: 3})
	wantLate(t, &p, api.MaxDay, false)
}

// TestCloseOfOtherBook: what was posted stays posted, whatever book is told.
func TestCloseOfOtherBook(t *testing.T) {
	var p Periods
	closes(t, &p, bookOf(t, in(0, january, 1, 5)), 0)
	wantFigures(t, "of another book", closes(t, &p, bookOf(t, in(0, february, 1, 9)), 1), api.Figures{In: 4})
	wantFigures(t, "Open of none", p.Open(&book.Book{}), api.Figures{In: -9})
}

// TestNoBook: where there is no book, there are no events.
func TestNoBook(t *testing.T) {
	var p Periods
	wantFigures(t, "Open", p.Open(nil), api.Figures{})
	wantFigures(t, "Close", closes(t, &p, nil, 4), api.Figures{})
	wantClosed(t, &p, Close{Month: 4})
}

// TestPeriodsForThemselves: two of them know nothing of each other.
func TestPeriodsForThemselves(t *testing.T) {
	var p, q Periods
	b := bookOf(t, in(0, january, 1, 5))
	closes(t, &p, b, 3)
	wantClosed(t, &q)
	wantLate(t, &q, january, false)
	wantFigures(t, "the other's January", closes(t, &q, b, 0), api.Figures{In: 5})
	wantFigures(t, "the other's Open", q.Open(b), api.Figures{})
}

// TestClosedIsFresh: what Closed answers is the caller's.
func TestClosedIsFresh(t *testing.T) {
	var p Periods
	b := bookOf(t, in(0, january, 1, 5))
	closes(t, &p, b, 0)
	closes(t, &p, b, 1)
	want := p.Closed()
	got := p.Closed()
	for i := range got {
		got[i] = Close{Month: 3000, Posted: api.Figures{In: 7}}
	}
	_ = append(got[:1], Close{Month: 3000})
	wantClosed(t, &p, want...)
	wantLate(t, &p, march, false)
	kept := p.Closed()
	closes(t, &p, b, 2)
	if !slices.Equal(kept, want) {
		t.Errorf("what was answered became %+v", kept)
	}
}

// 6.2: Open

func TestOpen(t *testing.T) {
	var p Periods
	b := bookOf(t, in(0, january, 4, 10), out(0, february, 1), count(0, api.MaxDay, 4))
	all := api.Figures{In: 40, Out: 10, Gain: 10}
	wantFigures(t, "Open without any close", p.Open(b), all)
	closes(t, &p, b, 0)
	wantFigures(t, "Open behind January", p.Open(b), api.Figures{Out: 10, Gain: 10})
	wantFigures(t, "Open once more", p.Open(b), api.Figures{Out: 10, Gain: 10})
	closes(t, &p, b, 3284)
	wantFigures(t, "Open ahead of the last month", p.Open(b), api.Figures{Gain: 10})
	closes(t, &p, b, 3299)
	wantFigures(t, "Open behind all months", p.Open(b), api.Figures{})
	done(t, b.Void(2))
	wantFigures(t, "Open of what never was", p.Open(b), api.Figures{Out: -10, Gain: -10})
}

// 6.2: Late

func TestLateWithoutClose(t *testing.T) {
	var p Periods
	for _, n := range []int{math.MinInt, -1, 0, 1, januaryEnds, api.MaxDay, api.MaxDay + 1, math.MaxInt} {
		wantLate(t, &p, n, false)
	}
}

func TestLate(t *testing.T) {
	var p Periods
	var b book.Book
	closes(t, &p, &b, 0)
	wantLate(t, &p, january, true)
	wantLate(t, &p, januaryEnds, true)
	wantLate(t, &p, february, false)
	closes(t, &p, &b, 2)
	for _, n := range []int{january, february, februaryEnds, march, marchEnds} {
		wantLate(t, &p, n, true)
	}
	wantLate(t, &p, april, false)
	wantLate(t, &p, api.MaxDay, false)
	refuses(t, &p, &b, 1, api.ErrOrder)
	wantLate(t, &p, marchEnds, true)
	closes(t, &p, &b, 3285)
	wantLate(t, &p, api.MaxDay, true)
}

// TestLateWithoutMonth: a day that has no month is not late, though all months are closed.
func TestLateWithoutMonth(t *testing.T) {
	var p Periods
	closes(t, &p, &book.Book{}, 3299)
	for _, n := range []int{math.MinInt, -1, api.MaxDay + 1, math.MaxInt} {
		wantLate(t, &p, n, false)
	}
	wantLate(t, &p, 0, true)
	wantLate(t, &p, api.MaxDay, true)
}

// TestLateOfEachMonth: each month's last day is late behind its close, and the day behind it is not.
func TestLateOfEachMonth(t *testing.T) {
	for month := 0; month < 3285; month += 13 {
		var p Periods
		closes(t, &p, &book.Book{}, month)
		last, err := day.Last(month)
		done(t, err)
		wantLate(t, &p, last, true)
		wantLate(t, &p, last+1, false)
	}
}

// Of the whole

// posted is all that was posted.
func posted(p *Periods) api.Figures {
	var f api.Figures
	for _, c := range p.Closed() {
		f = Plus(f, c.Posted)
	}
	return f
}

// act does something to a book, or closes a month behind the last one.
func act(d *die, b *book.Book, p *Periods) {
	switch d.draw(8) {
	case 0:
		b.Void(1 + d.draw(20))
	case 1:
		b.Correct(1+d.draw(20), drawnEvent(d))
	case 2:
		next := 0
		if closed := p.Closed(); len(closed) > 0 {
			next = closed[len(closed)-1].Month + d.draw(3)
		}
		p.Close(b, next)
	default:
		b.Post(drawnEvent(d))
	}
}

// TestNothingFallsBetween: behind each act, what was posted and what is open are all there is; what was posted up to a close is what was known then; and no close changes.
func TestNothingFallsBetween(t *testing.T) {
	for seed := range 60 {
		d := die(seed + 1)
		var b book.Book
		var p Periods
		var before []Close
		for range 60 {
			act(&d, &b, &p)
			wantFigures(t, "posted, and open", Plus(posted(&p), p.Open(&b)), Until(b.As(-1), 3300))
			closed := p.Closed()
			if len(closed) < len(before) || !slices.Equal(closed[:len(before)], before) {
				t.Fatalf("seed %d: closes became %+v, of %+v", seed, closed, before)
			}
			before = closed
		}
		var sum api.Figures
		for _, c := range before {
			sum = Plus(sum, c.Posted)
			wantFigures(t, "posted up to a close", sum, Until(b.As(c.Turn), c.Month))
		}
	}
}
