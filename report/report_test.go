package report

import (
	"cmp"
	"math"
	"slices"
	"testing"

	"tallyman/api"
	"tallyman/book"
	"tallyman/cost"
	"tallyman/event"
)

// in, charge, out and count are events, without a number.
func in(item string, n, qty, price int) api.Event {
	return api.Event{Item: item, Kind: api.In, Qty: qty, Price: price, Day: n}
}

func charge(item string, n, price, of int) api.Event {
	return api.Event{Item: item, Kind: api.Charge, Price: price, Of: of, Day: n}
}

func out(item string, n, qty int) api.Event {
	return api.Event{Item: item, Kind: api.Out, Qty: qty, Day: n}
}

func count(item string, n, qty int) api.Event {
	return api.Event{Item: item, Kind: api.Count, Qty: qty, Day: n}
}

// with is an event with a number.
func with(id int, e api.Event) api.Event {
	e.ID = id
	return e
}

// Days ahead of all others and behind all others, whether there are such or not.
const (
	never = math.MinInt
	ever  = math.MaxInt
)

// items are those of drawn books, and some of which there is no event.
var items = []string{"", "a", "a1", "b", "nail", "none"}

// die draws numbers, the same each time.
type die uint32

func (d *die) draw(most int) int {
	*d = *d*1664525 + 1013904223
	return int(*d>>16) % most
}

// drawnEvent is an event of one of several items, Right, of one of the days from 5 to 24.
func drawnEvent(d *die) api.Event {
	item, n := []string{"nail", "nail", "a", "a1", "b"}[d.draw(5)], 5+d.draw(20)
	switch d.draw(7) {
	case 0:
		return charge(item, n, 1+d.draw(100), 1+d.draw(12))
	case 1, 2:
		return out(item, n, 1+d.draw(12))
	case 3:
		return count(item, n, d.draw(12))
	}
	return in(item, n, 1+d.draw(9), []int{0, 1, 7, 33, 100}[d.draw(5)])
}

// drawn is a book in which so much was written down; some of it was refused.
func drawn(seed, n int) *book.Book {
	d := die(seed + 1)
	b := &book.Book{}
	for range n {
		id, e := 1+d.draw(12), drawnEvent(&d)
		switch d.draw(6) {
		case 0, 1:
			_ = b.Correct(id, e)
		case 2:
			_ = b.Void(id)
		default:
			_, _ = b.Post(e)
		}
	}
	return b
}

// bookOf is a book of events, of numbers from 1 on.
func bookOf(t *testing.T, l ...api.Event) *book.Book {
	t.Helper()
	b := &book.Book{}
	for _, e := range l {
		if _, err := b.Post(e); err != nil {
			t.Fatalf("Post of %+v: %v", e, err)
		}
	}
	return b
}

// done fails, if an act of a book was refused.
func done(t *testing.T, err error) {
	t.Helper()
	if err != nil {
		t.Fatal(err)
	}
}

// wantAt fails, unless just this was there.
func wantAt(t *testing.T, b *book.Book, n, turn int, want ...Holding) {
	t.Helper()
	if got := At(b, n, turn); !slices.Equal(got, want) {
		t.Errorf("At of day %d behind turn %d: %+v, not %+v", n, turn, got, want)
	}
}

// wantMoves fails, unless an item had just these moves.
func wantMoves(t *testing.T, b *book.Book, item string, turn int, want ...Move) {
	t.Helper()
	if got := Moves(b, item, turn); !slices.Equal(got, want) {
		t.Errorf("Moves of %q behind turn %d: %+v, not %+v", item, turn, got, want)
	}
}

// wantDiff fails, unless just this is known otherwise.
func wantDiff(t *testing.T, b *book.Book, n, from, to int, want ...Change) {
	t.Helper()
	if got := Diff(b, n, from, to); !slices.Equal(got, want) {
		t.Errorf("Diff of day %d from turn %d to %d: %+v, not %+v", n, from, to, got, want)
	}
}

// shop is a book of three items and all four kinds, corrected and voided, of eleven turns.
func shop(t *testing.T) *book.Book {
	t.Helper()
	b := bookOf(t,
		in("nail", 10, 4, 10),     // 1
		in("screw", 12, 2, 50),    // 2
		out("nail", 15, 1),        // 3
		charge("nail", 12, 8, 1),  // 4
		count("screw", 20, 3),     // 5
		in("bolt", 15, 5, 7),      // 6
		out("bolt", 15, 5),        // 7
		charge("bolt", 16, 99, 6), // 8: what came in is gone
	)
	done(t, b.Correct(1, in("nail", 11, 6, 10))) // turn 9
	done(t, b.Void(7))                           // turn 10
	done(t, b.Correct(3, out("nail", 15, 6)))    // turn 11
	return b
}

// 8.1: At

func TestAtByDay(t *testing.T) {
	b := shop(t)
	wantAt(t, b, 10, 8, Holding{"nail", 4, 40})
	wantAt(t, b, 11, 8, Holding{"nail", 4, 40})
	wantAt(t, b, 12, 8, Holding{"nail", 4, 48}, Holding{"screw", 2, 100})
	wantAt(t, b, 15, 8, Holding{"nail", 3, 36}, Holding{"screw", 2, 100})
	wantAt(t, b, 16, 8, Holding{"nail", 3, 36}, Holding{"screw", 2, 100})
	wantAt(t, b, 20, 8, Holding{"nail", 3, 36}, Holding{"screw", 3, 150})
}

func TestAtByTurn(t *testing.T) {
	b := shop(t)
	wantAt(t, b, 20, 1, Holding{"nail", 4, 40})
	wantAt(t, b, 20, 2, Holding{"nail", 4, 40}, Holding{"screw", 2, 100})
	wantAt(t, b, 20, 3, Holding{"nail", 3, 30}, Holding{"screw", 2, 100})
	wantAt(t, b, 20, 4, Holding{"nail", 3, 36}, Holding{"screw", 2, 100})
	wantAt(t, b, 20, 5, Holding{"nail", 3, 36}, Holding{"screw", 3, 150})
	wantAt(t, b, 20, 6, Holding{"bolt", 5, 35}, Holding{"nail", 3, 36}, Holding{"screw", 3, 150})
	wantAt(t, b, 20, 7, Holding{"nail", 3, 36}, Holding{"screw", 3, 150})
	wantAt(t, b, 20, 8, Holding{"nail", 3, 36}, Holding{"screw", 3, 150})
	wantAt(t, b, 20, 9, Holding{"nail", 5, 57}, Holding{"screw", 3, 150})
	wantAt(t, b, 20, 10, Holding{"bolt", 5, 134}, Holding{"nail", 5, 57}, Holding{"screw", 3, 150})
	wantAt(t, b, 20, 11, Holding{"bolt", 5, 134}, Holding{"screw", 3, 150})
	wantAt(t, b, 10, 9)
	wantAt(t, b, 11, 9, Holding{"nail", 6, 60})
	wantAt(t, b, 14, 11, Holding{"nail", 6, 68}, Holding{"screw", 2, 100})
}

// TestAtEndsOfDays: ahead of all events, on their first and last day, behind all of them; days that there are not.
func TestAtEndsOfDays(t *testing.T) {
	b := bookOf(t, in("nail", 10, 4, 10), in("nail", 11, 1, 5), out("nail", 30, 1))
	for _, n := range []int{never, -1, 0, 8, 9} {
		wantAt(t, b, n, -1)
	}
	wantAt(t, b, 10, -1, Holding{"nail", 4, 40})
	for _, n := range []int{11, 12, 28, 29} {
		wantAt(t, b, n, -1, Holding{"nail", 5, 45})
	}
	for _, n := range []int{30, 31, api.MaxDay, api.MaxDay + 1, ever} {
		wantAt(t, b, n, -1, Holding{"nail", 4, 35})
	}
}

// TestAtFirstAndLastDayOfAll: day 0 and MaxDay are days like others.
func TestAtFirstAndLastDayOfAll(t *testing.T) {
	b := bookOf(t, in("nail", 0, 1, 5), in("nail", api.MaxDay, 1, 9))
	wantAt(t, b, -1, -1)
	wantAt(t, b, 0, -1, Holding{"nail", 1, 5})
	wantAt(t, b, api.MaxDay-1, -1, Holding{"nail", 1, 5})
	wantAt(t, b, api.MaxDay, -1, Holding{"nail", 2, 14})
}

// TestAtEndsOfTurns: behind turn 0 nothing was known; below it, and above the last one, it is the last one.
func TestAtEndsOfTurns(t *testing.T) {
	b := shop(t)
	wantAt(t, b, 20, 0)
	last := []Holding{{"bolt", 5, 134}, {"screw", 3, 150}}
	for _, turn := range []int{math.MinInt, -2, -1, 11, 12, 1000, math.MaxInt} {
		wantAt(t, b, 20, turn, last...)
	}
}

// TestAtOfNone: a book without a turn, none at all, and one of which all was voided.
func TestAtOfNone(t *testing.T) {
	voided := bookOf(t, in("nail", 10, 4, 10))
	done(t, voided.Void(1))
	for _, n := range []int{never, -1, 0, 10, api.MaxDay, ever} {
		for _, turn := range []int{math.MinInt, -1, 0, 2, math.MaxInt} {
			wantAt(t, &book.Book{}, n, turn)
			wantAt(t, nil, n, turn)
			wantAt(t, voided, n, turn)
		}
	}
	wantAt(t, voided, 10, 1, Holding{"nail", 4, 40})
}

// TestAtInOrder: items come byte by byte, not by when they were written down, nor by their days.
func TestAtInOrder(t *testing.T) {
	names := []string{"z", "b", "ab", "a", "aa", "a0", "b9", "b10", "abcdefghij", "za", "a9", "nail", "c"}
	var l []api.Event
	var want []Holding
	for i, item := range names {
		l = append(l, in(item, 40-i, 1+i, 2))
		want = append(want, Holding{item, 1 + i, 2 + 2*i})
	}
	slices.SortFunc(want, func(a, b Holding) int { return cmp.Compare(a.Item, b.Item) })
	wantAt(t, bookOf(t, l...), 40, -1, want...)
	slices.Reverse(l)
	wantAt(t, bookOf(t, l...), 40, -1, want...)
	if want[0].Item != "a" || want[1].Item != "a0" || want[2].Item != "a9" || want[3].Item != "aa" || want[7].Item != "b10" {
		t.Errorf("order is %+v", want)
	}
}

// TestAtOfGone: an item of which nothing is left is not told, however it went.
func TestAtOfGone(t *testing.T) {
	other := in("screw", 10, 1, 3)
	left := Holding{"screw", 1, 3}
	for _, last := range []api.Event{out("nail", 12, 4), out("nail", 12, 9), count("nail", 12, 0)} {
		b := bookOf(t, in("nail", 10, 4, 10), other, last)
		wantAt(t, b, 11, -1, Holding{"nail", 4, 40}, left)
		wantAt(t, b, 12, -1, left)
		wantAt(t, b, 13, 2, Holding{"nail", 4, 40}, left)
	}
	wantAt(t, bookOf(t, out("nail", 10, 1), count("bolt", 10, 0), charge("a", 10, 5, 1), other), 10, -1, left)
}

// TestAtOfNoValue: an item of which there are some, of no value, is told.
func TestAtOfNoValue(t *testing.T) {
	b := bookOf(t, in("nail", 10, 4, 0), count("bolt", 10, 2))
	wantAt(t, b, 10, -1, Holding{"bolt", 2, 0}, Holding{"nail", 4, 0})
}

// TestAtOfCharge: a charge is value of what is left of its In; of what is gone it is none.
func TestAtOfCharge(t *testing.T) {
	b := bookOf(t, in("nail", 10, 2, 10), charge("nail", 11, 6, 1), out("nail", 12, 2), charge("nail", 13, 7, 1), in("nail", 14, 1, 5), charge("nail", 15, 8, 1))
	wantAt(t, b, 11, -1, Holding{"nail", 2, 26})
	wantAt(t, b, 12, -1)
	wantAt(t, b, 13, -1)
	wantAt(t, b, 14, -1, Holding{"nail", 1, 5})
	wantAt(t, b, 15, -1, Holding{"nail", 1, 5})
}

// TestAtOfSeveralLayers: all layers of an item are told together.
func TestAtOfSeveralLayers(t *testing.T) {
	b := bookOf(t, in("nail", 10, 2, 10), in("nail", 10, 2, 30), out("nail", 11, 3), in("nail", 12, 5, 1), count("nail", 13, 8))
	wantAt(t, b, 10, -1, Holding{"nail", 4, 80})
	wantAt(t, b, 11, -1, Holding{"nail", 1, 30})
	wantAt(t, b, 12, -1, Holding{"nail", 6, 35})
	wantAt(t, b, 13, -1, Holding{"nail", 8, 37})
}

// TestAtByDayNotByTurn: what was written down last comes first, if it is of an earlier day.
func TestAtByDayNotByTurn(t *testing.T) {
	b := bookOf(t, out("nail", 12, 2), in("nail", 11, 2, 30), in("nail", 10, 2, 10))
	wantAt(t, b, 12, 2)
	wantAt(t, b, 12, 3, Holding{"nail", 2, 60})
	wantAt(t, b, 11, 3, Holding{"nail", 4, 80})
	wantAt(t, b, 10, 3, Holding{"nail", 2, 20})
}

// 8.1: Moves

func TestMoves(t *testing.T) {
	b := shop(t)
	wantMoves(t, b, "nail", 8,
		Move{with(1, in("nail", 10, 4, 10)), api.Line{ID: 1, Value: 40}, 4, 40},
		Move{with(4, charge("nail", 12, 8, 1)), api.Line{ID: 4, Value: 8}, 4, 48},
		Move{with(3, out("nail", 15, 1)), api.Line{ID: 3, Value: 12}, 3, 36},
	)
	wantMoves(t, b, "screw", 8,
		Move{with(2, in("screw", 12, 2, 50)), api.Line{ID: 2, Value: 100}, 2, 100},
		Move{with(5, count("screw", 20, 3)), api.Line{ID: 5, Value: 50, Gain: true}, 3, 150},
	)
	wantMoves(t, b, "bolt", 8,
		Move{with(6, in("bolt", 15, 5, 7)), api.Line{ID: 6, Value: 35}, 5, 35},
		Move{with(7, out("bolt", 15, 5)), api.Line{ID: 7, Value: 35}, 0, 0},
		Move{with(8, charge("bolt", 16, 99, 6)), api.Line{ID: 8, Late: 99}, 0, 0},
	)
}

// TestMovesByTurn: what was corrected is told as it was known, and what was voided no more.
func TestMovesByTurn(t *testing.T) {
	b := shop(t)
	first := Move{with(1, in("nail", 10, 4, 10)), api.Line{ID: 1, Value: 40}, 4, 40}
	wantMoves(t, b, "nail", 1, first)
	wantMoves(t, b, "nail", 2, first)
	wantMoves(t, b, "nail", 3, first, Move{with(3, out("nail", 15, 1)), api.Line{ID: 3, Value: 10}, 3, 30})
	wantMoves(t, b, "nail", 10,
		Move{with(1, in("nail", 11, 6, 10)), api.Line{ID: 1, Value: 60}, 6, 60},
		Move{with(4, charge("nail", 12, 8, 1)), api.Line{ID: 4, Value: 8}, 6, 68},
		Move{with(3, out("nail", 15, 1)), api.Line{ID: 3, Value: 11}, 5, 57},
	)
	wantMoves(t, b, "bolt", 10,
		Move{with(6, in("bolt", 15, 5, 7)), api.Line{ID: 6, Value: 35}, 5, 35},
		Move{with(8, charge("bolt", 16, 99, 6)), api.Line{ID: 8, Value: 99}, 5, 134},
	)
}

// TestMovesEndsOfTurns: behind turn 0 nothing was known; below it, and above the last one, it is the last one.
func TestMovesEndsOfTurns(t *testing.T) {
	b := shop(t)
	for _, item := range []string{"nail", "screw", "bolt"} {
		wantMoves(t, b, item, 0)
	}
	last := []Move{
		{with(1, in("nail", 11, 6, 10)), api.Line{ID: 1, Value: 60}, 6, 60},
		{with(4, charge("nail", 12, 8, 1)), api.Line{ID: 4, Value: 8}, 6, 68},
		{with(3, out("nail", 15, 6)), api.Line{ID: 3, Value: 68}, 0, 0},
	}
	for _, turn := range []int{math.MinInt, -2, -1, 11, 12, 1000, math.MaxInt} {
		wantMoves(t, b, "nail", turn, last...)
	}
}

// TestMovesOfNone: items of which there is no event, texts that are no item's, and no book.
func TestMovesOfNone(t *testing.T) {
	b := shop(t)
	for _, item := range []string{"", "n", "nai", "nails", "nail ", " nail", "Nail", "nail\x00", "nail\n", "abcdefghijk", "\xff", "é"} {
		for _, turn := range []int{-1, 0, 8, 11} {
			wantMoves(t, b, item, turn)
		}
	}
	for _, item := range []string{"", "nail"} {
		wantMoves(t, &book.Book{}, item, -1)
		wantMoves(t, nil, item, -1)
		wantMoves(t, nil, item, 0)
	}
}

// TestMovesInOrder: by day, then kind, then number, not as they were written down.
func TestMovesInOrder(t *testing.T) {
	b := bookOf(t,
		count("nail", 10, 3),     // 1
		out("nail", 10, 1),       // 2
		charge("nail", 10, 4, 5), // 3
		in("nail", 10, 1, 7),     // 4
		in("nail", 10, 4, 2),     // 5
		in("nail", 9, 1, 1),      // 6
		in("nail", 11, 1, 1),     // 7
	)
	wantMoves(t, b, "nail", -1,
		Move{with(6, in("nail", 9, 1, 1)), api.Line{ID: 6, Value: 1}, 1, 1},
		Move{with(4, in("nail", 10, 1, 7)), api.Line{ID: 4, Value: 7}, 2, 8},
		Move{with(5, in("nail", 10, 4, 2)), api.Line{ID: 5, Value: 8}, 6, 16},
		Move{with(3, charge("nail", 10, 4, 5)), api.Line{ID: 3, Value: 4}, 6, 20},
		Move{with(2, out("nail", 10, 1)), api.Line{ID: 2, Value: 1}, 5, 19},
		Move{with(1, count("nail", 10, 3)), api.Line{ID: 1, Value: 10}, 3, 9},
		Move{with(7, in("nail", 11, 1, 1)), api.Line{ID: 7, Value: 1}, 4, 10},
	)
}

// TestMovesDownToNought: each event is told, what there is behind it none of, too.
func TestMovesDownToNought(t *testing.T) {
	b := bookOf(t, in("nail", 10, 3, 1), charge("nail", 10, 7, 1), out("nail", 11, 1), out("nail", 12, 1), out("nail", 13, 1), out("nail", 14, 2), charge("nail", 15, 9, 1), count("nail", 16, 2), count("nail", 17, 0))
	wantMoves(t, b, "nail", -1,
		Move{with(1, in("nail", 10, 3, 1)), api.Line{ID: 1, Value: 3}, 3, 3},
		Move{with(2, charge("nail", 10, 7, 1)), api.Line{ID: 2, Value: 7}, 3, 10},
		Move{with(3, out("nail", 11, 1)), api.Line{ID: 3, Value: 3}, 2, 7},
		Move{with(4, out("nail", 12, 1)), api.Line{ID: 4, Value: 3}, 1, 4},
		Move{with(5, out("nail", 13, 1)), api.Line{ID: 5, Value: 4}, 0, 0},
		Move{with(6, out("nail", 14, 2)), api.Line{ID: 6, Short: 2}, 0, 0},
		Move{with(7, charge("nail", 15, 9, 1)), api.Line{ID: 7, Late: 9}, 0, 0},
		Move{with(8, count("nail", 16, 2)), api.Line{ID: 8, Value: 2, Gain: true}, 2, 2},
		Move{with(9, count("nail", 17, 0)), api.Line{ID: 9, Value: 2}, 0, 0},
	)
}

// TestMovesOfOthers: events of other items change nothing, those of a name that begins alike, too; a charge for another item's In is too late.
func TestMovesOfOthers(t *testing.T) {
	b := bookOf(t, in("nail", 10, 2, 10), in("nails", 10, 5, 3), out("nai", 11, 9), charge("nail", 11, 4, 2), count("nails", 12, 0), out("nail", 13, 1))
	wantMoves(t, b, "nail", -1,
		Move{with(1, in("nail", 10, 2, 10)), api.Line{ID: 1, Value: 20}, 2, 20},
		Move{with(4, charge("nail", 11, 4, 2)), api.Line{ID: 4, Late: 4}, 2, 20},
		Move{with(6, out("nail", 13, 1)), api.Line{ID: 6, Value: 10}, 1, 10},
	)
}

// TestMovesOfItemCorrected: an event that was of another item is told of the one that it is of, as it is known.
func TestMovesOfItemCorrected(t *testing.T) {
	b := bookOf(t, in("nail", 10, 2, 10))
	done(t, b.Correct(1, in("bolt", 10, 2, 10)))
	nail, bolt := Move{with(1, in("nail", 10, 2, 10)), api.Line{ID: 1, Value: 20}, 2, 20}, Move{with(1, in("bolt", 10, 2, 10)), api.Line{ID: 1, Value: 20}, 2, 20}
	wantMoves(t, b, "nail", 1, nail)
	wantMoves(t, b, "bolt", 1)
	wantMoves(t, b, "nail", 2)
	wantMoves(t, b, "bolt", 2, bolt)
}

// 8.1: Diff

func TestDiff(t *testing.T) {
	b := shop(t)
	wantDiff(t, b, 20, 8, 9, Change{"nail", 2, 21})
	wantDiff(t, b, 20, 9, 10, Change{"bolt", 5, 134})
	wantDiff(t, b, 20, 8, 11, Change{"bolt", 5, 134}, Change{"nail", -3, -36})
	wantDiff(t, b, 10, 8, 11, Change{"nail", -4, -40})
	wantDiff(t, b, 11, 8, 11, Change{"nail", 2, 20})
	wantDiff(t, b, 9, 8, 11)
}

// TestDiffThereAndBack: a turn and itself; one turn and another one, each from the other.
func TestDiffThereAndBack(t *testing.T) {
	b := shop(t)
	for turn := range 12 {
		wantDiff(t, b, 20, turn, turn)
	}
	wantDiff(t, b, 20, 11, 8, Change{"bolt", -5, -134}, Change{"nail", 3, 36})
	wantDiff(t, b, 20, 9, 8, Change{"nail", -2, -21})
}

// TestDiffEndsOfTurns: what is not there is 0, behind turn 0, too; below it, and above the last one, it is the last one.
func TestDiffEndsOfTurns(t *testing.T) {
	b := shop(t)
	for _, last := range []int{math.MinInt, -1, 11, 12, math.MaxInt} {
		wantDiff(t, b, 20, 0, last, Change{"bolt", 5, 134}, Change{"screw", 3, 150})
		wantDiff(t, b, 20, last, 0, Change{"bolt", -5, -134}, Change{"screw", -3, -150})
		wantDiff(t, b, 20, last, 11)
		wantDiff(t, b, 20, -1, last)
	}
	wantDiff(t, b, 20, 0, 0)
}

// TestDiffEndsOfDays: of a day ahead of all events nothing is known otherwise, of one behind all of them all is.
func TestDiffEndsOfDays(t *testing.T) {
	b := bookOf(t, in("nail", 10, 4, 10), out("nail", 30, 1))
	for _, n := range []int{never, -1, 0, 9} {
		wantDiff(t, b, n, 0, 2)
	}
	wantDiff(t, b, 10, 0, 2, Change{"nail", 4, 40})
	wantDiff(t, b, 29, 1, 2)
	for _, n := range []int{30, api.MaxDay, ever} {
		wantDiff(t, b, n, 1, 2, Change{"nail", -1, -10})
	}
}

// TestDiffOfOneSide: items that only one of the two turns knows, and one that both know alike.
func TestDiffOfOneSide(t *testing.T) {
	b := bookOf(t, in("a", 10, 1, 3), in("c", 10, 2, 5), in("b", 10, 1, 1))
	done(t, b.Void(1))
	wantDiff(t, b, 10, 1, 4, Change{"a", -1, -3}, Change{"b", 1, 1}, Change{"c", 2, 10})
	wantDiff(t, b, 10, 4, 1, Change{"a", 1, 3}, Change{"b", -1, -1}, Change{"c", -2, -10})
	wantDiff(t, b, 10, 3, 4, Change{"a", -1, -3})
	done(t, b.Correct(2, in("d", 10, 2, 5)))
	wantDiff(t, b, 10, 4, 5, Change{"c", -2, -10}, Change{"d", 2, 10})
}

// TestDiffOfOne: a difference in Qty alone, in Value alone, and in neither.
func TestDiffOfOne(t *testing.T) {
	b := bookOf(t, in("nail", 10, 2, 10))
	done(t, b.Correct(1, in("nail", 10, 4, 5)))
	done(t, b.Correct(1, in("nail", 10, 4, 6)))
	done(t, b.Correct(1, in("nail", 9, 4, 6)))
	wantDiff(t, b, 10, 1, 2, Change{"nail", 2, 0})
	wantDiff(t, b, 10, 2, 1, Change{"nail", -2, 0})
	wantDiff(t, b, 10, 2, 3, Change{"nail", 0, 4})
	wantDiff(t, b, 10, 3, 2, Change{"nail", 0, -4})
	wantDiff(t, b, 10, 3, 4)
	wantDiff(t, b, 9, 3, 4, Change{"nail", 4, 24})
}

// TestDiffOfNoValue: some of no value that one of the two turns does not know are a change.
func TestDiffOfNoValue(t *testing.T) {
	b := bookOf(t, in("nail", 10, 4, 0))
	wantDiff(t, b, 10, 0, 1, Change{"nail", 4, 0})
	wantDiff(t, b, 10, 1, 0, Change{"nail", -4, 0})
}

// TestDiffInOrder: items come byte by byte, whichever turn knows them.
func TestDiffInOrder(t *testing.T) {
	b := bookOf(t, in("z", 10, 1, 1), in("ab", 10, 1, 1), in("a", 10, 1, 1), in("b10", 10, 1, 1), in("b9", 10, 1, 1), in("aa", 10, 1, 1))
	for id := 1; id <= 6; id += 2 {
		done(t, b.Void(id))
	}
	wantDiff(t, b, 10, 0, 6, Change{"a", 1, 1}, Change{"aa", 1, 1}, Change{"ab", 1, 1}, Change{"b10", 1, 1}, Change{"b9", 1, 1}, Change{"z", 1, 1})
	wantDiff(t, b, 10, 5, 9, Change{"a", -1, -1}, Change{"aa", 1, 1}, Change{"b9", -1, -1}, Change{"z", -1, -1})
}

func TestDiffOfNone(t *testing.T) {
	for _, b := range []*book.Book{nil, {}} {
		for _, turn := range []int{math.MinInt, -1, 0, 1, math.MaxInt} {
			wantDiff(t, b, 10, turn, 0)
			wantDiff(t, b, 10, 0, turn)
			wantDiff(t, b, ever, turn, -1)
		}
	}
}

// 8.1: of drawn books, one by one

// asKnown are events behind a turn, taken out of each number's history.
func asKnown(b *book.Book, turn int) []api.Event {
	if turn < 0 || turn > b.Turn() {
		turn = b.Turn()
	}
	var l []api.Event
	for id := 1; id <= api.MaxLive; id++ {
		for _, v := range b.History(id) {
			if v.From <= turn && (v.To == 0 || turn < v.To) {
				l = append(l, v.Event)
			}
		}
	}
	slices.SortFunc(l, event.Compare)
	return l
}

// stepped are moves, each counted on from the one ahead of it by what its line says.
func stepped(b *book.Book, item string, turn int) []Move {
	l := asKnown(b, turn)
	lines := cost.Run(l).Lines
	var moves []Move
	qty, value := 0, 0
	for i, e := range l {
		if e.Item != item {
			continue
		}
		y := lines[i]
		switch {
		case e.Kind == api.In:
			qty, value = qty+e.Qty, value+y.Value
		case e.Kind == api.Charge:
			value += y.Value
		case e.Kind == api.Out:
			qty, value = qty-e.Qty+y.Short, value-y.Value
		case y.Gain:
			qty, value = e.Qty, value+y.Value
		default:
			qty, value = e.Qty, value-y.Value
		}
		moves = append(moves, Move{e, y, qty, value})
	}
	return moves
}

// held is what there was, by the last move of each item up to a day.
func held(b *book.Book, n, turn int) []Holding {
	var l []Holding
	for _, item := range items {
		h := Holding{Item: item}
		for _, m := range stepped(b, item, turn) {
			if m.Event.Day <= n {
				h.Qty, h.Value = m.Qty, m.Value
			}
		}
		if h.Qty > 0 {
			l = append(l, h)
		}
	}
	return l
}

// changed is what is known otherwise, item by item.
func changed(b *book.Book, n, from, to int) []Change {
	of := func(item string, l []Holding) Holding {
		for _, h := range l {
			if h.Item == item {
				return h
			}
		}
		return Holding{}
	}
	was, is := held(b, n, from), held(b, n, to)
	var l []Change
	for _, item := range items {
		w, i := of(item, was), of(item, is)
		if c := (Change{item, i.Qty - w.Qty, i.Value - w.Value}); c != (Change{Item: item}) {
			l = append(l, c)
		}
	}
	return l
}

func TestAtOfDrawn(t *testing.T) {
	for seed := range 60 {
		b := drawn(seed, seed)
		for turn := -1; turn <= b.Turn()+1; turn += 1 + seed%5 {
			for n := 3; n < 27; n += 3 {
				wantAt(t, b, n, turn, held(b, n, turn)...)
			}
		}
	}
}

// TestMovesOfDrawn: step by step, each move is the one ahead of it and what its line says.
func TestMovesOfDrawn(t *testing.T) {
	for seed := range 100 {
		b := drawn(seed, seed)
		for turn := -1; turn <= b.Turn()+1; turn += 1 + seed%5 {
			for _, item := range items {
				wantMoves(t, b, item, turn, stepped(b, item, turn)...)
			}
		}
	}
}

func TestDiffOfDrawn(t *testing.T) {
	for seed := range 60 {
		b := drawn(seed, seed)
		for from := -1; from <= b.Turn()+1; from += 1 + seed%7 {
			for to := -1; to <= b.Turn()+1; to += 3 + seed%4 {
				n := 4 + (from+to+seed+2)%22
				wantDiff(t, b, n, from, to, changed(b, n, from, to)...)
			}
		}
	}
}

// TestFullBook: as many versions as a book takes, all of one item.
func TestFullBook(t *testing.T) {
	b := &book.Book{}
	want := []Move{}
	for i := range api.MaxLive {
		e := in("nail", i, api.MaxQty, api.MaxPrice)
		id, err := b.Post(e)
		done(t, err)
		want = append(want, Move{with(id, e), api.Line{ID: id, Value: api.MaxQty * api.MaxPrice}, id * api.MaxQty, id * api.MaxQty * api.MaxPrice})
	}
	wantMoves(t, b, "nail", -1, want...)
	wantAt(t, b, api.MaxLive, -1, Holding{"nail", api.MaxLive * api.MaxQty, api.MaxLive * api.MaxQty * api.MaxPrice})
	wantDiff(t, b, api.MaxLive, 20, 100, Change{"nail", 80 * api.MaxQty, 80 * api.MaxQty * api.MaxPrice})
}

// What must not happen

// kept is all that a book tells.
type kept struct {
	turn     int
	known    [][]api.Event
	versions [][]book.Version
}

func tells(b *book.Book) kept {
	k := kept{turn: b.Turn()}
	for turn := range b.Turn() + 1 {
		k.known = append(k.known, b.As(turn))
	}
	for id := range api.MaxLive + 1 {
		k.versions = append(k.versions, b.History(id))
	}
	return k
}

func same(a, b kept) bool {
	return a.turn == b.turn && slices.EqualFunc(a.known, b.known, slices.Equal) && slices.EqualFunc(a.versions, b.versions, slices.Equal)
}

// TestBookStays: what is asked of a book changes nothing in it.
func TestBookStays(t *testing.T) {
	b := drawn(7, 60)
	before := tells(b)
	for turn := -1; turn <= b.Turn()+1; turn++ {
		for n := 3; n < 27; n++ {
			At(b, n, turn)
			Diff(b, n, turn, b.Turn()-turn)
		}
		for _, item := range items {
			Moves(b, item, turn)
		}
	}
	if !same(tells(b), before) {
		t.Error("the book is not as it was")
	}
	if id, err := b.Post(in("nail", 1, 1, 1)); err != nil || id == 0 || b.Turn() != before.turn+1 {
		t.Errorf("Post behind it: %d, %v, at turn %d", id, err, b.Turn())
	}
}

// TestAnswersAreFresh: who writes into what is told changes neither the book, nor what is told again.
func TestAnswersAreFresh(t *testing.T) {
	b := shop(t)
	before := tells(b)
	at, moves, diff := At(b, 20, 8), Moves(b, "nail", 8), Diff(b, 20, 8, 11)
	wasAt, wasMoves, wasDiff := slices.Clone(at), slices.Clone(moves), slices.Clone(diff)
	for i := range at {
		at[i] = Holding{"x", -1, -1}
	}
	for i := range moves {
		moves[i] = Move{Event: with(-1, in("x", -1, -1, -1)), Line: api.Line{ID: -1}, Qty: -1, Value: -1}
	}
	for i := range diff {
		diff[i] = Change{"x", -1, -1}
	}
	_ = append(at, Holding{"y", -2, -2})
	_ = append(moves, Move{Qty: -2})
	_ = append(diff, Change{"y", -2, -2})
	if !same(tells(b), before) {
		t.Error("the book is not as it was")
	}
	wantAt(t, b, 20, 8, wasAt...)
	wantMoves(t, b, "nail", 8, wasMoves...)
	wantDiff(t, b, 20, 8, 11, wasDiff...)
}

// TestToldStays: what was told stays as it was, whatever is written down later; and what was known then is told again.
func TestToldStays(t *testing.T) {
	b := shop(t)
	at, moves, diff := At(b, 20, 11), Moves(b, "bolt", 11), Diff(b, 20, 8, 11)
	wasAt, wasMoves, wasDiff := slices.Clone(at), slices.Clone(moves), slices.Clone(diff)
	done(t, b.Void(6))
	done(t, b.Correct(2, in("screw", 1, 9, 9)))
	_, err := b.Post(in("bolt", 2, 3, 4))
	done(t, err)
	if !slices.Equal(at, wasAt) || !slices.Equal(moves, wasMoves) || !slices.Equal(diff, wasDiff) {
		t.Error("what was told is not as it was")
	}
	wantAt(t, b, 20, 11, wasAt...)
	wantMoves(t, b, "bolt", 11, wasMoves...)
	wantDiff(t, b, 20, 8, 11, wasDiff...)
}
