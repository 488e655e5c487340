package cost

import (
	"maps"
	"math"
	"math/big"
	"slices"
	"testing"

	"tallyman/api"
	"tallyman/event"
)

// in, charge, out and count are events of one item.
func in(id, n, qty, price int) api.Event {
	return api.Event{ID: id, Item: "nail", Kind: api.In, Qty: qty, Price: price, Day: n}
}

func charge(id, n, price, of int) api.Event {
	return api.Event{ID: id, Item: "nail", Kind: api.Charge, Price: price, Of: of, Day: n}
}

func out(id, n, qty int) api.Event {
	return api.Event{ID: id, Item: "nail", Kind: api.Out, Qty: qty, Day: n}
}

func count(id, n, qty int) api.Event {
	return api.Event{ID: id, Item: "nail", Kind: api.Count, Qty: qty, Day: n}
}

// of is an event of another item.
func of(item string, e api.Event) api.Event {
	e.Item = item
	return e
}

// value, short, late and gain are lines.
func value(id, n int) api.Line {
	return api.Line{ID: id, Value: n}
}

func short(id, n, missing int) api.Line {
	return api.Line{ID: id, Value: n, Short: missing}
}

func late(id, n int) api.Line {
	return api.Line{ID: id, Late: n}
}

func gain(id, n int) api.Line {
	return api.Line{ID: id, Value: n, Gain: true}
}

// wantLines fails, unless events came to just these lines.
func wantLines(t *testing.T, r Result, want ...api.Line) {
	t.Helper()
	if !slices.Equal(r.Lines, want) {
		t.Errorf("Lines are %v, not %v", r.Lines, want)
	}
}

// wantLayers fails, unless just these layers are left of an item; without any the item must not be there at all.
func wantLayers(t *testing.T, r Result, item string, want ...api.Layer) {
	t.Helper()
	got, ok := r.Layers[item]
	if !slices.Equal(got, want) || ok != (len(want) > 0) {
		t.Errorf("Layers of %q are %v (there: %t), not %v", item, got, ok, want)
	}
}

// wantSum fails, unless so many are left of an item, of such a value.
func wantSum(t *testing.T, r Result, item string, qty, value int) {
	t.Helper()
	if q, v := r.Sum(item); q != qty || v != value {
		t.Errorf("Sum(%q) = %d, %d, not %d, %d", item, q, v, qty, value)
	}
}

// same tells whether two results are alike.
func same(a, b Result) bool {
	return slices.Equal(a.Lines, b.Lines) && maps.EqualFunc(a.Layers, b.Layers, slices.Equal)
}

// wrongEvents are none of them Right.
func wrongEvents() []api.Event {
	return []api.Event{
		{},
		of("", in(1, 1, 1, 1)),
		of("Nail", in(1, 1, 1, 1)),
		of("1nail", in(1, 1, 1, 1)),
		of("nailnailnai", in(1, 1, 1, 1)),
		{ID: 1, Item: "nail", Kind: 0, Qty: 1, Day: 1},
		{ID: 1, Item: "nail", Kind: 5, Qty: 1, Day: 1},
		{ID: 1, Item: "nail", Kind: -1, Qty: 1, Day: 1},
		in(1, -1, 1, 1),
		in(1, api.MaxDay+1, 1, 1),
		in(1, 1, 0, 1),
		in(1, 1, -1, 1),
		in(1, 1, api.MaxQty+1, 1),
		in(1, 1, 1, -1),
		in(1, 1, 1, api.MaxPrice+1),
		{ID: 1, Item: "nail", Kind: api.In, Qty: 1, Price: 1, Of: 1, Day: 1},
		charge(1, 1, 0, 1),
		charge(1, 1, -1, 1),
		charge(1, 1, api.MaxCharge+1, 1),
		charge(1, 1, 1, 0),
		charge(1, 1, 1, -1),
		{ID: 1, Item: "nail", Kind: api.Charge, Qty: 1, Price: 1, Of: 1, Day: 1},
		out(1, 1, 0),
		out(1, 1, -1),
		out(1, 1, api.MaxQty+1),
		{ID: 1, Item: "nail", Kind: api.Out, Qty: 1, Price: 1, Day: 1},
		{ID: 1, Item: "nail", Kind: api.Out, Qty: 1, Of: 1, Day: 1},
		count(1, 1, -1),
		count(1, 1, api.MaxQty+1),
		{ID: 1, Item: "nail", Kind: api.Count, Qty: 1, Price: 1, Day: 1},
		{ID: 1, Item: "nail", Kind: api.Count, Qty: 1, Of: 1, Day: 1},
		{ID: 1, Item: "nail", Kind: math.MinInt, Qty: math.MinInt, Price: math.MaxInt, Of: math.MinInt, Day: math.MaxInt},
	}
}

// die draws numbers, the same each time.
type die uint32

func (d *die) draw(most int) int {
	*d = *d*1664525 + 1013904223
	return int(*d>>16) % most
}

// drawn are events of several items, in no order, all Right, no two of one ID.
func drawn(seed, n int) []api.Event {
	d := die(seed + 1)
	var l []api.Event
	for i := range n {
		e := in(i+1, d.draw(6), 1+d.draw(9), []int{0, 1, 7, 33, 100}[d.draw(5)])
		switch d.draw(6) {
		case 0:
			e = charge(i+1, d.draw(8), 1+d.draw(100), 1+d.draw(n+2))
		case 1, 2:
			e = out(i+1, d.draw(8), 1+d.draw(12))
		case 3:
			e = count(i+1, d.draw(8), d.draw(12))
		}
		l = append(l, of([]string{"nail", "nail", "screw", "a1"}[d.draw(4)], e))
	}
	return l
}

// 5.1: In

func TestIn(t *testing.T) {
	r := Run([]api.Event{in(1, 1, 2, 10), in(2, 2, 3, 0), in(3, 3, api.MaxQty, api.MaxPrice)})
	wantLines(t, r, value(1, 20), value(2, 0), value(3, api.MaxQty*api.MaxPrice))
	wantLayers(t, r, "nail", api.Layer{ID: 1, Qty: 2, Value: 20}, api.Layer{ID: 2, Qty: 3, Value: 0}, api.Layer{ID: 3, Qty: api.MaxQty, Value: api.MaxQty * api.MaxPrice})
}

// TestInOfOneID: each In is a layer of its own, whatever its ID is.
func TestInOfOneID(t *testing.T) {
	r := Run([]api.Event{in(0, 1, 1, 10), in(0, 2, 1, 20), in(-5, 3, 1, 30), in(math.MinInt, 3, 1, 40)})
	wantLines(t, r, value(0, 10), value(0, 20), value(math.MinInt, 40), value(-5, 30))
	wantLayers(t, r, "nail", api.Layer{ID: 0, Qty: 1, Value: 10}, api.Layer{ID: 0, Qty: 1, Value: 20}, api.Layer{ID: math.MinInt, Qty: 1, Value: 40}, api.Layer{ID: -5, Qty: 1, Value: 30})
}

// 5.1: Charge

func TestCharge(t *testing.T) {
	r := Run([]api.Event{in(1, 1, 2, 10), in(2, 1, 2, 30), charge(3, 2, 5, 2), charge(4, 3, api.MaxCharge, 1), charge(5, 3, 1, 2)})
	wantLines(t, r, value(1, 20), value(2, 60), value(3, 5), value(4, api.MaxCharge), value(5, 1))
	wantLayers(t, r, "nail", api.Layer{ID: 1, Qty: 2, Value: 20 + api.MaxCharge}, api.Layer{ID: 2, Qty: 2, Value: 66})
}

// TestChargeOfPart: what is left of a layer bears all of a charge.
func TestChargeOfPart(t *testing.T) {
	r := Run([]api.Event{in(1, 1, 3, 10), out(2, 2, 2), charge(3, 3, 7, 1), out(4, 3, 1)})
	wantLines(t, r, value(1, 30), value(2, 20), value(3, 7), value(4, 17))
	wantLayers(t, r, "nail")
}

func TestChargeLate(t *testing.T) {
	r := Run([]api.Event{in(1, 1, 2, 10), in(2, 1, 2, 30), out(3, 2, 2), charge(4, 3, 7, 1), charge(5, 3, 9, 2)})
	wantLines(t, r, value(1, 20), value(2, 60), value(3, 20), late(4, 7), value(5, 9))
	wantLayers(t, r, "nail", api.Layer{ID: 2, Qty: 2, Value: 69})
}

// TestChargeOfNone: an ID that never was, one that comes later, one of an Out, and one of another item are not there.
func TestChargeOfNone(t *testing.T) {
	r := Run([]api.Event{in(1, 1, 2, 10), out(2, 1, 1), of("screw", in(3, 1, 1, 1)), in(4, 9, 1, 50),
		charge(5, 3, 11, 8), charge(6, 3, 12, 4), charge(7, 3, 13, 2), charge(8, 3, 14, 3), charge(9, 3, 15, math.MaxInt)})
	wantLines(t, r, value(1, 20), value(3, 1), value(2, 10), late(5, 11), late(6, 12), late(7, 13), late(8, 14), late(9, 15), value(4, 50))
	wantLayers(t, r, "nail", api.Layer{ID: 1, Qty: 1, Value: 10}, api.Layer{ID: 4, Qty: 1, Value: 50})
	wantLayers(t, r, "screw", api.Layer{ID: 3, Qty: 1, Value: 1})
}

// TestChargeAlone: of an item of which there is nothing else, a charge is late, and makes no layer.
func TestChargeAlone(t *testing.T) {
	r := Run([]api.Event{charge(1, 3, 11, 1)})
	wantLines(t, r, late(1, 11))
	wantLayers(t, r, "nail")
	if len(r.Layers) != 0 {
		t.Errorf("Layers are %v", r.Layers)
	}
}

// TestChargeOfFirst: of several layers of an ID the first one that is there is charged.
func TestChargeOfFirst(t *testing.T) {
	l := []api.Event{in(7, 1, 1, 10), in(7, 2, 1, 20), in(7, 3, 1, 30), charge(8, 3, 5, 7), out(9, 4, 1), charge(10, 5, 6, 7)}
	r := Run(l)
	wantLines(t, r, value(7, 10), value(7, 20), value(7, 30), value(8, 5), value(9, 15), value(10, 6))
	wantLayers(t, r, "nail", api.Layer{ID: 7, Qty: 1, Value: 26}, api.Layer{ID: 7, Qty: 1, Value: 30})
}

// TestChargeOfFound: what a Count found is a layer of that Count's ID.
func TestChargeOfFound(t *testing.T) {
	r := Run([]api.Event{count(1, 1, 2), charge(2, 2, 9, 1)})
	wantLines(t, r, gain(1, 0), value(2, 9))
	wantLayers(t, r, "nail", api.Layer{ID: 1, Qty: 2, Value: 9})
}

// TestChargeOnDay: on a day charges are behind all that comes in, and ahead of all that goes out.
func TestChargeOnDay(t *testing.T) {
	r := Run([]api.Event{out(1, 4, 1), charge(2, 4, 5, 3), in(3, 4, 1, 10)})
	wantLines(t, r, value(3, 10), value(2, 5), value(1, 15))
	wantLayers(t, r, "nail")
}

// 5.1: Out

// TestOut: the document's example.
func TestOut(t *testing.T) {
	r := Run([]api.Event{in(1, 1, 2, 10), in(2, 1, 2, 30), out(3, 2, 3)})
	wantLines(t, r, value(1, 20), value(2, 60), value(3, 50))
	wantLayers(t, r, "nail", api.Layer{ID: 2, Qty: 1, Value: 30})
	wantSum(t, r, "nail", 1, 30)
}

// TestOutEdges: of part of a layer, of just one, of one and part of the next, of all, and of more than there is.
func TestOutEdges(t *testing.T) {
	for _, c := range []struct {
		qty  int
		line api.Line
		left []api.Layer
	}{
		{1, value(9, 3), []api.Layer{{ID: 1, Qty: 2, Value: 7}, {ID: 2, Qty: 2, Value: 60}}},
		{2, value(9, 6), []api.Layer{{ID: 1, Qty: 1, Value: 4}, {ID: 2, Qty: 2, Value: 60}}},
		{3, value(9, 10), []api.Layer{{ID: 2, Qty: 2, Value: 60}}},
		{4, value(9, 40), []api.Layer{{ID: 2, Qty: 1, Value: 30}}},
		{5, value(9, 70), nil},
		{6, short(9, 70, 1), nil},
		{api.MaxQty, short(9, 70, api.MaxQty-5), nil},
	} {
		r := Run([]api.Event{in(1, 1, 3, 3), charge(3, 1, 1, 1), in(2, 2, 2, 30), out(9, 2, c.qty)})
		wantLines(t, r, value(1, 9), value(3, 1), value(2, 60), c.line)
		wantLayers(t, r, "nail", c.left...)
	}
}

func TestOutOfNone(t *testing.T) {
	r := Run([]api.Event{out(1, 1, 4), in(2, 2, 1, 10), out(3, 2, 1), out(4, 2, 1), of("screw", out(5, 2, 7))})
	wantLines(t, r, short(1, 0, 4), value(2, 10), value(3, 10), short(4, 0, 1), short(5, 0, 7))
	if len(r.Layers) != 0 {
		t.Errorf("Layers are %v", r.Layers)
	}
}

// TestOutShortIsForgotten: what was missing is not taken from what comes in later.
func TestOutShortIsForgotten(t *testing.T) {
	r := Run([]api.Event{in(1, 1, 1, 10), out(2, 1, 4), in(3, 2, 2, 20)})
	wantLines(t, r, value(1, 10), short(2, 10, 3), value(3, 40))
	wantLayers(t, r, "nail", api.Layer{ID: 3, Qty: 2, Value: 40})
}

// TestOutCut: parts are cut, one after the other, of what is left then; the last one takes what is over.
func TestOutCut(t *testing.T) {
	r := Run([]api.Event{in(1, 1, 7, 0), charge(2, 1, 10, 1), out(3, 2, 1), out(4, 2, 2), out(5, 2, 3), out(6, 2, 1)})
	wantLines(t, r, value(1, 0), value(2, 10), value(3, 1), value(4, 3), value(5, 4), value(6, 2))
	wantLayers(t, r, "nail")
}

// TestOutOfNoValue: a layer is there as long as there are any of it, though it has no value.
func TestOutOfNoValue(t *testing.T) {
	r := Run([]api.Event{in(1, 1, 2, 0), in(2, 1, 1, 5), out(3, 2, 1)})
	wantLines(t, r, value(1, 0), value(2, 5), value(3, 0))
	wantLayers(t, r, "nail", api.Layer{ID: 1, Qty: 1, Value: 0}, api.Layer{ID: 2, Qty: 1, Value: 5})
}

// TestOutOfMuch: values as great as a book may make them, and greater than money.Part takes, are neither spoilt nor lost.
func TestOutOfMuch(t *testing.T) {
	for _, charges := range []int{api.MaxLive, 199, 200, 1000} {
		l := []api.Event{in(1, 1, api.MaxQty, api.MaxPrice)}
		for i := range charges {
			l = append(l, charge(2+i, 2, api.MaxCharge-1, 1))
		}
		all := api.MaxQty*api.MaxPrice + charges*(api.MaxCharge-1)
		part := new(big.Int).Mul(big.NewInt(int64(all)), big.NewInt(99_998))
		first := int(part.Div(part, big.NewInt(api.MaxQty)).Int64())
		r := Run(append(l, out(5000, 3, 99_998)))
		if got := r.Lines[len(r.Lines)-1]; got != value(5000, first) {
			t.Errorf("of %d, %d charges: %v, not %d", all, charges, got, first)
		}
		wantLayers(t, r, "nail", api.Layer{ID: 1, Qty: 2, Value: all - first})
		r = Run(append(l, out(5000, 3, api.MaxQty)))
		if got := r.Lines[len(r.Lines)-1]; got != value(5000, all) {
			t.Errorf("all of %d, %d charges: %v", all, charges, got)
		}
		wantLayers(t, r, "nail")
	}
}

// 5.1: Count

// TestCountEdges: of none, of fewer, of one layer, of as many, of more than there are.
func TestCountEdges(t *testing.T) {
	both := []api.Layer{{ID: 1, Qty: 3, Value: 10}, {ID: 2, Qty: 2, Value: 60}}
	for _, c := range []struct {
		qty  int
		line api.Line
		left []api.Layer
	}{
		{0, value(9, 70), nil},
		{1, value(9, 40), []api.Layer{{ID: 2, Qty: 1, Value: 30}}},
		{2, value(9, 10), both[1:]},
		{3, value(9, 6), []api.Layer{{ID: 1, Qty: 1, Value: 4}, both[1]}},
		{4, value(9, 3), []api.Layer{{ID: 1, Qty: 2, Value: 7}, both[1]}},
		{5, value(9, 0), both},
		{6, gain(9, 30), []api.Layer{both[0], both[1], {ID: 9, Qty: 1, Value: 30}}},
		{api.MaxQty, gain(9, 30*(api.MaxQty-5)), []api.Layer{both[0], both[1], {ID: 9, Qty: api.MaxQty - 5, Value: 30 * (api.MaxQty - 5)}}},
	} {
		r := Run([]api.Event{in(1, 1, 3, 3), charge(3, 1, 1, 1), in(2, 2, 2, 30), count(9, 2, c.qty)})
		wantLines(t, r, value(1, 9), value(3, 1), value(2, 60), c.line)
		wantLayers(t, r, "nail", c.left...)
	}
}

// TestCountAheadOfIn: what is found ahead of any In costs nothing, and what of other items came in says nothing of it.
func TestCountAheadOfIn(t *testing.T) {
	r := Run([]api.Event{of("screw", in(1, 1, 1, 70)), count(2, 2, 4), in(3, 3, 1, 10), count(4, 3, 6)})
	wantLines(t, r, value(1, 70), gain(2, 0), value(3, 10), gain(4, 10))
	wantLayers(t, r, "nail", api.Layer{ID: 2, Qty: 4, Value: 0}, api.Layer{ID: 3, Qty: 1, Value: 10}, api.Layer{ID: 4, Qty: 1, Value: 10})
}

func TestCountOfNone(t *testing.T) {
	r := Run([]api.Event{count(1, 1, 0)})
	wantLines(t, r, value(1, 0))
	wantLayers(t, r, "nail")
}

// TestCountPrice: the last In's Price, charges aside, though it is gone, though it was 0, and though a Count was behind it.
func TestCountPrice(t *testing.T) {
	r := Run([]api.Event{in(1, 1, 1, 10), charge(2, 1, 99, 1), out(3, 1, 1), count(4, 1, 2), count(5, 2, 3), in(6, 3, 1, 0), count(7, 3, 5), in(8, 4, 1, 40), in(9, 4, 1, 50), count(10, 4, 8)})
	wantLines(t, r, value(1, 10), value(2, 99), value(3, 109), gain(4, 20), gain(5, 10), value(6, 0), gain(7, 0), value(8, 40), value(9, 50), gain(10, 50))
	wantLayers(t, r, "nail", api.Layer{ID: 4, Qty: 2, Value: 20}, api.Layer{ID: 5, Qty: 1, Value: 10}, api.Layer{ID: 6, Qty: 1, Value: 0}, api.Layer{ID: 7, Qty: 1, Value: 0}, api.Layer{ID: 8, Qty: 1, Value: 40}, api.Layer{ID: 9, Qty: 1, Value: 50}, api.Layer{ID: 10, Qty: 1, Value: 50})
}

// TestCountFoundGoesOut: what was found is the last layer then, and goes out like all others.
func TestCountFoundGoesOut(t *testing.T) {
	r := Run([]api.Event{in(1, 1, 1, 10), count(2, 1, 3), in(3, 2, 1, 50), out(4, 3, 2), count(5, 4, 1)})
	wantLines(t, r, value(1, 10), gain(2, 20), value(3, 50), value(4, 20), value(5, 10))
	wantLayers(t, r, "nail", api.Layer{ID: 3, Qty: 1, Value: 50})
}

// 5.1: the order, and the items

// TestOrder: by day, then kind, then ID, however they are told.
func TestOrder(t *testing.T) {
	inOrder := []api.Event{
		out(8, 0, 1), in(3, 1, 2, 10), in(5, 1, 2, 30), charge(7, 1, 4, 3), charge(9, 1, 6, 5),
		out(2, 1, 1), out(4, 1, 1), count(1, 1, 3), of("screw", count(6, 1, 2)), in(-1, 2, 1, 1),
	}
	want := Run(inOrder)
	wantLines(t, want, short(8, 0, 1), value(3, 20), value(5, 60), value(7, 4), value(9, 6), value(2, 12), value(4, 12), gain(1, 30), gain(6, 0), value(-1, 1))
	wantLayers(t, want, "nail", api.Layer{ID: 5, Qty: 2, Value: 66}, api.Layer{ID: 1, Qty: 1, Value: 30}, api.Layer{ID: -1, Qty: 1, Value: 1})
	wantLayers(t, want, "screw", api.Layer{ID: 6, Qty: 2, Value: 0})
	d := die(1)
	for range 100 {
		l := slices.Clone(inOrder)
		for i := range l {
			j := d.draw(i + 1)
			l[i], l[j] = l[j], l[i]
		}
		if got := Run(l); !same(got, want) {
			t.Errorf("%v: %v, not %v", l, got, want)
		}
	}
}

// TestAlike: events that are alike in their order stay as they stand, those of other items, too.
func TestAlike(t *testing.T) {
	r := Run([]api.Event{in(2, 1, 1, 30), in(2, 1, 1, 10), of("screw", in(2, 1, 1, 20)), in(1, 1, 1, 5), in(2, 1, 1, 20), out(3, 1, 3), of("screw", out(3, 1, 2)), out(3, 1, 1)})
	wantLines(t, r, value(1, 5), value(2, 30), value(2, 10), value(2, 20), value(2, 20), value(3, 45), short(3, 20, 1), value(3, 20))
	wantLayers(t, r, "nail")
}

// TestAlikeOfMany: so many, on days so mixed, that a sort which does not keep those that are alike shows.
func TestAlikeOfMany(t *testing.T) {
	const days = 4
	d := die(3)
	var l []api.Event
	var lines [days][]api.Line
	layers := map[string]*[days][]api.Layer{"a": {}, "b": {}, "c": {}}
	for i := range 300 {
		item, n := []string{"a", "b", "c"}[d.draw(3)], d.draw(days)
		l = append(l, of(item, in(1, n, 1, i)))
		lines[n] = append(lines[n], value(1, i))
		layers[item][n] = append(layers[item][n], api.Layer{ID: 1, Qty: 1, Value: i})
	}
	r := Run(l)
	wantLines(t, r, slices.Concat(lines[:]...)...)
	for item, byDay := range layers {
		wantLayers(t, r, item, slices.Concat(byDay[:]...)...)
	}
}

func TestItems(t *testing.T) {
	r := Run([]api.Event{in(1, 1, 2, 10), of("screw", in(2, 1, 3, 5)), of("a1", in(3, 1, 1, 7)), out(4, 2, 1), of("screw", out(5, 2, 4)), of("a1", charge(6, 2, 2, 3)), of("z", out(7, 2, 1)), of("z", charge(8, 2, 1, 1))})
	wantLines(t, r, value(1, 20), value(2, 15), value(3, 7), value(6, 2), late(8, 1), value(4, 10), short(5, 15, 1), short(7, 0, 1))
	wantLayers(t, r, "nail", api.Layer{ID: 1, Qty: 1, Value: 10})
	wantLayers(t, r, "screw")
	wantLayers(t, r, "a1", api.Layer{ID: 3, Qty: 1, Value: 9})
	wantLayers(t, r, "z")
	if len(r.Layers) != 2 {
		t.Errorf("Layers are %v", r.Layers)
	}
}

// TestGoneAndBack: an item whose layers are all gone is gone, and comes in again as if new, but for its last price.
func TestGoneAndBack(t *testing.T) {
	l := []api.Event{in(1, 1, 1, 10), out(2, 2, 1)}
	r := Run(l)
	wantLayers(t, r, "nail")
	wantSum(t, r, "nail", 0, 0)
	r = Run(append(l, count(3, 3, 1), charge(4, 4, 5, 1)))
	wantLines(t, r, value(1, 10), value(2, 10), gain(3, 10), late(4, 5))
	wantLayers(t, r, "nail", api.Layer{ID: 3, Qty: 1, Value: 10})
}

func TestNoEvents(t *testing.T) {
	for _, l := range [][]api.Event{nil, {}} {
		r := Run(l)
		if len(r.Lines) != 0 || len(r.Layers) != 0 {
			t.Errorf("Run(%v) = %v", l, r)
		}
		wantSum(t, r, "nail", 0, 0)
	}
}

// TestWrong: events that are not Right come to nothing, alone and among others.
func TestWrong(t *testing.T) {
	r := Run(wrongEvents())
	if len(r.Lines) != 0 || len(r.Layers) != 0 {
		t.Errorf("wrong events come to %v", r)
	}
	right := []api.Event{in(1, 0, 5, 10), charge(2, 1, 3, 1), in(3, 1, 1, 20), out(4, 2, 2), count(5, 3, 9)}
	want := Run(right)
	for _, e := range wrongEvents() {
		for i := range len(right) + 1 {
			l := slices.Insert(slices.Clone(right), i, e)
			if got := Run(l); !same(got, want) {
				t.Errorf("Run(%v) = %v, not %v", l, got, want)
			}
		}
	}
}

// 5.2

func TestSum(t *testing.T) {
	r := Run([]api.Event{in(1, 1, 2, 10), in(2, 1, 5, 30), of("screw", in(3, 1, 3, 5)), of("a1", in(4, 1, 1, 1)), out(5, 2, 1), count(6, 2, 8), of("a1", out(7, 2, 1)), charge(8, 3, 7, 2)})
	wantSum(t, r, "nail", 8, 10+157+60)
	wantSum(t, r, "screw", 3, 15)
	for _, item := range []string{"a1", "never", "", "Nail", "nail ", "\xff"} {
		wantSum(t, r, item, 0, 0)
	}
}

// TestSumOfAny: what a Result has is what counts, wherever it comes from.
func TestSumOfAny(t *testing.T) {
	wantSum(t, Result{}, "nail", 0, 0)
	r := Result{Layers: map[string][]api.Layer{"": {{Qty: 3, Value: -4}, {Qty: -1, Value: 9}}, "Nail": {{ID: 5, Qty: 1, Value: 1}}, "empty": {}}}
	wantSum(t, r, "", 2, 5)
	wantSum(t, r, "Nail", 1, 1)
	wantSum(t, r, "empty", 0, 0)
	r.Layers["much"] = []api.Layer{{Qty: math.MaxInt, Value: math.MinInt}, {Qty: 1, Value: -1}}
	wantSum(t, r, "much", math.MinInt, math.MaxInt)
}

// What holds of all of it.

// TestNothingMadeNorLost: what was put, in number and in value, was taken, or is there.
func TestNothingMadeNorLost(t *testing.T) {
	for seed := range 300 {
		l := drawn(seed, seed%40)
		slices.SortFunc(l, event.Compare)
		r := Run(l)
		if len(r.Lines) != len(l) {
			t.Fatalf("%d lines of %d events", len(r.Lines), len(l))
		}
		put := map[string]int{}
		for i, e := range l {
			y := r.Lines[i]
			if y.ID != e.ID || y.Value < 0 || y.Short < 0 || y.Late < 0 {
				t.Fatalf("%v came to %v", e, y)
			}
			if e.Kind == api.Charge && y.Value+y.Late != e.Price || e.Kind == api.In && y.Value != e.Qty*e.Price {
				t.Fatalf("%v came to %v", e, y)
			}
			if e.Kind == api.Out || e.Kind == api.Count && !y.Gain {
				put[e.Item] -= y.Value
			} else {
				put[e.Item] += y.Value
			}
		}
		for item, want := range put {
			if _, got := r.Sum(item); got != want {
				t.Fatalf("%v: of %s there are %d, and %d were put", l, item, got, want)
			}
		}
	}
}

// TestNumbers: how many there are hangs on how many came and went alone; behind a Count it is what was counted.
func TestNumbers(t *testing.T) {
	for seed := range 100 {
		l := drawn(seed, 25)
		slices.SortFunc(l, event.Compare)
		there := map[string]int{}
		for i, e := range l {
			r := Run(l[:i+1])
			switch e.Kind {
			case api.In:
				there[e.Item] += e.Qty
			case api.Out:
				if want := max(0, e.Qty-there[e.Item]); r.Lines[i].Short != want {
					t.Fatalf("%v: %d were missing, not %d", e, r.Lines[i].Short, want)
				}
				there[e.Item] = max(0, there[e.Item]-e.Qty)
			case api.Count:
				if want := there[e.Item] < e.Qty; r.Lines[i].Gain != want {
					t.Fatalf("%v: %v", e, r.Lines[i])
				}
				there[e.Item] = e.Qty
			}
			if qty, _ := r.Sum(e.Item); qty != there[e.Item] {
				t.Fatalf("%v: there are %d, not %d", e, qty, there[e.Item])
			}
		}
		for item, layers := range Run(l).Layers {
			if len(layers) == 0 || slices.ContainsFunc(layers, func(y api.Layer) bool { return y.Qty < 1 || y.Value < 0 }) {
				t.Fatalf("%v: of %s there is %v", l, item, layers)
			}
		}
	}
}

// TestLaterChangesNothingEarlier: what events came to stands, whatever comes behind them.
func TestLaterChangesNothingEarlier(t *testing.T) {
	for seed := range 100 {
		l := drawn(seed, 25)
		slices.SortFunc(l, event.Compare)
		all := Run(l)
		for i := range l {
			if got := Run(l[:i]).Lines; !slices.Equal(got, all.Lines[:i]) {
				t.Fatalf("%v, and %v behind %v", got, all.Lines[:i], l[i:])
			}
		}
	}
}

// TestEachForItself: an item alone comes to what it comes to among others.
func TestEachForItself(t *testing.T) {
	for seed := range 100 {
		l := drawn(seed, 30)
		all := Run(l)
		lines := 0
		for _, item := range []string{"nail", "screw", "a1"} {
			var own []api.Event
			for _, e := range l {
				if e.Item == item {
					own = append(own, e)
				}
			}
			alone := Run(own)
			lines += len(alone.Lines)
			// No two events have one ID, so a line of it tells whose it is.
			for _, y := range alone.Lines {
				if !slices.Contains(all.Lines, y) {
					t.Fatalf("%v of %s alone: not among %v", y, item, all.Lines)
				}
			}
			wantLayers(t, all, item, alone.Layers[item]...)
		}
		if lines != len(all.Lines) {
			t.Fatalf("%d lines, and %d", lines, len(all.Lines))
		}
	}
}

// TestWhoTakesAllTakesAll: an Out, and a Count, of all that there is takes all value, and leaves nothing.
func TestWhoTakesAllTakesAll(t *testing.T) {
	for seed := range 100 {
		l := drawn(seed, 25)
		before := Run(l)
		for item := range before.Layers {
			qty, worth := before.Sum(item)
			for _, e := range []api.Event{of(item, out(99, 50, qty)), of(item, count(99, 50, 0))} {
				r := Run(append(slices.Clone(l), e))
				if got := r.Lines[len(r.Lines)-1]; got != value(99, worth) {
					t.Fatalf("%v: %v, not %d", e, got, worth)
				}
				wantLayers(t, r, item)
			}
		}
	}
}

// TestGiven: no list that is handed in is written into, nor what stands behind it.
func TestGiven(t *testing.T) {
	whole := append(drawn(5, 40), wrongEvents()...)
	before := slices.Clone(whole)
	for n := range len(whole) + 1 {
		Run(whole[:n])
	}
	if !slices.Equal(whole, before) {
		t.Errorf("what was handed in is %v now", whole)
	}
}

// TestFresh: who writes into an answer, or behind it, changes nothing of another one, nor of what was handed in.
func TestFresh(t *testing.T) {
	l := drawn(7, 40)
	before, want, other := slices.Clone(l), Run(l), Run(l)
	r := Run(l)
	for i := range r.Lines[:cap(r.Lines)] {
		r.Lines[:cap(r.Lines)][i] = api.Line{ID: -9}
	}
	for item, layers := range r.Layers {
		layers = layers[:cap(layers)]
		for i := range layers {
			layers[i] = api.Layer{ID: -9}
		}
		r.Layers[item] = nil
	}
	r.Layers["new"] = []api.Layer{{ID: 1}}
	if !slices.Equal(l, before) || !same(want, other) || !same(Run(l), want) {
		t.Error("what was answered changes what else there is")
	}
	// No two lists of one answer share memory.
	nails := want.Layers["nail"]
	for i := range nails[:cap(nails)] {
		nails[:cap(nails)][i] = api.Layer{ID: -9}
	}
	wantLines(t, want, other.Lines...)
	wantLayers(t, want, "screw", other.Layers["screw"]...)
	wantLayers(t, want, "a1", other.Layers["a1"]...)
	// An answer may be written into, though nothing is in it.
	none := Run(nil)
	none.Layers["new"] = []api.Layer{{ID: 1, Qty: 1, Value: 1}}
	wantSum(t, none, "new", 1, 1)
	wantSum(t, Run(nil), "new", 0, 0)
}
