package book

import (
	"errors"
	"math"
	"slices"
	"testing"

	"tallyman/api"
	"tallyman/event"
)

// wantErrno fails, unless an error is just that Errno, without a place.
func wantErrno(t *testing.T, what string, err error, want api.Errno) {
	t.Helper()
	var at *api.At
	if api.Tell(err) != want || errors.As(err, &at) {
		t.Errorf("%s: error %v, not %v", what, err, want)
	}
}

// in, out, count and charge are events of one item.
func in(n, qty, price int) api.Event {
	return api.Event{Item: "nail", Kind: api.In, Qty: qty, Price: price, Day: n}
}

func out(n, qty int) api.Event {
	return api.Event{Item: "nail", Kind: api.Out, Qty: qty, Day: n}
}

func count(n, qty int) api.Event {
	return api.Event{Item: "nail", Kind: api.Count, Qty: qty, Day: n}
}

func charge(n, price, of int) api.Event {
	return api.Event{Item: "nail", Kind: api.Charge, Price: price, Of: of, Day: n}
}

// as is an event with an ID.
func as(id int, e api.Event) api.Event {
	e.ID = id
	return e
}

// post writes an event down, and fails, unless it has that ID then.
func post(t *testing.T, b *Book, e api.Event, want int) {
	t.Helper()
	if id, err := b.Post(e); id != want || err != nil {
		t.Fatalf("Post(%v) = %d, %v, not %d", e, id, err, want)
	}
}

// correct corrects an event, and fails, if it may not be.
func correct(t *testing.T, b *Book, id int, e api.Event) {
	t.Helper()
	if err := b.Correct(id, e); err != nil {
		t.Fatalf("Correct(%d, %v) = %v", id, e, err)
	}
}

// void voids an event, and fails, if it may not be.
func void(t *testing.T, b *Book, id int) {
	t.Helper()
	if err := b.Void(id); err != nil {
		t.Fatalf("Void(%d) = %v", id, err)
	}
}

// wantTurn fails, unless there were so many turns.
func wantTurn(t *testing.T, b *Book, want int) {
	t.Helper()
	if got := b.Turn(); got != want {
		t.Errorf("Turn() = %d, not %d", got, want)
	}
}

// wantAs fails, unless just these events were known behind a turn.
func wantAs(t *testing.T, b *Book, turn int, want ...api.Event) {
	t.Helper()
	if got := b.As(turn); !slices.Equal(got, want) {
		t.Errorf("As(%d) = %v, not %v", turn, got, want)
	}
}

// wantHistory fails, unless an ID has just these versions.
func wantHistory(t *testing.T, b *Book, id int, want ...Version) {
	t.Helper()
	if got := b.History(id); !slices.Equal(got, want) {
		t.Errorf("History(%d) = %v, not %v", id, got, want)
	}
}

// state is all that a book tells.
type state struct {
	turn      int
	events    [][]api.Event
	histories [][]Version
}

func tells(b *Book) state {
	s := state{turn: b.Turn()}
	for turn := -1; turn <= b.Turn()+1; turn++ {
		s.events = append(s.events, b.As(turn))
	}
	for id := -1; id <= api.MaxLive+1; id++ {
		s.histories = append(s.histories, b.History(id))
	}
	return s
}

func (s state) equal(o state) bool {
	return s.turn == o.turn && slices.EqualFunc(s.events, o.events, slices.Equal) && slices.EqualFunc(s.histories, o.histories, slices.Equal)
}

// wrongEvents are none of them Right.
func wrongEvents() []api.Event {
	return []api.Event{
		{},
		{Item: "", Kind: api.In, Qty: 1, Day: 1},
		{Item: "Nail", Kind: api.Out, Qty: 1, Day: 1},
		{Item: "nail", Kind: 0, Qty: 1, Day: 1},
		{Item: "nail", Kind: 5, Qty: 1, Day: 1},
		in(-1, 1, 1),
		in(api.MaxDay+1, 1, 1),
		in(1, 0, 1),
		in(1, api.MaxQty+1, 1),
		in(1, 1, -1),
		in(1, 1, api.MaxPrice+1),
		out(1, 0),
		count(1, -1),
		charge(1, 0, 1),
		charge(1, 1, 0),
		{Item: "nail", Kind: api.Out, Qty: 1, Price: 1, Day: 1},
		{Item: "nail", Kind: api.Count, Qty: 1, Of: 1, Day: 1},
		{ID: 1, Item: "nail", Kind: math.MinInt, Qty: math.MinInt, Price: math.MaxInt, Of: math.MinInt, Day: math.MaxInt},
	}
}

// full is a book of MaxLive versions, each of them an In of its own.
func full(t *testing.T) *Book {
	t.Helper()
	var b Book
	for i := range api.MaxLive {
		post(t, &b, in(i, 1, i), i+1)
	}
	return &b
}

// 4.1

func TestZero(t *testing.T) {
	var b Book
	wantTurn(t, &b, 0)
	for _, n := range []int{math.MinInt, -1, 0, 1, 2, math.MaxInt} {
		wantAs(t, &b, n)
		wantHistory(t, &b, n)
		wantErrno(t, "Correct", b.Correct(n, in(1, 1, 1)), api.ErrMissing)
		wantErrno(t, "Void", b.Void(n), api.ErrMissing)
	}
	wantTurn(t, &b, 0)
	post(t, &b, in(1, 1, 1), 1)
}

func TestPost(t *testing.T) {
	var b Book
	l := []api.Event{in(3, 2, 10), out(5, 1), charge(9, 4, 1), count(12, 0), in(12+1, api.MaxQty, api.MaxPrice)}
	for i, e := range l {
		post(t, &b, e, i+1)
		wantTurn(t, &b, i+1)
		wantHistory(t, &b, i+1, Version{Event: as(i+1, e), From: i + 1})
	}
	wantAs(t, &b, -1, as(1, l[0]), as(2, l[1]), as(3, l[2]), as(4, l[3]), as(5, l[4]))
}

// TestPostGivesID: what ID an event comes with is nothing to Post.
func TestPostGivesID(t *testing.T) {
	var b Book
	for i, id := range []int{7, 0, -1, 1, math.MaxInt, math.MinInt} {
		post(t, &b, as(id, in(i, 1, 1)), i+1)
		wantHistory(t, &b, i+1, Version{Event: as(i+1, in(i, 1, 1)), From: i + 1})
	}
	wantHistory(t, &b, 7)
}

// TestPostAlike: an event may happen twice.
func TestPostAlike(t *testing.T) {
	var b Book
	post(t, &b, out(4, 1), 1)
	post(t, &b, out(4, 1), 2)
	wantAs(t, &b, 2, as(1, out(4, 1)), as(2, out(4, 1)))
}

// TestPostBehind: an ID is one more than the last one that Post gave, whatever was done between.
func TestPostBehind(t *testing.T) {
	var b Book
	post(t, &b, in(1, 1, 1), 1)
	correct(t, &b, 1, in(1, 2, 1))
	post(t, &b, in(2, 1, 1), 2)
	void(t, &b, 2)
	post(t, &b, in(3, 1, 1), 3)
	void(t, &b, 1)
	void(t, &b, 3)
	post(t, &b, in(4, 1, 1), 4)
	if _, err := b.Post(in(-1, 1, 1)); err == nil {
		t.Error("Post of a wrong event is no error")
	}
	post(t, &b, in(5, 1, 1), 5)
	wantTurn(t, &b, 9)
	wantHistory(t, &b, 5, Version{Event: as(5, in(5, 1, 1)), From: 9})
}

func TestCorrect(t *testing.T) {
	var b Book
	post(t, &b, in(3, 2, 10), 1)
	post(t, &b, out(5, 1), 2)
	correct(t, &b, 1, in(3, 3, 10))
	wantTurn(t, &b, 3)
	wantHistory(t, &b, 1, Version{as(1, in(3, 2, 10)), 1, 3}, Version{as(1, in(3, 3, 10)), 3, 0})
	wantHistory(t, &b, 2, Version{as(2, out(5, 1)), 2, 0})
	correct(t, &b, 1, in(4, 3, 11))
	wantTurn(t, &b, 4)
	wantHistory(t, &b, 1, Version{as(1, in(3, 2, 10)), 1, 3}, Version{as(1, in(3, 3, 10)), 3, 4}, Version{as(1, in(4, 3, 11)), 4, 0})
	wantAs(t, &b, 2, as(1, in(3, 2, 10)), as(2, out(5, 1)))
	wantAs(t, &b, 3, as(1, in(3, 3, 10)), as(2, out(5, 1)))
	wantAs(t, &b, 4, as(1, in(4, 3, 11)), as(2, out(5, 1)))
}

// TestCorrectAll: item, kind and day may have been others; its ID stays; and what is corrected may be as it was.
func TestCorrectAll(t *testing.T) {
	var b Book
	post(t, &b, in(3, 2, 10), 1)
	screw := api.Event{Item: "screw", Kind: api.Charge, Price: 5, Of: 1, Day: 50}
	correct(t, &b, 1, as(9, screw))
	correct(t, &b, 1, as(-4, screw))
	wantHistory(t, &b, 1, Version{as(1, in(3, 2, 10)), 1, 2}, Version{as(1, screw), 2, 3}, Version{as(1, screw), 3, 0})
	wantHistory(t, &b, 9)
	wantAs(t, &b, -1, as(1, screw))
}

func TestVoid(t *testing.T) {
	var b Book
	post(t, &b, in(3, 2, 10), 1)
	post(t, &b, out(5, 1), 2)
	correct(t, &b, 2, out(5, 2))
	void(t, &b, 2)
	wantTurn(t, &b, 4)
	wantHistory(t, &b, 1, Version{as(1, in(3, 2, 10)), 1, 0})
	wantHistory(t, &b, 2, Version{as(2, out(5, 1)), 2, 3}, Version{as(2, out(5, 2)), 3, 4})
	wantAs(t, &b, 3, as(1, in(3, 2, 10)), as(2, out(5, 2)))
	wantAs(t, &b, 4, as(1, in(3, 2, 10)))
	void(t, &b, 1)
	wantTurn(t, &b, 5)
	wantHistory(t, &b, 1, Version{as(1, in(3, 2, 10)), 1, 5})
	wantAs(t, &b, 5)
}

// TestMissing: an ID that was voided, and one that was never given, are not known.
func TestMissing(t *testing.T) {
	var b Book
	post(t, &b, in(3, 2, 10), 1)
	post(t, &b, out(5, 1), 2)
	correct(t, &b, 2, out(5, 2))
	void(t, &b, 2)
	before := tells(&b)
	for _, id := range []int{math.MinInt, -1, 0, 2, 3, 4, api.MaxLive, math.MaxInt} {
		wantErrno(t, "Void", b.Void(id), api.ErrMissing)
		wantErrno(t, "Correct", b.Correct(id, out(5, 3)), api.ErrMissing)
		for _, e := range wrongEvents() {
			wantErrno(t, "Correct of a wrong event", b.Correct(id, e), api.ErrMissing)
		}
	}
	if !before.equal(tells(&b)) {
		t.Errorf("what is refused changes the book: %v", b)
	}
	post(t, &b, out(5, 1), 3)
}

func TestWrong(t *testing.T) {
	var b Book
	post(t, &b, in(3, 2, 10), 1)
	correct(t, &b, 1, in(3, 2, 11))
	before := tells(&b)
	for _, e := range wrongEvents() {
		id, err := b.Post(e)
		wantErrno(t, "Post", err, api.ErrArg)
		if id != 0 {
			t.Errorf("Post(%v) = %d, with an error", e, id)
		}
		wantErrno(t, "Correct", b.Correct(1, e), api.ErrArg)
	}
	if !before.equal(tells(&b)) {
		t.Errorf("what is refused changes the book: %v", b)
	}
	post(t, &b, in(3, 2, 12), 2)
	wantTurn(t, &b, 3)
}

func TestFull(t *testing.T) {
	b := full(t)
	before := tells(b)
	id, err := b.Post(in(3, 2, 10))
	wantErrno(t, "Post", err, api.ErrFull)
	if id != 0 {
		t.Errorf("Post = %d, with an error", id)
	}
	wantErrno(t, "Correct", b.Correct(1, in(3, 2, 10)), api.ErrFull)
	wantErrno(t, "Correct", b.Correct(api.MaxLive, in(3, 2, 10)), api.ErrFull)
	wantErrno(t, "Correct of none", b.Correct(api.MaxLive+1, in(3, 2, 10)), api.ErrMissing)
	wantErrno(t, "Void of none", b.Void(api.MaxLive+1), api.ErrMissing)
	for _, e := range wrongEvents() {
		_, err := b.Post(e)
		wantErrno(t, "Post of a wrong event", err, api.ErrArg)
		wantErrno(t, "Correct of a wrong event", b.Correct(1, e), api.ErrArg)
		wantErrno(t, "Correct of none, of a wrong event", b.Correct(0, e), api.ErrMissing)
	}
	if !before.equal(tells(b)) {
		t.Error("what is refused changes the book")
	}
}

// TestFullOfCorrected: versions that are known no more take room, too; the last one has room yet.
func TestFullOfCorrected(t *testing.T) {
	var b Book
	post(t, &b, in(0, 1, 0), 1)
	for i := range api.MaxLive - 2 {
		correct(t, &b, 1, in(0, 1, i))
	}
	post(t, &b, out(7, 1), 2)
	wantTurn(t, &b, api.MaxLive)
	_, err := b.Post(out(8, 1))
	wantErrno(t, "Post", err, api.ErrFull)
	wantErrno(t, "Correct", b.Correct(1, in(0, 1, 0)), api.ErrFull)
	if n := len(b.History(1)); n != api.MaxLive-1 {
		t.Errorf("there are %d versions of 1", n)
	}
}

// TestFullVoided: Void needs no room, and makes none.
func TestFullVoided(t *testing.T) {
	b := full(t)
	for i := range api.MaxLive {
		void(t, b, i+1)
		wantTurn(t, b, api.MaxLive+1+i)
		wantErrno(t, "Void twice", b.Void(i+1), api.ErrMissing)
		wantErrno(t, "Correct of what was voided", b.Correct(i+1, out(1, 1)), api.ErrMissing)
		_, err := b.Post(out(1, 1))
		wantErrno(t, "Post", err, api.ErrFull)
		if got := len(b.As(-1)); got != api.MaxLive-1-i {
			t.Errorf("%d are known behind the turn %d", got, b.Turn())
		}
	}
	wantAs(t, b, -1)
	if got := len(b.As(api.MaxLive)); got != api.MaxLive {
		t.Errorf("%d were known behind the turn %d", got, api.MaxLive)
	}
}

// 4.2

func TestAsTurns(t *testing.T) {
	var b Book
	post(t, &b, in(3, 2, 10), 1)
	correct(t, &b, 1, in(2, 2, 10))
	post(t, &b, out(1, 1), 2)
	void(t, &b, 1)
	known := [][]api.Event{
		nil,
		{as(1, in(3, 2, 10))},
		{as(1, in(2, 2, 10))},
		{as(2, out(1, 1)), as(1, in(2, 2, 10))},
		{as(2, out(1, 1))},
	}
	for turn, l := range known {
		wantAs(t, &b, turn, l...)
	}
	for _, turn := range []int{math.MinInt, -4, -1, 5, 6, api.MaxLive, math.MaxInt} {
		wantAs(t, &b, turn, known[4]...)
	}
}

// TestAsOrder: by day, then kind, then ID, however they were told.
func TestAsOrder(t *testing.T) {
	inOrder := []api.Event{
		in(6, 9, 9), count(6, 0),
		in(7, 3, 1), in(7, 1, 3), charge(7, 5, 1), out(7, 9), out(7, 1), count(7, 4), count(7, 2),
		in(8, 1, 1), {Item: "a", Kind: api.Out, Qty: 1, Day: 8},
	}
	var b Book
	for _, i := range []int{10, 7, 5, 2, 4, 9, 1, 3, 6, 8, 0} {
		if _, err := b.Post(inOrder[i]); err != nil {
			t.Fatal(err)
		}
	}
	got := b.As(-1)
	for i := range got {
		got[i].ID = 0
	}
	if !slices.Equal(got, inOrder) {
		t.Errorf("As(-1) = %v, not %v", got, inOrder)
	}
	if got := b.As(5); !slices.IsSortedFunc(got, event.Compare) || len(got) != 5 {
		t.Errorf("As(5) = %v", got)
	}
}

// TestAsOrderCorrected: an ID keeps its place on a day, though it is written last.
func TestAsOrderCorrected(t *testing.T) {
	var b Book
	post(t, &b, out(7, 1), 1)
	post(t, &b, out(7, 2), 2)
	correct(t, &b, 1, out(7, 3))
	wantAs(t, &b, -1, as(1, out(7, 3)), as(2, out(7, 2)))
	correct(t, &b, 1, out(8, 3))
	wantAs(t, &b, -1, as(2, out(7, 2)), as(1, out(8, 3)))
	correct(t, &b, 2, count(8, 2))
	correct(t, &b, 1, count(8, 1))
	wantAs(t, &b, -1, as(1, count(8, 1)), as(2, count(8, 2)))
}

func TestHistoryOfNone(t *testing.T) {
	var b Book
	post(t, &b, in(3, 2, 10), 1)
	for _, id := range []int{math.MinInt, -1, 0, 2, math.MaxInt} {
		wantHistory(t, &b, id)
	}
}

// TestFresh: who writes into an answer, or behind it, changes nothing of the book.
func TestFresh(t *testing.T) {
	var b Book
	for i := range 9 {
		post(t, &b, in(20-i, 1, 1), i+1)
		correct(t, &b, i+1, in(20-i, 2, 1))
	}
	before := tells(&b)
	for turn := -1; turn <= b.Turn()+1; turn++ {
		l := b.As(turn)
		l = l[:cap(l)]
		for i := range l {
			l[i] = api.Event{ID: 1, Item: "spoilt"}
		}
	}
	for id := range 11 {
		l := b.History(id)
		l = l[:cap(l)]
		for i := range l {
			l[i] = Version{api.Event{ID: 1, Item: "spoilt"}, 0, 0}
		}
	}
	if !before.equal(tells(&b)) {
		t.Errorf("what was answered changes the book: %v", b)
	}
}

// TestKept: an answer stays what it was, whatever is done to the book later.
func TestKept(t *testing.T) {
	var b Book
	post(t, &b, in(3, 2, 10), 1)
	events, history := b.As(-1), b.History(1)
	correct(t, &b, 1, in(2, 5, 10))
	post(t, &b, out(1, 1), 2)
	void(t, &b, 1)
	if !slices.Equal(events, []api.Event{as(1, in(3, 2, 10))}) || !slices.Equal(history, []Version{{as(1, in(3, 2, 10)), 1, 0}}) {
		t.Errorf("what was answered is %v, %v now", events, history)
	}
}

// TestKnownToHaveBeenKnown goes many ways, and holds each turn against what was known when it was the last.
func TestKnownToHaveBeenKnown(t *testing.T) {
	for seed := range 60 {
		n := uint32(seed + 1)
		draw := func(most int) int {
			n = n*1664525 + 1013904223
			return int(n>>16) % most
		}
		var b Book
		live := map[int]api.Event{}
		given, versions := 0, 0
		then := [][]api.Event{nil}
		for range 300 {
			e := in(draw(9), 1+draw(3), draw(4))
			id := draw(given + 2)
			_, ok := live[id]
			room := versions < api.MaxLive
			changed := false
			switch draw(4) {
			case 0, 1:
				if _, err := b.Post(e); room != (err == nil) {
					t.Fatalf("Post at %d versions: %v", versions, err)
				}
				if changed = room; changed {
					given, versions = given+1, versions+1
					live[given] = as(given, e)
				}
			case 2:
				if err := b.Correct(id, e); (ok && room) != (err == nil) {
					t.Fatalf("Correct(%d) at %d versions: %v", id, versions, err)
				}
				if changed = ok && room; changed {
					versions++
					live[id] = as(id, e)
				}
			default:
				if err := b.Void(id); ok != (err == nil) {
					t.Fatalf("Void(%d): %v", id, err)
				}
				if changed = ok; changed {
					delete(live, id)
				}
			}
			if changed {
				var l []api.Event
				for _, e := range live {
					l = append(l, e)
				}
				slices.SortFunc(l, event.Compare)
				then = append(then, l)
			}
			wantTurn(t, &b, len(then)-1)
			wantAs(t, &b, -1, then[len(then)-1]...)
		}
		for turn, l := range then {
			wantAs(t, &b, turn, l...)
		}
	}
}

// TestOneTruth: books that end alike tell one thing in the end, however they came there.
func TestOneTruth(t *testing.T) {
	var straight, round Book
	post(t, &straight, in(3, 2, 10), 1)
	post(t, &straight, out(5, 1), 2)
	post(t, &round, out(9, 9), 1)
	post(t, &round, in(1, 1, 1), 2)
	post(t, &round, count(5, 5), 3)
	correct(t, &round, 2, out(5, 1))
	void(t, &round, 3)
	correct(t, &round, 1, in(3, 2, 10))
	if !slices.Equal(straight.As(-1), round.As(-1)) {
		t.Errorf("%v, and %v", straight.As(-1), round.As(-1))
	}
}
