package house

import (
	"encoding/binary"
	"errors"
	"fmt"
	"hash/crc32"
	"math"
	"regexp"
	"slices"
	"strconv"
	"strings"
	"testing"

	"tallyman/api"
	"tallyman/book"
	"tallyman/event"
	"tallyman/ledger"
	"tallyman/period"
)

// die draws numbers, the same each time.
type die uint32

func (d *die) draw(most int) int {
	*d = *d*1664525 + 1013904223
	return int(*d>>16) % most
}

// one is one of some texts.
func (d *die) one(l ...string) string {
	return l[d.draw(len(l))]
}

// drawnText has so many bytes, of all values.
func drawnText(d *die, n int) string {
	b := make([]byte, n)
	for i := range b {
		b[i] = byte(d.draw(256))
	}
	return string(b)
}

// drawnEvent is one as text, now and then one that is none.
func drawnEvent(d *die) string {
	n := d.one("1900-01-01", "1900-01-30", "1900-01-31", "1900-02-01", "1900-02-28", "1900-03-01", "1900-05-31", "1900-02-29")
	what := d.one("in a 3 at 1.00", "in a 5 at 0.33", "in b 7 at 0.01", "in b 2 at 0.00", "out a 2", "out a 9", "out b 1", "count a 4", "count b 3", "count a 0", "charge a 0.50 for 1", "charge b 0.07 for 2", "in c 0 at 1.00")
	return n + " " + what
}

// drawnLine is one of a house, of which some may not be done.
func drawnLine(d *die) string {
	switch d.draw(9) {
	case 0:
		return "void " + strconv.Itoa(d.draw(12))
	case 1:
		return "close 1900-0" + strconv.Itoa(d.draw(7))
	case 2, 3:
		return "correct " + strconv.Itoa(d.draw(12)) + " " + drawnEvent(d)
	}
	return "post " + drawnEvent(d)
}

// le is a number as four bytes, the least first, told by the library.
func le(n uint32) string {
	return string(binary.LittleEndian.AppendUint32(nil, n))
}

// raw is a line as the frame of a number, with sums told by the library.
func raw(n int, line string) string {
	head := le(uint32(len(line))) + le(uint32(n))
	head += le(crc32.ChecksumIEEE([]byte(head)))
	return head + line + le(crc32.ChecksumIEEE([]byte(head+line)))
}

// framed are lines as frames, one behind another, numbered from 0 on; asked of nothing of the program.
func framed(l ...string) string {
	s := ""
	for i, line := range l {
		s += raw(i, line)
	}
	return s
}

// known is all that is to be seen of a book and its closes.
func known(b *book.Book, p *period.Periods) string {
	s := fmt.Sprintf("turn %d; closed %v; open %v", b.Turn(), p.Closed(), p.Open(b))
	for turn := range b.Turn() + 1 {
		s += fmt.Sprintf("; as of %d %v", turn, b.As(turn))
	}
	for id := -1; id <= b.Turn()+1; id++ {
		s += fmt.Sprintf("; history of %d %v", id, b.History(id))
	}
	return s
}

// state is all that is to be seen of a house.
func state(h *House) string {
	return fmt.Sprintf("%s; journal %x", known(&h.Book, &h.Periods), h.Journal())
}

// did does a line that may be done, and fails, unless it tells just this, and is written behind those ahead of it.
func did(t *testing.T, h *House, line, want string) {
	t.Helper()
	was := h.Journal()
	n := frames(was)
	got, err := h.Do(line)
	if err != nil || got != want {
		t.Errorf("Do of %q: %q, %v, not %q", line, got, err, want)
	}
	if now := h.Journal(); now != was+raw(n, line) {
		t.Errorf("Journal behind %q: %x, not %x", line, now, was+raw(n, line))
	}
}

// frames are how many of them bytes have, told by their lengths alone.
func frames(s string) int {
	n := 0
	for len(s) > 0 {
		s = s[16+binary.LittleEndian.Uint32([]byte(s)):]
		n++
	}
	return n
}

// does does lines that may be done.
func does(t *testing.T, h *House, l ...string) *House {
	t.Helper()
	for _, line := range l {
		if _, err := h.Do(line); err != nil {
			t.Fatalf("Do of %q: %v", line, err)
		}
	}
	return h
}

// refuses fails, unless a line is refused by just this error, nothing else is told, and nothing is changed.
func refuses(t *testing.T, h *House, line string, want api.Errno) {
	t.Helper()
	was := state(h)
	got, err := h.Do(line)
	if wrong(err, want) || got != "" {
		t.Errorf("Do of %.300q: %q, %v, not %v", line, got, err, want)
	}
	if now := state(h); now != was {
		t.Errorf("Do of %.300q, that was refused, made of %s: %s", line, was, now)
	}
}

// wrong tells whether an error is another one, or has a place.
func wrong(err error, want api.Errno) bool {
	var at *api.At
	return api.Tell(err) != want || errors.As(err, &at)
}

// restores fails, unless bytes make a house to which just these lines were done.
func restores(t *testing.T, s string, l ...string) *House {
	t.Helper()
	h, n, err := Restore(s)
	if err != nil || h == nil || n != len(l) {
		t.Fatalf("Restore of %.600x: a house %t, %d, %v, not %d", s, h != nil, n, err, len(l))
	}
	if got, want := state(h), state(does(t, &House{}, l...)); got != want {
		t.Errorf("Restore of %.600x: %s, not %s", s, got, want)
	}
	return h
}

// restoresNone fails, unless bytes are refused.
func restoresNone(t *testing.T, s string) {
	t.Helper()
	if h, n, err := Restore(s); h != nil || n != 0 || wrong(err, api.ErrForm) {
		t.Errorf("Restore of %.600x: a house %t, %d, %v", s, h != nil, n, err)
	}
}

// day1 are lines of each kind, all of which may be done one behind the other.
func day1() []string {
	return []string{
		"post 1900-01-05 in nail 12 at 2.50",
		"post 1900-01-06 charge nail 0.75 for 1",
		"post 1900-02-09 out nail 3",
		"correct 1 1900-01-05 in nail 10 at 2.50",
		"close 1900-01",
		"post 1900-01-31 count nail 9",
		"void 3",
		"close 1900-04",
		"post 1900-04-01 in screw 1 at 0.00",
	}
}

// model is a house by another way: lines are told apart by patterns, and done to a book and to periods of its own.
type model struct {
	book    book.Book
	periods period.Periods
	lines   []string
}

var (
	postForm    = regexp.MustCompile(`(?s)\Apost (.*)\z`)
	correctForm = regexp.MustCompile(`(?s)\Acorrect (0|-?[1-9][0-9]*) (.*)\z`)
	voidForm    = regexp.MustCompile(`\Avoid (0|-?[1-9][0-9]*)\z`)
	closeForm   = regexp.MustCompile(`\Aclose ([0-9]{4})-(0[1-9]|1[0-2])\z`)
)

// do is what a line tells, and its error.
func (m *model) do(line string) (string, api.Errno) {
	told, err := m.tell(line)
	if err != nil {
		return "", api.Tell(err)
	}
	m.lines = append(m.lines, line)
	return told, api.OK
}

func (m *model) tell(line string) (string, error) {
	if p := postForm.FindStringSubmatch(line); p != nil {
		e, err := event.Parse(p[1])
		if err != nil {
			return "", api.ErrForm
		}
		id, err := m.book.Post(e)
		return fmt.Sprint("posted ", id, m.late(e)), err
	}
	if p := correctForm.FindStringSubmatch(line); p != nil {
		id, err := strconv.ParseInt(p[1], 10, 64)
		e, none := event.Parse(p[2])
		if err != nil || none != nil {
			return "", api.ErrForm
		}
		return "corrected" + m.late(e), m.book.Correct(int(id), e)
	}
	if p := voidForm.FindStringSubmatch(line); p != nil {
		id, err := strconv.ParseInt(p[1], 10, 64)
		if err != nil {
			return "", api.ErrForm
		}
		return "voided", m.book.Void(int(id))
	}
	if p := closeForm.FindStringSubmatch(line); p != nil && p[1]+p[2] >= "190001" && p[1]+p[2] <= "217310" {
		y, _ := strconv.Atoi(p[1])
		month, _ := strconv.Atoi(p[2])
		f, err := m.periods.Close(&m.book, (y-1900)*12+month-1)
		return fmt.Sprint("closed ", len(ledger.Post(f))), err
	}
	return "", api.ErrForm
}

func (m *model) late(e api.Event) string {
	if m.periods.Late(e.Day) {
		return " late"
	}
	return ""
}

// state is all that is to be seen of it, as of a house.
func (m *model) state() string {
	return fmt.Sprintf("%s; journal %x", known(&m.book, &m.periods), framed(m.lines...))
}

// wantAsModel fails, unless a line does to a house what it does to a model.
func wantAsModel(t *testing.T, h *House, m *model, line string) {
	t.Helper()
	want, no := m.do(line)
	got, err := h.Do(line)
	if got != want || wrong(err, no) {
		t.Fatalf("Do of %q: %q, %v, not %q, %v", line, got, err, want, no)
	}
	if got, want := state(h), m.state(); got != want {
		t.Fatalf("behind %q: %s, not %s", line, got, want)
	}
}

// 10.1: Do

func TestEmpty(t *testing.T) {
	h := &House{}
	if h.Journal() != "" || h.Book.Turn() != 0 || len(h.Book.As(-1)) != 0 || len(h.Periods.Closed()) != 0 {
		t.Errorf("the empty house: %s", state(h))
	}
}

// TestDo: each kind of line, one behind the other.
func TestDo(t *testing.T) {
	h := &House{}
	told := []string{"posted 1", "posted 2", "posted 3", "corrected", "closed 1", "posted 4 late", "voided", "closed 1", "posted 5 late"}
	for i, line := range day1() {
		did(t, h, line, told[i])
	}
	if got := h.Journal(); got != framed(day1()...) {
		t.Errorf("Journal: %x, not %x", got, framed(day1()...))
	}
	if n := h.Book.Turn(); n != 7 {
		t.Errorf("%d turns, not 7: closes are none", n)
	}
	first := []book.Version{
		{Event: api.Event{ID: 1, Item: "nail", Kind: api.In, Qty: 12, Price: 250, Day: 4}, From: 1, To: 4},
		{Event: api.Event{ID: 1, Item: "nail", Kind: api.In, Qty: 10, Price: 250, Day: 4}, From: 4},
	}
	if got := h.Book.History(1); !slices.Equal(got, first) {
		t.Errorf("History of 1: %v, not %v", got, first)
	}
	known := []api.Event{
		{ID: 1, Item: "nail", Kind: api.In, Qty: 10, Price: 250, Day: 4},
		{ID: 2, Item: "nail", Kind: api.Charge, Price: 75, Of: 1, Day: 5},
		{ID: 4, Item: "nail", Kind: api.Count, Qty: 9, Day: 30},
		{ID: 5, Item: "screw", Kind: api.In, Qty: 1, Day: 90},
	}
	if got := h.Book.As(-1); !slices.Equal(got, known) {
		t.Errorf("events: %v, not %v", got, known)
	}
	closed := []period.Close{
		{Month: 0, Turn: 4, Posted: api.Figures{In: 2575}},
		{Month: 3, Turn: 6, Posted: api.Figures{Loss: 257}},
	}
	if got := h.Periods.Closed(); !slices.Equal(got, closed) {
		t.Errorf("Closed: %v, not %v", got, closed)
	}
}

// TestDoPostNumbers: up to the last version there may be; what is voided gives no number back.
func TestDoPostNumbers(t *testing.T) {
	h := &House{}
	for id := 1; id <= 60; id++ {
		did(t, h, "post 1900-01-01 in a 1 at 0.01", fmt.Sprint("posted ", id))
		did(t, h, fmt.Sprint("void ", id), "voided")
	}
	for id := 61; id <= 120; id++ {
		did(t, h, "post 1900-01-01 out a 1", fmt.Sprint("posted ", id))
	}
	refuses(t, h, "post 1900-01-01 out a 1", api.ErrFull)
}

// TestDoEventEdges: the least and the greatest events there are.
func TestDoEventEdges(t *testing.T) {
	h := &House{}
	for i, s := range []string{
		"1900-01-01 in a 1 at 0.00",
		"2173-10-15 in abcdefghij 100000 at 10000.00",
		"2000-02-29 charge z9 0.01 for 1",
		"2173-10-15 charge abcdefghij 1000000000.00 for 9223372036854775807",
		"1900-01-01 out a0 1",
		"2173-10-15 out abcdefghij 100000",
		"1900-01-01 count a 0",
		"2173-10-15 count abcdefghij 100000",
	} {
		did(t, h, "post "+s, fmt.Sprint("posted ", i+1))
		did(t, h, fmt.Sprint("correct ", i+1, " ", s), "corrected")
		want, err := event.Parse(s)
		want.ID = i + 1
		if l := h.Book.History(i + 1); err != nil || len(l) != 2 || l[0].Event != want || l[1].Event != want {
			t.Errorf("%q: %v, %v", s, l, err)
		}
	}
}

// none are lines that are none, though an event 1 is there and may be corrected and voided, and all months may be closed.
func none() []string {
	good := "1900-01-05 in a 1 at 1.00"
	l := []string{
		"", " ", "  ", "\n", "\x00", "x", "-", "1",
		"post", "correct", "void", "close", "post ", "correct ", "void ", "close ", "post  ", "void  ",
		"open", "closed", "turn", "help", "tear 0", "at 1900-01-05 1", "posted 1", "voided",
		"Post " + good, "POST " + good, "posT " + good, "post\t" + good, "post\n" + good, "post" + good, "pos " + good, "posts " + good,
		"Correct 1 " + good, "Void 1", "VOID 1", "voids 1", "voi 1", "Close 1900-01", "CLOSE 1900-01", "closes 1900-01", "clos 1900-01",
		"1 void", "1900-01 close", good + " post", good, "void1", "close1900-01", "void,1",
		"void 1 2", "void 1 1", "void one", "void 1.", "void 1.00", "void 0x1", "void 1_0", "void 1e0", "void '1'", "void \xd9\xa1",
		"void - 1", "void --1", "void -", "void +", "void -+1", "void 1-", "void -a",
		"void " + good, "close 1", "close 1900", "close 0", "close 1900-01 1900-02", "close 1900-01 1",
		"correct 1", "correct 1 ", "correct " + good, "correct 1 1 " + good, "correct  " + good, "correct 1 void", "correct 1 post " + good,
		"post 1 " + good, "post post " + good, "post 1", "post void 1", "post " + good + " " + good,
	}
	for _, id := range []string{
		"", "01", "00", "-01", "-00", "-0", "+0", "+1", "+01", "1.0", "0x1", "a", "1a", "a1",
		"9223372036854775808", "-9223372036854775809", "9223372036854775817", "18446744073709551616", "18446744073709551617", "-18446744073709551615",
		"10000000000000000000", "1" + strings.Repeat("0", 100), strings.Repeat("9", 150), strings.Repeat("0", 100) + "1",
	} {
		l = append(l, "void "+id, "correct "+id+" "+good)
	}
	return append(l, slices.Concat(noEvents(), noMonths())...)
}

// noEvents are lines of an event that is none, or is not written as Print writes it.
func noEvents() []string {
	var l []string
	for _, s := range []string{
		"1900-01-05", "1900-01-05 in", "1900-01-05 in a", "1900-01-05 in a 1", "1900-01-05 in a 1 at", "1900-01-05 in a 1 at 1.00 x",
		"1900-01-05 in a 1 at 1", "1900-01-05 in a 1 at 1.0", "1900-01-05 in a 1 at 1.000", "1900-01-05 in a 1 at 01.00", "1900-01-05 in a 1 at .50", "1900-01-05 in a 1 at +1.00",
		"1900-01-05 in a 01 at 1.00", "1900-01-05 in a +1 at 1.00", "1900-01-05 in a 1 for 1.00", "1900-01-05 in a 1 At 1.00",
		"1900-01-05 In a 1 at 1.00", "1900-01-05 ins a 1 at 1.00", "1900-01-05 in A 1 at 1.00", "1900-01-05 in 1a 1 at 1.00", "1900-01-05 in a-b 1 at 1.00",
		"1900-01-05 in abcdefghijk 1 at 1.00", "1900-01-05 in a 0 at 1.00", "1900-01-05 in a -1 at 1.00", "1900-01-05 in a 100001 at 1.00", "1900-01-05 in a 1 at -0.01", "1900-01-05 in a 1 at 10000.01",
		"1900-1-5 in a 1 at 1.00", "1900-02-29 in a 1 at 1.00", "1899-12-31 in a 1 at 1.00", "2173-10-16 in a 1 at 1.00", "1900-13-01 in a 1 at 1.00", "1900-00-05 in a 1 at 1.00", "5 in a 1 at 1.00",
		"1900-01-05 charge a 1.00", "1900-01-05 charge a 0.00 for 1", "1900-01-05 charge a 1.00 for 0", "1900-01-05 charge a 1.00 for -1", "1900-01-05 charge a 1.00 for 01", "1900-01-05 charge a 1.00 at 1",
		"1900-01-05 charge a 1000000000.01 for 1", "1900-01-05 charge a 1.00 for 9223372036854775808", "1900-01-05 charge a 1 for 1.00",
		"1900-01-05 out a", "1900-01-05 out a 0", "1900-01-05 out a 100001", "1900-01-05 out a 1 at 1.00", "1900-01-05 out a 1.00", "1900-01-05 out a -1",
		"1900-01-05 count a", "1900-01-05 count a -1", "1900-01-05 count a -0", "1900-01-05 count a 100001", "1900-01-05 count a 00",
		"1900-01-05 post a 1", "1900-01-05 void a 1", "in 1900-01-05 a 1 at 1.00", "a in 1900-01-05 1 at 1.00",
		"1900-01-05 in a 1 at 1.00\n", "1900-01-05\tin a 1 at 1.00", "1900-01-05 in a 1 at 1.00\x00",
	} {
		l = append(l, "post "+s, "correct 1 "+s)
	}
	return l
}

// noMonths are lines of a month that is none, or is written otherwise.
func noMonths() []string {
	var l []string
	for _, s := range []string{
		"", "-", "01", "1900", "1900-", "-01", "1900-1", "1900-001", "1900-00", "1900-13", "1900-20", "1900-99", "1900-0x", "1900-+1", "1900--1", "1900- 1", "1900-1 ",
		"190-01", "19000-01", "01900-01", "+1900-01", "-1900-01", "0000-01", "0001-01", "1800-01", "1899-12", "1899-01",
		"2173-11", "2173-12", "2174-01", "2174-10", "2175-01", "2199-12", "2200-01", "2200-12", "2201-01", "9999-12",
		"190001", "1900/01", "1900_01", "1900.01", "1900-01-01", "1900-01-1", "1900-01-", "1900-01-31", "01-1900", "1900-Jan", "1900-01\n", "1900-01\x00", "19 0-01", "x900-01", "1900-01x",
		"1900:-01", "190:-01", "18:0-01", "1900-0:", "1900-1/", "190/-01",
	} {
		l = append(l, "close "+s)
	}
	return l
}

// TestDoOfNone: what is no line changes neither an empty house nor another one.
func TestDoOfNone(t *testing.T) {
	empty, h := &House{}, does(t, &House{}, "post 1900-01-05 in a 3 at 1.00")
	for _, line := range none() {
		refuses(t, empty, line, api.ErrForm)
		refuses(t, h, line, api.ErrForm)
	}
	did(t, h, "void 1", "voided")
	did(t, empty, "post 1900-01-05 in a 3 at 1.00", "posted 1")
}

// TestDoBlanks: at each place at which a blank stands there may be but one, and none stands at an end.
func TestDoBlanks(t *testing.T) {
	h := does(t, &House{}, "post 1900-01-05 in a 3 at 1.00")
	for _, line := range []string{"post 1900-01-05 in a 3 at 1.00", "post 1900-01-05 charge a 0.01 for 1", "post 1900-01-05 out a 1", "correct 1 1900-01-05 count a 1", "void 1", "close 1900-01"} {
		refuses(t, h, " "+line, api.ErrForm)
		refuses(t, h, line+" ", api.ErrForm)
		refuses(t, h, line+"\n", api.ErrForm)
		for i := range line {
			if line[i] != ' ' {
				continue
			}
			for _, between := range []string{"", "  ", "   ", "\t", "\n", "\u00a0", "_"} {
				refuses(t, h, line[:i]+between+line[i+1:], api.ErrForm)
			}
		}
	}
}

// TestDoLong: lines of about 200 bytes, of which none is one; a frame would take 200, and not 201.
func TestDoLong(t *testing.T) {
	h := does(t, &House{}, "post 1900-01-05 in a 3 at 1.00")
	for _, ahead := range []string{"", "post ", "post 1900-01-05 in a 3 at 1.00", "post 1900-01-05 in a 3 at ", "correct 1 ", "void ", "void 1", "close ", "close 1900-01"} {
		for _, with := range []string{"x", " ", "0", "1", "\x00"} {
			for _, size := range []int{100, 198, 199, 200, 201, 202, 216, 1_000, 100_000} {
				refuses(t, h, ahead+strings.Repeat(with, size-len(ahead)), api.ErrForm)
			}
		}
	}
}

// others are what a line becomes if at one place a byte is another one, is left out, or one more is there.
func others(line string) []string {
	var l []string
	for i := range len(line) + 1 {
		for _, more := range []string{" ", "0", "1", "9", "-", "+", ".", "a", "\n", "\x00", "\xff"} {
			l = append(l, line[:i]+more+line[i:])
		}
		if i == len(line) {
			break
		}
		l = append(l, line[:i]+line[i+1:])
		for c := range 256 {
			l = append(l, line[:i]+string([]byte{byte(c)})+line[i+1:])
		}
	}
	return l
}

// TestDoOtherBytes: good lines with one byte that is not theirs.
func TestDoOtherBytes(t *testing.T) {
	for _, line := range []string{
		"post 1900-01-05 in a 3 at 1.00", "post 1900-02-28 charge b7 0.50 for 12", "post 1900-02-05 out a 10", "post 1900-12-31 count a 0",
		"correct 1 1900-01-31 in a 3 at 10.00", "correct 12 1900-02-01 out a 3", "void 1", "void 12", "void -3", "close 1900-02", "close 1910-10", "close 2173-10",
	} {
		for _, other := range others(line) {
			h, m := &House{}, &model{}
			for _, first := range []string{"post 1900-01-05 in a 3 at 1.00", "close 1900-01"} {
				h.Do(first)
				m.do(first)
			}
			wantAsModel(t, h, m, other)
		}
	}
}

// TestDoMissing: numbers that are none of an event that is known, in each form in which a number is written.
func TestDoMissing(t *testing.T) {
	h := does(t, &House{}, "post 1900-01-05 in a 3 at 1.00", "post 1900-01-05 out a 1", "void 1")
	for _, id := range []int{0, 1, 3, 4, 10, 100, -1, -2, -10, math.MaxInt32, math.MaxInt, math.MinInt, math.MaxInt - 1, math.MinInt + 1} {
		refuses(t, h, fmt.Sprint("void ", id), api.ErrMissing)
		refuses(t, h, fmt.Sprint("correct ", id, " 1900-01-05 in a 3 at 1.00"), api.ErrMissing)
	}
	did(t, h, "correct 2 1900-01-05 out a 2", "corrected")
	did(t, h, "void 2", "voided")
	refuses(t, h, "void 2", api.ErrMissing)
	refuses(t, &House{}, "void 1", api.ErrMissing)
	refuses(t, &House{}, "correct 1 1900-01-05 in a 3 at 1.00", api.ErrMissing)
}

// TestDoFull: of a house that has all versions there may be; what applies besides is told in its order.
func TestDoFull(t *testing.T) {
	h := does(t, &House{}, "post 1900-01-05 in a 3 at 1.00", "post 1900-01-05 out a 1", "void 2")
	for range 118 {
		did(t, h, "correct 1 1900-01-05 in a 3 at 1.00", "corrected")
	}
	refuses(t, h, "post 1900-01-05 in a 3 at 1.00", api.ErrFull)
	refuses(t, h, "correct 1 1900-01-05 in a 3 at 1.00", api.ErrFull)
	refuses(t, h, "correct 2 1900-01-05 in a 3 at 1.00", api.ErrMissing)
	refuses(t, h, "correct 0 1900-01-05 in a 3 at 1.00", api.ErrMissing)
	refuses(t, h, "post 1900-01-05 in a 0 at 1.00", api.ErrForm)
	refuses(t, h, "correct 1 1900-01-05 in a 0 at 1.00", api.ErrForm)
	refuses(t, h, "correct 2 1900-01-05 in a 0 at 1.00", api.ErrForm)
	refuses(t, h, "correct 02 1900-01-05 in a 3 at 1.00", api.ErrForm)
	did(t, h, "close 1900-01", "closed 1")
	did(t, h, "void 1", "voided")
	refuses(t, h, "correct 1 1900-01-05 in a 3 at 1.00", api.ErrMissing)
}

// TestDoClosed: months up to the last one that was closed.
func TestDoClosed(t *testing.T) {
	h := &House{}
	did(t, h, "close 1900-01", "closed 0")
	refuses(t, h, "close 1900-01", api.ErrOrder)
	did(t, h, "close 1901-12", "closed 0")
	for _, month := range []string{"1900-01", "1900-02", "1900-12", "1901-01", "1901-11", "1901-12"} {
		refuses(t, h, "close "+month, api.ErrOrder)
	}
	refuses(t, h, "close 1901-13", api.ErrForm)
	refuses(t, h, "close 1900-00", api.ErrForm)
	refuses(t, h, "close 1899-12", api.ErrForm)
	did(t, h, "close 1902-01", "closed 0")
	did(t, h, "close 2173-10", "closed 0")
	refuses(t, h, "close 2173-10", api.ErrOrder)
	refuses(t, h, "close 2173-11", api.ErrForm)
}

// TestDoAllMonths: each month that there is, as the first one that is closed, has its number.
func TestDoAllMonths(t *testing.T) {
	for month := range 3301 {
		line := fmt.Sprintf("close %04d-%02d", 1900+month/12, month%12+1)
		h := &House{}
		if month > 3285 {
			refuses(t, h, line, api.ErrForm)
			continue
		}
		did(t, h, line, "closed 0")
		if got := h.Periods.Closed(); !slices.Equal(got, []period.Close{{Month: month}}) {
			t.Errorf("%q: %v", line, got)
		}
	}
}

// TestDoClosesFull: the sixty-first close; what applies besides is told in its order.
func TestDoClosesFull(t *testing.T) {
	h := &House{}
	for month := range 60 {
		did(t, h, fmt.Sprintf("close %04d-%02d", 1900+month/12, month%12+1), "closed 0")
	}
	refuses(t, h, "close 1905-01", api.ErrFull)
	refuses(t, h, "close 2173-10", api.ErrFull)
	refuses(t, h, "close 1904-12", api.ErrOrder)
	refuses(t, h, "close 1900-01", api.ErrOrder)
	refuses(t, h, "close 1905-13", api.ErrForm)
	refuses(t, h, "close 2173-11", api.ErrForm)
	did(t, h, "post 1904-12-31 in a 3 at 1.00", "posted 1 late")
	did(t, h, "post 1905-01-01 in a 3 at 1.00", "posted 2")
}

// TestDoLate: the last day that is closed, and the first one that is not.
func TestDoLate(t *testing.T) {
	for _, c := range []struct{ month, last, next string }{
		{"1900-01", "1900-01-31", "1900-02-01"},
		{"1900-02", "1900-02-28", "1900-03-01"},
		{"2000-02", "2000-02-29", "2000-03-01"},
		{"1999-12", "1999-12-31", "2000-01-01"},
		{"2173-09", "2173-09-30", "2173-10-01"},
		{"2173-10", "2173-10-15", ""},
	} {
		h := &House{}
		did(t, h, "post "+c.last+" in a 3 at 1.00", "posted 1")
		did(t, h, "correct 1 "+c.last+" in a 3 at 1.00", "corrected")
		did(t, h, "close "+c.month, "closed 1")
		did(t, h, "post "+c.last+" in a 3 at 1.00", "posted 2 late")
		did(t, h, "post 1900-01-01 out a 1", "posted 3 late")
		did(t, h, "correct 1 "+c.last+" out b 4", "corrected late")
		if c.next == "" {
			continue
		}
		did(t, h, "post "+c.next+" charge a 1.00 for 1", "posted 4")
		// The event that is written is asked, not the one that was known.
		did(t, h, "correct 1 "+c.next+" count a 4", "corrected")
		did(t, h, "correct 1 "+c.last+" count a 4", "corrected late")
		did(t, h, "void 1", "voided")
	}
}

// TestDoClosePostings: from none to all five of them, and those of figures below 0.
func TestDoClosePostings(t *testing.T) {
	h := &House{}
	did(t, h, "close 1900-01", "closed 0")
	does(t, h, "post 1900-02-01 in a 9 at 1.00")
	did(t, h, "close 1900-02", "closed 1")
	did(t, h, "close 1900-03", "closed 0")
	does(t, h, "post 1900-04-01 in a 9 at 1.00", "post 1900-04-01 out a 1")
	did(t, h, "close 1900-04", "closed 2")
	does(t, h, "post 1900-05-01 in a 1 at 1.00", "post 1900-05-01 out a 1", "post 1900-05-01 count a 3")
	did(t, h, "close 1900-05", "closed 3")
	does(t, h, "post 1900-06-01 in a 1 at 1.00", "post 1900-06-01 out a 1", "post 1900-06-01 count a 2", "post 1900-06-02 count a 3")
	did(t, h, "close 1900-06", "closed 4")
	does(t, h, "post 1900-07-01 in a 1 at 1.00", "post 1900-07-01 charge a 0.50 for 99", "post 1900-07-01 out a 1", "post 1900-07-01 count a 2", "post 1900-07-02 count a 3")
	did(t, h, "close 1900-07", "closed 5")
	did(t, h, "close 1900-08", "closed 0")
	// An In that never was: less came in than was posted, and less was lost at the next count.
	does(t, h, "void 1")
	did(t, h, "close 1900-09", "closed 2")
	want := period.Close{Month: 8, Turn: h.Book.Turn(), Posted: api.Figures{In: -900, Loss: -900}}
	if last := h.Periods.Closed()[8]; last != want {
		t.Errorf("the last close: %v, not %v", last, want)
	}
}

// TestDoOtherwise: what is done to the book and the periods themselves holds, and is not in the journal; lines are numbered for themselves.
func TestDoOtherwise(t *testing.T) {
	h := &House{}
	e := api.Event{Item: "a", Kind: api.In, Qty: 3, Price: 100, Day: 4}
	if id, err := h.Book.Post(e); id != 1 || err != nil {
		t.Fatal(id, err)
	}
	if h.Journal() != "" {
		t.Errorf("Journal: %x", h.Journal())
	}
	did(t, h, "post 1900-01-05 in a 3 at 1.00", "posted 2")
	did(t, h, "correct 1 1900-01-06 in a 4 at 1.00", "corrected")
	if _, err := h.Periods.Close(&h.Book, 0); err != nil {
		t.Fatal(err)
	}
	if err := h.Book.Void(2); err != nil {
		t.Fatal(err)
	}
	did(t, h, "post 1900-01-31 out a 1", "posted 3 late")
	refuses(t, h, "void 2", api.ErrMissing)
	refuses(t, h, "close 1900-01", api.ErrOrder)
	did(t, h, "close 1900-02", "closed 2")
	if err := h.Book.Correct(1, e); err != nil {
		t.Fatal(err)
	}
	did(t, h, "void 1", "voided")
	lines := []string{"post 1900-01-05 in a 3 at 1.00", "correct 1 1900-01-06 in a 4 at 1.00", "post 1900-01-31 out a 1", "close 1900-02", "void 1"}
	if h.Journal() != framed(lines...) {
		t.Errorf("Journal: %x, not %x", h.Journal(), framed(lines...))
	}
	restores(t, h.Journal(), lines...)
	did(t, h, "void 3", "voided")
	// Of the journal alone there is no event 3.
	restoresNone(t, h.Journal())
}

// TestDoBookGivenOtherwise: a book that was filled by itself is full for lines, too.
func TestDoBookGivenOtherwise(t *testing.T) {
	h := &House{}
	for range api.MaxLive {
		if _, err := h.Book.Post(api.Event{Item: "a", Kind: api.Count}); err != nil {
			t.Fatal(err)
		}
	}
	refuses(t, h, "post 1900-01-05 in a 3 at 1.00", api.ErrFull)
	did(t, h, "void 120", "voided")
	refuses(t, h, "post 1900-01-05 in a 3 at 1.00", api.ErrFull)
}

// TestDoDrawn: many lines, held against a book and periods to which the same is done.
func TestDoDrawn(t *testing.T) {
	d := die(10)
	told := map[string]int{}
	for range 300 {
		h, m := &House{}, &model{}
		for range 5 + d.draw(30) {
			line := drawnLine(&d)
			wantAsModel(t, h, m, line)
		}
		for _, line := range m.lines {
			told[strings.Fields(line)[0]]++
		}
		restores(t, h.Journal(), m.lines...)
	}
	for _, word := range []string{"post", "correct", "void", "close"} {
		if told[word] < 100 {
			t.Errorf("%d drawn lines of %q were done", told[word], word)
		}
	}
}

// TestDoAnyBytes: no line panics, and what is refused was never.
func TestDoAnyBytes(t *testing.T) {
	d := die(11)
	h, m := &House{}, &model{}
	for range 3_000 {
		line := d.one("", "post ", "correct 1 ", "correct ", "void ", "close ", "post 1900-01-05 in ") + drawnText(&d, d.draw(12))
		wantAsModel(t, h, m, line)
	}
}

// 10.2: Journal, Restore

func TestRestoreOfNone(t *testing.T) {
	h := restores(t, "")
	did(t, h, "post 1900-01-05 in a 3 at 1.00", "posted 1")
}

// TestRestore: what was done is there again, behind each line.
func TestRestore(t *testing.T) {
	h, all := &House{}, day1()
	for i, line := range all {
		does(t, h, line)
		g := restores(t, h.Journal(), all[:i+1]...)
		if state(g) != state(h) {
			t.Errorf("behind %q: %s, not %s", line, state(g), state(h))
		}
	}
}

// TestRestoreGoesOn: lines that are done to what was restored tell what they told, and are refused alike.
func TestRestoreGoesOn(t *testing.T) {
	d := die(14)
	for range 200 {
		h, m := &House{}, &model{}
		for range d.draw(20) {
			line := drawnLine(&d)
			h.Do(line)
			m.do(line)
		}
		g := restores(t, h.Journal(), m.lines...)
		for range d.draw(20) {
			wantAsModel(t, g, m, drawnLine(&d))
		}
		restores(t, g.Journal(), m.lines...)
	}
}

// TestRestoreOfTorn: a journal that is cut off at each place is that of its first lines.
func TestRestoreOfTorn(t *testing.T) {
	all := day1()
	s, whole, end := framed(all...), 0, 0
	for i := range len(s) + 1 {
		if whole < len(all) && i == end+16+len(all[whole]) {
			whole, end = whole+1, i
		}
		h := restores(t, s[:i], all[:whole]...)
		if h.Journal() != s[:end] {
			t.Errorf("the journal of %d bytes: %d bytes, not %d", i, len(h.Journal()), end)
		}
	}
	if whole != len(all) {
		t.Errorf("%d lines of %d", whole, len(all))
	}
}

// TestRestoreOfSpoilt: each byte another one: the lines ahead of it are there, and no more.
func TestRestoreOfSpoilt(t *testing.T) {
	all := day1()
	s, at := framed(all...), 0
	for whole, line := range all {
		for i := at; i < at+16+len(line); i++ {
			for _, change := range []byte{1, 2, 16, 32, 128, 255} {
				b := []byte(s)
				b[i] ^= change
				restores(t, string(b), all[:whole]...)
			}
		}
		at += 16 + len(line)
	}
}

// TestRestoreOfNoFrames: bytes that are none at all make an empty house.
func TestRestoreOfNoFrames(t *testing.T) {
	for _, s := range []string{"x", "post 1900-01-05 in a 3 at 1.00", "post 1900-01-05 in a 3 at 1.00\n", strings.Repeat("\x00", 16), strings.Repeat("\x00", 1000), strings.Repeat("\xff", 1000), raw(1, "void 1"), raw(1, "post 1900-01-05 in a 3 at 1.00") + raw(2, "void 1"), "\x00" + framed(day1()...)} {
		restores(t, s)
	}
}

// TestRestoreOfMoreBehind: whatever stands behind the lines that are there wholly.
func TestRestoreOfMoreBehind(t *testing.T) {
	all := day1()
	s := framed(all...)
	for _, more := range []string{"x", "\n", strings.Repeat("\x00", 100), s, raw(0, "void 1"), raw(len(all)+1, "void 1"), raw(len(all)-1, "void 1"), "void 1"} {
		h := restores(t, s+more, all...)
		if h.Journal() != s {
			t.Errorf("what stands behind is in the journal: %x", h.Journal())
		}
	}
}

// TestRestoreOfLinesThatMayNotBe: frames that are whole, of lines that are refused: first, between others, last.
func TestRestoreOfLinesThatMayNotBe(t *testing.T) {
	for _, line := range append(none(), "void 9", "void 0", "void -1", "correct 9 1900-01-05 in a 3 at 1.00", "void 3", "close 1900-01", "close 1900-04", "close 1900-02") {
		if len(line) > 200 {
			continue
		}
		all := append(day1(), line)
		s := framed(all...)
		restoresNone(t, s)
		restoresNone(t, s+raw(len(all), "void 1"))
		restoresNone(t, s+"torn")
		// A line that was torn is none that is refused.
		restores(t, s[:len(s)-1], day1()...)
	}
	for _, line := range none() {
		if len(line) <= 200 {
			restoresNone(t, framed(line))
			restoresNone(t, framed(append([]string{line}, day1()...)...))
		}
	}
	restoresNone(t, framed("void 1"))
	restoresNone(t, framed("", "post 1900-01-05 in a 3 at 1.00"))
	restoresNone(t, framed(strings.Repeat("x", 200)))
	restores(t, framed(strings.Repeat("x", 201)))
	restores(t, framed("post 1900-01-05 in a 3 at 1.00", strings.Repeat("x", 201), "void 1"), "post 1900-01-05 in a 3 at 1.00")
	restoresNone(t, framed("post 1900-01-05 in a 3 at 1.00", "void 1", "void 1"))
	restoresNone(t, framed("post 1900-01-05 in a 3 at 1.00", "void 1", "void 1", "post 1900-01-05 in a 3 at 1.00"))
}

// TestRestoreOfTooMany: one version, or one close, more than there may be.
func TestRestoreOfTooMany(t *testing.T) {
	posts := slices.Repeat([]string{"post 1900-01-05 in a 3 at 1.00"}, 120)
	restores(t, framed(posts...), posts...)
	restoresNone(t, framed(append(posts, posts[0])...))
	var closes []string
	for month := range 61 {
		closes = append(closes, fmt.Sprintf("close %04d-%02d", 1900+month/12, month%12+1))
	}
	restores(t, framed(closes[:60]...), closes[:60]...)
	restoresNone(t, framed(closes...))
}

// TestRestoreOfMost: the longest journal there is: all versions, all of them voided, and all closes.
func TestRestoreOfMost(t *testing.T) {
	h := &House{}
	var all []string
	for i := range 120 {
		all = append(all, fmt.Sprintf("post 19%02d-05-05 in a%d 3 at 1.00", i%60, i))
		if i%2 == 1 {
			month := i / 2
			all = append(all, fmt.Sprintf("close %04d-%02d", 1900+month/12, month%12+1))
		}
		all = append(all, fmt.Sprintf("void %d", i+1))
	}
	does(t, h, all...)
	if len(all) != 300 || h.Journal() != framed(all...) {
		t.Errorf("%d lines, a journal of %d bytes", len(all), len(h.Journal()))
	}
	restores(t, h.Journal(), all...)
}

// TestRestoreOfAnyBytes: no bytes panic; what is restored is a beginning.
func TestRestoreOfAnyBytes(t *testing.T) {
	d := die(15)
	for range 3_000 {
		s := drawnText(&d, d.draw(60))
		if d.draw(2) == 0 {
			s = framed(day1()[:d.draw(4)]...) + s
		}
		b := []byte(s)
		if len(b) > 0 && d.draw(2) == 0 {
			b[d.draw(len(b))] = byte(d.draw(256))
		}
		h, n, err := Restore(string(b))
		if err != nil || frames(h.Journal()) != n || !strings.HasPrefix(string(b), h.Journal()) {
			t.Fatalf("Restore of %x: a house %t, %d, %v", b, h != nil, n, err)
		}
	}
	// Lines of any bytes, whole: refused, all of them.
	for range 500 {
		restoresNone(t, framed(d.one("", "post ", "void ", "close ", "correct 1 ")+drawnText(&d, d.draw(40))))
	}
}

// TestRestoreOfManyFrames: as many as there are, of lines that may not be done.
func TestRestoreOfManyFrames(t *testing.T) {
	var s strings.Builder
	for i := range 100_001 {
		s.WriteString(raw(i, "void 1"))
	}
	restoresNone(t, s.String())
}

// P4: two houses

// TestHousesShareNothing: what is done to one is not done to another one, nor to one that was restored of its journal.
func TestHousesShareNothing(t *testing.T) {
	h := does(t, &House{}, day1()...)
	s := h.Journal()
	g := restores(t, s, day1()...)
	other := restores(t, s, day1()...)
	was := state(other)
	more := []string{"correct 1 1900-03-03 in nail 1 at 9.99", "void 2", "post 1900-07-01 out nail 1", "close 1900-09"}
	does(t, h, more...)
	if state(g) != was || state(other) != was {
		t.Errorf("what was done to a house was done to one that was restored: %s, not %s", state(g), was)
	}
	is := state(h)
	does(t, g, "void 4", "void 1", "close 1900-05", "post 1900-08-08 count nail 4")
	if state(h) != is || state(other) != was {
		t.Errorf("what was done to one that was restored was done to another one: %s, not %s", state(h), is)
	}
	if s != framed(day1()...) {
		t.Errorf("a journal that was handed out was written into: %x", s)
	}
	does(t, other, more...)
	if state(other) != is {
		t.Errorf("the same lines: %s, not %s", state(other), is)
	}
}

// TestEmptyHousesShareNothing: there may be many of them at first.
func TestEmptyHousesShareNothing(t *testing.T) {
	a, b := &House{}, &House{}
	did(t, a, "post 1900-01-05 in a 3 at 1.00", "posted 1")
	refuses(t, b, "void 1", api.ErrMissing)
	did(t, b, "close 1900-01", "closed 0")
	did(t, a, "post 1900-01-06 in a 3 at 1.00", "posted 2")
	did(t, b, "post 1900-01-06 in b 3 at 1.00", "posted 1 late")
	did(t, a, "close 1900-01", "closed 1")
	did(t, b, "close 1900-02", "closed 1")
	first, _, _ := Restore("")
	second, _, _ := Restore("")
	did(t, first, "post 1900-01-05 in a 3 at 1.00", "posted 1")
	did(t, second, "post 1900-01-05 in b 3 at 1.00", "posted 1")
}

// TestAnswersAreFresh: who writes into what a house's book and periods hand out changes nothing.
func TestAnswersAreFresh(t *testing.T) {
	h := does(t, &House{}, day1()...)
	was := state(h)
	for _, l := range [][]api.Event{h.Book.As(-1), h.Book.As(2)} {
		clear(l)
	}
	clear(h.Book.History(1))
	clear(h.Periods.Closed())
	if now := state(h); now != was {
		t.Errorf("an answer is the house's own: %s, not %s", now, was)
	}
}
