package ledger

import (
	"errors"
	"fmt"
	"math"
	"regexp"
	"slices"
	"strconv"
	"strings"
	"testing"

	"tallyman/api"
	"tallyman/book"
	"tallyman/cost"
	"tallyman/period"
)

// names are the accounts of the document, in order.
var names = []string{"gain", "late", "loss", "sold", "stock", "supply"}

// die draws numbers, the same each time.
type die uint32

func (d *die) draw(most int) int {
	*d = *d*1664525 + 1013904223
	return int(*d>>16) % most
}

// drawnFigures are figures, some of them 0, and some below.
func drawnFigures(d *die) api.Figures {
	n := func() int { return []int{0, 0, 1 + d.draw(9), -1 - d.draw(9), d.draw(60_000)}[d.draw(5)] }
	return api.Figures{In: n(), Out: n(), Loss: n(), Gain: n(), Late: n()}
}

// drawnPostings are postings that Parse reads, of all accounts.
func drawnPostings(d *die, n int) []Posting {
	var l []Posting
	for range n {
		debit := d.draw(len(names))
		credit := (debit + 1 + d.draw(len(names)-1)) % len(names)
		amount := []int{1, 99, 100, 1 + d.draw(50_000), api.MaxTotal - d.draw(3)}[d.draw(5)]
		l = append(l, Posting{names[debit], names[credit], amount})
	}
	return l
}

// brief is the beginning of what a list has; quoted, because accounts may be any bytes.
func brief(list any) string {
	return fmt.Sprintf("%.300q", fmt.Sprint(list))
}

// wantPosted fails, unless figures have just these postings.
func wantPosted(t *testing.T, f api.Figures, want ...Posting) {
	t.Helper()
	if got := Post(f); !slices.Equal(got, want) {
		t.Errorf("Post of %+v: %+v, not %+v", f, got, want)
	}
}

// wantTrial fails, unless postings have just these balances.
func wantTrial(t *testing.T, l []Posting, want ...Balance) {
	t.Helper()
	if got := Trial(l); !slices.Equal(got, want) {
		t.Errorf("Trial of %s: %s, not %s", brief(l), brief(got), brief(want))
	}
}

// wantPrinted fails, unless postings are written just so.
func wantPrinted(t *testing.T, l []Posting, want string) {
	t.Helper()
	if got := Print(l); got != want {
		t.Errorf("Print of %+v: %q, not %q", l, got, want)
	}
}

// wantRead fails, unless a text tells just these postings.
func wantRead(t *testing.T, s string, want ...Posting) {
	t.Helper()
	got, err := Parse(s)
	if err != nil || !slices.Equal(got, want) {
		t.Errorf("Parse of %.300q: %s, %v, not %s", s, brief(got), err, brief(want))
	}
}

// wantRefused fails, unless a text is refused at just this line, and nothing else is told.
func wantRefused(t *testing.T, s string, place int) {
	t.Helper()
	got, err := Parse(s)
	var at *api.At
	if !errors.As(err, &at) || at.Err != api.ErrForm || at.Place != place || api.Tell(err) != api.ErrForm {
		t.Errorf("Parse of %.300q: %v (%+v), not ErrForm at %d", s, err, at, place)
	}
	if got != nil {
		t.Errorf("Parse of %.300q: %s beside an error", s, brief(got))
	}
}

// 7.1: Post

func TestPost(t *testing.T) {
	wantPosted(t, api.Figures{In: 1, Out: 20, Loss: 300, Gain: 4000, Late: 50000},
		Posting{"stock", "supply", 1},
		Posting{"sold", "stock", 20},
		Posting{"loss", "stock", 300},
		Posting{"stock", "gain", 4000},
		Posting{"late", "supply", 50000},
	)
}

func TestPostBelowNought(t *testing.T) {
	wantPosted(t, api.Figures{In: -1, Out: -20, Loss: -300, Gain: -4000, Late: -50000},
		Posting{"supply", "stock", 1},
		Posting{"stock", "sold", 20},
		Posting{"stock", "loss", 300},
		Posting{"gain", "stock", 4000},
		Posting{"supply", "late", 50000},
	)
}

func TestPostOfNone(t *testing.T) {
	wantPosted(t, api.Figures{})
}

// TestPostOfEach: each figure for itself, above and below 0, and all but it.
func TestPostOfEach(t *testing.T) {
	figures := func(n [5]int) api.Figures {
		return api.Figures{In: n[0], Out: n[1], Loss: n[2], Gain: n[3], Late: n[4]}
	}
	sides := [5][2]string{{"stock", "supply"}, {"sold", "stock"}, {"loss", "stock"}, {"stock", "gain"}, {"late", "supply"}}
	for i, side := range sides {
		for _, amount := range []int{1, 2, 99, 12345, api.MaxTotal, api.MaxTotal + 1, math.MaxInt} {
			var one [5]int
			one[i] = amount
			wantPosted(t, figures(one), Posting{side[0], side[1], amount})
			one[i] = -amount
			wantPosted(t, figures(one), Posting{side[1], side[0], amount})
		}
		rest := [5]int{7, -7, 7, -7, 7}
		rest[i] = 0
		var want []Posting
		for j, n := range rest {
			switch {
			case n > 0:
				want = append(want, Posting{sides[j][0], sides[j][1], 7})
			case n < 0:
				want = append(want, Posting{sides[j][1], sides[j][0], 7})
			}
		}
		wantPosted(t, figures(rest), want...)
	}
}

// TestPostOfSome: some above 0, some below, some 0, in the order of the figures, not of the amounts or accounts.
func TestPostOfSome(t *testing.T) {
	wantPosted(t, api.Figures{In: 10, Out: -20, Late: 5}, Posting{"stock", "supply", 10}, Posting{"stock", "sold", 20}, Posting{"late", "supply", 5})
	wantPosted(t, api.Figures{Loss: 9, Gain: -3}, Posting{"loss", "stock", 9}, Posting{"gain", "stock", 3})
	wantPosted(t, api.Figures{Out: 5, Loss: 5}, Posting{"sold", "stock", 5}, Posting{"loss", "stock", 5})
}

// TestPostOfLeast: the least int has none as much above 0; it wraps.
func TestPostOfLeast(t *testing.T) {
	wantPosted(t, api.Figures{In: math.MinInt, Late: math.MinInt + 1}, Posting{"supply", "stock", math.MinInt}, Posting{"supply", "late", math.MaxInt})
}

// 7.1: Trial

func TestTrialOfNone(t *testing.T) {
	wantTrial(t, nil)
	wantTrial(t, []Posting{})
}

func TestTrial(t *testing.T) {
	wantTrial(t, []Posting{{"stock", "supply", 1000}, {"sold", "stock", 300}, {"stock", "supply", 50}, {"loss", "stock", 7}, {"stock", "sold", 20}, {"late", "supply", 4}, {"stock", "gain", 90}},
		Balance{"gain", -90},
		Balance{"late", 4},
		Balance{"loss", 7},
		Balance{"sold", 280},
		Balance{"stock", 853},
		Balance{"supply", -1054},
	)
}

// TestTrialOfOne: the Debit has the amount, the Credit that less.
func TestTrialOfOne(t *testing.T) {
	wantTrial(t, []Posting{{"stock", "supply", 5}}, Balance{"stock", 5}, Balance{"supply", -5})
	wantTrial(t, []Posting{{"supply", "stock", 5}}, Balance{"stock", -5}, Balance{"supply", 5})
}

// TestTrialOfNought: an account whose balance is 0 is told, too.
func TestTrialOfNought(t *testing.T) {
	wantTrial(t, []Posting{{"stock", "supply", 5}, {"sold", "stock", 5}}, Balance{"sold", 5}, Balance{"stock", 0}, Balance{"supply", -5})
	wantTrial(t, []Posting{{"stock", "gain", 5}, {"gain", "stock", 5}}, Balance{"gain", 0}, Balance{"stock", 0})
	wantTrial(t, []Posting{{"late", "loss", 0}}, Balance{"late", 0}, Balance{"loss", 0})
	wantTrial(t, []Posting{{"stock", "stock", 5}}, Balance{"stock", 0})
}

// TestTrialOfOtherAccounts: accounts may be any texts; their order is that of their bytes.
func TestTrialOfOtherAccounts(t *testing.T) {
	wantTrial(t, []Posting{{"b", "a", 1}, {"ab", "", 2}, {"B", "\xff", 3}, {"a\x00", "é", 4}, {"10", "9", 5}, {"z", " ", 6}},
		Balance{"", -2},
		Balance{" ", -6},
		Balance{"10", 5},
		Balance{"9", -5},
		Balance{"B", 3},
		Balance{"a", -1},
		Balance{"a\x00", 4},
		Balance{"ab", 2},
		Balance{"b", 1},
		Balance{"z", 6},
		Balance{"é", -4},
		Balance{"\xff", -3},
	)
}

// TestTrialOfOtherAmounts: amounts may be any; they wrap where they must.
func TestTrialOfOtherAmounts(t *testing.T) {
	wantTrial(t, []Posting{{"stock", "sold", -5}, {"stock", "sold", 2}}, Balance{"sold", 3}, Balance{"stock", -3})
	wantTrial(t, []Posting{{"stock", "sold", math.MaxInt}, {"stock", "sold", 1}}, Balance{"sold", math.MinInt}, Balance{"stock", math.MinInt})
	wantTrial(t, []Posting{{"stock", "sold", math.MinInt}}, Balance{"sold", math.MinInt}, Balance{"stock", math.MinInt})
}

// TestTrialOfAnyOrder: however postings stand.
func TestTrialOfAnyOrder(t *testing.T) {
	d := die(3)
	l := drawnPostings(&d, 60)
	want := Trial(l)
	for range 50 {
		for i := range l {
			j := d.draw(i + 1)
			l[i], l[j] = l[j], l[i]
		}
		wantTrial(t, l, want...)
	}
}

// TestBothSidesAreAlike: all balances together are 0, and each is what its postings say.
func TestBothSidesAreAlike(t *testing.T) {
	for seed := range 100 {
		d := die(seed)
		l := drawnPostings(&d, seed)
		sum := 0
		for i, b := range Trial(l) {
			if i > 0 && Trial(l)[i-1].Account >= b.Account {
				t.Errorf("seed %d: %q out of order", seed, b.Account)
			}
			sum += b.Amount
			for _, p := range l {
				if p.Debit == b.Account {
					b.Amount -= p.Amount
				}
				if p.Credit == b.Account {
					b.Amount += p.Amount
				}
			}
			if b.Amount != 0 {
				t.Errorf("seed %d: %q has %d too much", seed, b.Account, b.Amount)
			}
		}
		if sum != 0 {
			t.Errorf("seed %d: all balances are %d", seed, sum)
		}
	}
}

// TestTrialOfPost: what figures come to, account by account.
func TestTrialOfPost(t *testing.T) {
	d := die(11)
	for range 200 {
		f := drawnFigures(&d)
		want := map[string]int{"stock": f.In - f.Out - f.Loss + f.Gain, "supply": -f.In - f.Late, "sold": f.Out, "loss": f.Loss, "gain": -f.Gain, "late": f.Late}
		for _, b := range Trial(Post(f)) {
			if want[b.Account] != b.Amount {
				t.Errorf("%+v: %q has %d, not %d", f, b.Account, b.Amount, want[b.Account])
			}
			delete(want, b.Account)
		}
		for account, n := range want {
			if n != 0 {
				t.Errorf("%+v: no balance of %q, which has %d", f, account, n)
			}
		}
	}
}

// drawnEvent is an event of one of several items and months, Right, without an ID.
func drawnEvent(d *die) api.Event {
	e := api.Event{Item: []string{"nail", "screw"}[d.draw(2)], Kind: api.In + d.draw(4), Day: d.draw(150)}
	switch e.Kind {
	case api.In:
		e.Qty, e.Price = 1+d.draw(9), d.draw(100)
	case api.Charge:
		e.Price, e.Of = 1+d.draw(100), 1+d.draw(20)
	default:
		e.Qty = 1 + d.draw(9)
	}
	return e
}

// TestBooksShowWhatIsThere: the balance of stock, of what was posted at all closes and what is open, is the value that is there.
func TestBooksShowWhatIsThere(t *testing.T) {
	for seed := range 60 {
		d := die(seed)
		var b book.Book
		var p period.Periods
		for range 40 {
			if _, err := b.Post(drawnEvent(&d)); err != nil {
				t.Fatal(err)
			}
			if d.draw(6) == 0 {
				// Refused, if the month is closed: then there is nothing to post.
				p.Close(&b, d.draw(5))
			}
		}
		var l []Posting
		for _, c := range p.Closed() {
			l = append(l, Post(c.Posted)...)
		}
		l = append(l, Post(p.Open(&b))...)
		r := cost.Run(b.As(-1))
		_, nails := r.Sum("nail")
		_, screws := r.Sum("screw")
		shown := 0
		for _, balance := range Trial(l) {
			if balance.Account == "stock" {
				shown += balance.Amount
			}
		}
		if shown != nails+screws {
			t.Errorf("seed %d: stock has %d, %d is there", seed, shown, nails+screws)
		}
	}
}

// TestTrialOfMany: a list that is longer than any house's, of as many accounts.
func TestTrialOfMany(t *testing.T) {
	const many = 200_000
	l := make([]Posting, 0, many)
	for i := range many {
		l = append(l, Posting{strconv.Itoa(many + i), "all", 1})
	}
	got := Trial(l)
	if len(got) != many+1 || got[0] != (Balance{strconv.Itoa(many), 1}) || got[many] != (Balance{"all", -many}) {
		t.Errorf("%d balances, the last %+v", len(got), got[len(got)-1])
	}
}

// 7.2: Print

func TestPrintOfNone(t *testing.T) {
	wantPrinted(t, nil, "")
	wantPrinted(t, []Posting{}, "")
}

func TestPrint(t *testing.T) {
	wantPrinted(t, []Posting{{"stock", "supply", 100}}, "1.00 stock from supply\n")
	wantPrinted(t, []Posting{{"stock", "supply", 1}, {"sold", "stock", 123450}, {"stock", "supply", 1}, {"gain", "stock", api.MaxTotal}},
		"0.01 stock from supply\n1234.50 sold from stock\n0.01 stock from supply\n10000000000.00 gain from stock\n")
	wantPrinted(t, Post(api.Figures{In: 1, Out: -20, Loss: 300, Gain: 4000, Late: 50000}),
		"0.01 stock from supply\n0.20 stock from sold\n3.00 loss from stock\n40.00 stock from gain\n500.00 late from supply\n")
}

// TestPrintOfAny: it writes what Parse would not read, too.
func TestPrintOfAny(t *testing.T) {
	wantPrinted(t, []Posting{{}}, "0.00  from \n")
	wantPrinted(t, []Posting{{"stock", "stock", -5}}, "-0.05 stock from stock\n")
	wantPrinted(t, []Posting{{"a b", "c\nd\xff", math.MinInt}, {"", "from", math.MaxInt}}, "-92233720368547758.08 a b from c\nd\xff\n92233720368547758.07  from from\n")
}

// 7.2: Parse

func TestParseOfNone(t *testing.T) {
	wantRead(t, "")
}

func TestParse(t *testing.T) {
	wantRead(t, "1.00 stock from supply\n", Posting{"stock", "supply", 100})
	wantRead(t, "0.01 stock from supply\n1234.50 sold from stock\n0.01 stock from supply\n10000000000.00 gain from stock\n0.10 late from loss\n",
		Posting{"stock", "supply", 1}, Posting{"sold", "stock", 123450}, Posting{"stock", "supply", 1}, Posting{"gain", "stock", api.MaxTotal}, Posting{"late", "loss", 10})
}

// TestParseOfAccounts: any two accounts, but not one twice.
func TestParseOfAccounts(t *testing.T) {
	for _, debit := range names {
		for _, credit := range names {
			line := "1.00 " + debit + " from " + credit + "\n"
			if debit == credit {
				wantRefused(t, line, 0)
				continue
			}
			wantRead(t, line, Posting{debit, credit, 100})
		}
	}
}

func TestParseOfAmounts(t *testing.T) {
	for text, amount := range map[string]int{"0.01": 1, "0.10": 10, "0.99": 99, "1.00": 100, "10.01": 1001, "9999999999.99": api.MaxTotal - 1, "10000000000.00": api.MaxTotal} {
		wantRead(t, text+" sold from stock\n", Posting{"sold", "stock", amount})
	}
}

// wrong are lines that tell no posting.
var wrong = []string{
	// Amounts: beyond the bounds, or written otherwise.
	"0.00 stock from supply",
	"-0.01 stock from supply",
	"-1.00 stock from supply",
	"-10000000000.00 stock from supply",
	"10000000000.01 stock from supply",
	"99999999999.99 stock from supply",
	"92233720368547758.07 stock from supply",
	"184467440737095516.17 stock from supply",
	"1 stock from supply",
	"1. stock from supply",
	"1.0 stock from supply",
	"1.000 stock from supply",
	".01 stock from supply",
	"01.00 stock from supply",
	"00.01 stock from supply",
	"+1.00 stock from supply",
	"-0.00 stock from supply",
	"1,00 stock from supply",
	"1.0a stock from supply",
	"x stock from supply",
	"1.00\tstock from supply",
	// Accounts: others, or one twice.
	"1.00 stock from stock",
	"1.00 gain from gain",
	"1.00 stocks from supply",
	"1.00 stoc from supply",
	"1.00 Stock from supply",
	"1.00 STOCK from supply",
	"1.00 stock from Supply",
	"1.00 stock from supplies",
	"1.00 stock from nail",
	"1.00 nail from stock",
	"1.00 out from stock",
	"1.00 from from from",
	"1.00 stock from from",
	"1.00 st\x00ck from supply",
	"1.00 stock from supply\x00",
	"1.00 stock from supply\r",
	// The word between.
	"1.00 stock to supply",
	"1.00 stock From supply",
	"1.00 stock fro supply",
	"1.00 stock fromm supply",
	"1.00 stock stock supply",
	"1.00 stock 1.00 supply",
	// Blanks too many, or none.
	" 1.00 stock from supply",
	"1.00  stock from supply",
	"1.00 stock  from supply",
	"1.00 stock from  supply",
	"1.00 stock from supply ",
	"1.00stock from supply",
	"1.00 stockfrom supply",
	"1.00 stock fromsupply",
	"1.00 stock from\tsupply",
	"1.00 stock\u00a0from supply",
	// Parts too few, too many, or in another order.
	"",
	" ",
	"   ",
	"1.00",
	"1.00 ",
	"1.00 stock",
	"1.00 stock from",
	"1.00 stock from ",
	"1.00 stock supply",
	"1.00  from supply",
	"1.00  from ",
	" stock from supply",
	"stock from supply",
	"from",
	"1.00 stock from supply supply",
	"1.00 stock from supply gain",
	"1.00 stock from supply from gain",
	"1.00 1.00 stock from supply",
	"stock from supply 1.00",
	"stock 1.00 from supply",
}

// TestParseOfWrongLines: each of them as the one line, the first one, one between, the last one, with its line feed and without.
func TestParseOfWrongLines(t *testing.T) {
	const good = "1.00 stock from supply\n"
	for _, line := range wrong {
		wantRefused(t, line+"\n", 0)
		wantRefused(t, line+"\n"+good, 0)
		wantRefused(t, line+"\n"+good+good, 0)
		wantRefused(t, good+line+"\n"+good, 1)
		wantRefused(t, good+good+line+"\n"+good+good, 2)
		wantRefused(t, good+good+good+line+"\n", 3)
		if line != "" {
			wantRefused(t, line, 0)
			wantRefused(t, good+good+good+line, 3)
		}
	}
}

// TestParseOfFirstWrong: of several lines that are wrong the first one is told, whatever is wrong of it.
func TestParseOfFirstWrong(t *testing.T) {
	const good = "1.00 stock from supply\n"
	for _, first := range wrong {
		for _, second := range wrong {
			wantRefused(t, good+first+"\n"+good+second+"\n", 1)
		}
		wantRefused(t, first+"\n1.00 stock from supply", 0)
	}
}

// TestParseWithoutLineFeed: the last line is told, if it lacks its line feed, but not ahead of one that is wrong.
func TestParseWithoutLineFeed(t *testing.T) {
	const good = "1.00 stock from supply\n"
	wantRefused(t, "1.00 stock from supply", 0)
	wantRefused(t, good+"0.01 sold from stock", 1)
	wantRefused(t, good+good+good+"0.01 sold from stock", 3)
	wantRefused(t, good+"\n0.01 sold from stock", 1)
	wantRefused(t, "\n", 0)
	wantRefused(t, "\n\n", 0)
	wantRefused(t, "\n"+good, 0)
	wantRefused(t, good+"\n", 1)
	wantRefused(t, good+good+"\n\n", 2)
	wantRefused(t, "\r\n", 0)
	wantRefused(t, "1.00 stock from supply\r\n", 0)
	wantRefused(t, "1.00 stock from supply\x0b", 0)
}

// TestWhatIsWrittenIsReadAsItWas: and what was read is written just so.
func TestWhatIsWrittenIsReadAsItWas(t *testing.T) {
	for seed := range 200 {
		d := die(seed)
		l := drawnPostings(&d, seed/2)
		s := Print(l)
		wantRead(t, s, l...)
		again, err := Parse(s)
		if err != nil || Print(again) != s {
			t.Errorf("seed %d: %q is written otherwise", seed, s)
		}
		f := Post(drawnFigures(&d))
		wantRead(t, Print(f), f...)
	}
}

// TestPrintIsNotReadBeyondBounds: what Print writes of postings that may not be is refused at the first of them.
func TestPrintIsNotReadBeyondBounds(t *testing.T) {
	good := Posting{"stock", "supply", 1}
	for _, p := range []Posting{
		{}, {"stock", "supply", 0}, {"stock", "supply", -1}, {"stock", "supply", api.MaxTotal + 1}, {"stock", "supply", math.MaxInt}, {"stock", "supply", math.MinInt},
		{"stock", "stock", 1}, {"", "stock", 1}, {"stock", "", 1}, {"nail", "stock", 1}, {"stock", "nail", 1}, {" stock", "supply", 1}, {"stock", "supply ", 1}, {"stock from gain", "supply", 1},
	} {
		wantRefused(t, Print([]Posting{p, good}), 0)
		wantRefused(t, Print([]Posting{good, p, good}), 1)
		wantRefused(t, Print([]Posting{good, good, p}), 2)
	}
}

// form is the form of a line; the bounds of its amount, and that no account is there twice, are asked besides.
var form = regexp.MustCompile(`\A(0|[1-9][0-9]{0,10})\.([0-9]{2}) (gain|late|loss|sold|stock|supply) from (gain|late|loss|sold|stock|supply)\n\z`)

// firstWrong is the first line of a text that tells no posting, asked by its form; -1: there is none.
func firstWrong(s string) int {
	for i, line := range strings.SplitAfter(s, "\n") {
		if line == "" {
			// What stands behind the last line feed is no line, if it is empty.
			return -1
		}
		m := form.FindStringSubmatch(line)
		if m == nil || m[3] == m[4] {
			return i
		}
		if amount, err := strconv.Atoi(m[1] + m[2]); err != nil || amount < 1 || amount > api.MaxTotal {
			return i
		}
	}
	return -1
}

// wantAsForm fails, unless a text is read, or refused, as its lines' form says.
func wantAsForm(t *testing.T, s string) {
	t.Helper()
	if place := firstWrong(s); place >= 0 {
		wantRefused(t, s, place)
		return
	}
	l, err := Parse(s)
	if err != nil || Print(l) != s {
		t.Errorf("Parse of %q: %+v, %v", s, l, err)
	}
}

// TestParseOfChangedTexts: each byte of a text changed, taken out, put twice, and the text cut there.
func TestParseOfChangedTexts(t *testing.T) {
	const text = "0.01 stock from supply\n10000000000.00 sold from loss\n7.50 gain from late\n"
	for i := range len(text) {
		wantAsForm(t, text[:i])
		wantAsForm(t, text[i:])
		wantAsForm(t, text[:i]+text[i+1:])
		wantAsForm(t, text[:i]+text[i:i+1]+text[i:])
		for c := range 256 {
			wantAsForm(t, text[:i]+string([]byte{byte(c)})+text[i+1:])
			wantAsForm(t, text[:i]+string([]byte{byte(c)})+text[i:])
		}
	}
}

// TestParseOfMixedParts: parts of lines, however they stand.
func TestParseOfMixedParts(t *testing.T) {
	parts := []string{"1.00", "0.00", "stock", "supply", "from", " ", " ", "\n", "1.00 stock from supply\n", "0.05 sold from ", "late\n", ""}
	d := die(8)
	for range 20_000 {
		var s strings.Builder
		for range d.draw(9) {
			s.WriteString(parts[d.draw(len(parts))])
		}
		wantAsForm(t, s.String())
	}
}

// TestParseOfMany: many lines, and lines that are long.
func TestParseOfMany(t *testing.T) {
	const many = 200_000
	d := die(6)
	l := drawnPostings(&d, many)
	s := Print(l)
	wantRead(t, s, l...)
	wantRefused(t, s[:len(s)-1], many-1)
	wantRefused(t, s+"\n", many)
	for _, part := range []string{" ", "0", "1", "a", "\n", "1.00 ", "1.00 stock from supply ", "\xff"} {
		wantRefused(t, strings.Repeat(part, 1_000_000), 0)
		wantRefused(t, "1.00 stock from supply\n"+strings.Repeat(part, 1_000_000)+"\n", 1)
	}
}

// P4

// TestListsStay: no list that is handed in is written into, nor what stands behind its length, and what comes out is fresh.
func TestListsStay(t *testing.T) {
	d := die(4)
	whole := drawnPostings(&d, 40)
	l, kept := whole[:30], slices.Clone(whole)
	balances, text := Trial(l), Print(l)
	wantBalances := slices.Clone(balances)
	for i := range balances {
		balances[i] = Balance{}
	}
	wantTrial(t, l, wantBalances...)
	wantPrinted(t, l, text)
	if !slices.Equal(whole, kept) {
		t.Error("a list that was handed in is changed")
	}
	f := api.Figures{In: 1, Out: 2, Loss: 3, Gain: 4, Late: 5}
	for _, answer := range []func() []Posting{
		func() []Posting { return Post(f) },
		func() []Posting { read, _ := Parse(text); return read },
	} {
		first := answer()
		want := slices.Clone(first)
		for i := range first {
			first[i] = Posting{}
		}
		if got := answer(); !slices.Equal(got, want) {
			t.Errorf("two answers share memory: %+v", got)
		}
	}
}
