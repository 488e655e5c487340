package many

import (
	"errors"
	"fmt"
	"math"
	"runtime"
	"slices"
	"strings"
	"sync"
	"testing"
	"time"

	"tallyman/api"
	"tallyman/desk"
)

// die draws numbers, the same each time.
type die uint32

func (d *die) draw(most int) int {
	*d = *d*1664525 + 1013904223
	return int(*d>>16) % most
}

// drawnText is one of a session, now and then one of any bytes.
func drawnText(d *die) string {
	if d.draw(8) == 0 {
		b := make([]byte, d.draw(60))
		for i := range b {
			b[i] = byte(d.draw(256))
		}
		return string(b)
	}
	lines := []string{
		"post 1900-01-05 in a 3 at 1.00", "post 1900-02-05 in b 7 at 0.33", "post 1900-02-06 out a 2", "post 1900-01-31 count b 3",
		"correct 1 1900-01-06 in a 9 at 0.10", "void 2", "close 1900-01", "close 1900-03", "tear 60", "tear 999", "x", "",
		"at 1900-02-28 -1", "change 1900-02-28 1 3", "events -1", "history 1", "moves a", "open", "closed", "months", "trial", "turn", "day 1900-01-05", "sum a b", "help",
	}
	s := ""
	for range d.draw(30) {
		s += lines[d.draw(len(lines))] + "\n"
	}
	return s
}

// drawnTexts are so many of them.
func drawnTexts(d *die, n int) []string {
	l := make([]string, n)
	for i := range l {
		l[i] = drawnText(d)
	}
	return l
}

// alone are answers of sessions, one behind the other.
func alone(texts []string) []string {
	var l []string
	for _, text := range texts {
		l = append(l, desk.Session(text))
	}
	return l
}

// answers fails, unless texts are answered by workers as they are one behind the other.
func answers(t *testing.T, texts []string, workers int) {
	t.Helper()
	want := alone(texts)
	got, err := All(texts, workers)
	if err != nil || !slices.Equal(got, want) {
		t.Fatalf("%d texts, %d workers: %.600q, %v, not %.600q", len(texts), workers, got, err, want)
	}
}

// refuses fails, unless there are too many texts, or not so many workers.
func refuses(t *testing.T, texts []string, workers int) {
	t.Helper()
	var at *api.At
	if l, err := All(texts, workers); len(l) != 0 || api.Tell(err) != api.ErrLimit || errors.As(err, &at) {
		t.Errorf("%d texts, %d workers: %.300q, %v", len(texts), workers, l, err)
	}
}

// 12.1: All

func TestAll(t *testing.T) {
	texts := []string{"post 1900-01-05 in a 3 at 1.00\nmoves a\n", "turn", "", "x\n\nhelp", "turn\n", strings.Repeat("x", api.MaxText+1)}
	want := []string{
		"posted 1\nmoves 1:3.00:0:0.00:3=3.00\n",
		"turn 0\n",
		"ok\n",
		"error 3\nok\nat change close closed correct day events help history moves months open post sum tear trial turn void\n",
		"turn 0\n",
		"error 4\n",
	}
	for workers := 1; workers <= 16; workers++ {
		if got, err := All(texts, workers); err != nil || !slices.Equal(got, want) {
			t.Errorf("%d workers: %q, %v, not %q", workers, got, err, want)
		}
	}
}

// TestOrder: each answer stands where its text does, though those ahead of it take longer.
func TestOrder(t *testing.T) {
	var texts, want []string
	for i := range 50 {
		texts = append(texts, strings.Repeat("post 1900-01-05 in a 1 at 0.01\n", 50-i)+strings.Repeat("events -1\n", 50-i)+"turn")
		want = append(want, fmt.Sprintf("turn %d", 50-i))
	}
	for workers := 1; workers <= 16; workers++ {
		got, err := All(texts, workers)
		if err != nil || len(got) != 50 {
			t.Fatalf("%d workers: %d answers, %v", workers, len(got), err)
		}
		for i, s := range got {
			lines := strings.Split(strings.TrimSuffix(s, "\n"), "\n")
			if last := lines[len(lines)-1]; last != want[i] || len(lines) != 2*(50-i)+1 {
				t.Errorf("%d workers, text %d: %d lines, the last one %q, not %q", workers, i, len(lines), last, want[i])
			}
		}
	}
}

// TestCounts: each number of texts by each number of workers, more of these than of those among them.
func TestCounts(t *testing.T) {
	d := die(31)
	for n := range 51 {
		texts := drawnTexts(&d, n)
		for workers := 1; workers <= 16; workers++ {
			answers(t, texts, workers)
		}
	}
}

func TestNone(t *testing.T) {
	for _, texts := range [][]string{nil, {}} {
		for _, workers := range []int{1, 2, 16} {
			if l, err := All(texts, workers); len(l) != 0 || err != nil {
				t.Errorf("no texts, %d workers: %q, %v", workers, l, err)
			}
		}
	}
}

func TestLimits(t *testing.T) {
	fifty := slices.Repeat([]string{"turn"}, 50)
	answers(t, fifty, 1)
	answers(t, fifty, 16)
	answers(t, fifty[:1], 16)
	for _, workers := range []int{0, -1, 17, 18, 32, 1 << 20, math.MaxInt, math.MinInt, 1<<32 + 1} {
		for _, texts := range [][]string{nil, {}, {"turn"}, fifty, append(fifty, "turn")} {
			refuses(t, texts, workers)
		}
	}
	for _, n := range []int{51, 52, 100, 100_000} {
		for _, workers := range []int{1, 2, 16} {
			refuses(t, make([]string, n), workers)
		}
	}
}

// TestSameTexts: sessions of one text see nothing of each other.
func TestSameTexts(t *testing.T) {
	text := "turn\npost 1900-01-05 in a 3 at 1.00\nclose 1900-01\nevents -1\ntear 46\nclosed\nturn"
	want := "turn 0\nposted 1\nclosed 1\nevents | 1 1900-01-05 in a 3 at 1.00\ntear 1 46\nclosed\nturn 1\n"
	for _, workers := range []int{1, 3, 16} {
		got, err := All(slices.Repeat([]string{text}, 50), workers)
		if err != nil || !slices.Equal(got, slices.Repeat([]string{want}, 50)) {
			t.Errorf("%d workers: %.600q, %v", workers, got, err)
		}
	}
}

// TestAnswersHangOnTheirTexts: whatever the other texts are, and wherever a text stands.
func TestAnswersHangOnTheirTexts(t *testing.T) {
	d := die(32)
	for range 50 {
		text := drawnText(&d)
		want := desk.Session(text)
		for range 5 {
			texts := drawnTexts(&d, 1+d.draw(50))
			at := d.draw(len(texts))
			texts[at] = text
			got, err := All(texts, 1+d.draw(16))
			if err != nil || len(got) != len(texts) || got[at] != want {
				t.Fatalf("%q at %d of %d: %.600q, %v, not %q", text, at, len(texts), got, err, want)
			}
		}
	}
}

// What must not happen

// TestListIsLeftAlone: neither what is handed in nor what stands behind its length is written into, and it is not kept.
func TestListIsLeftAlone(t *testing.T) {
	d := die(33)
	all := drawnTexts(&d, 50)
	was := slices.Clone(all)
	want := alone(all[:20])
	for _, workers := range []int{1, 4, 16, 0, 17} {
		got, err := All(all[:20], workers)
		if !slices.Equal(all, was) {
			t.Fatalf("%d workers: the list was written into", workers)
		}
		if err != nil {
			continue
		}
		clear(all)
		if !slices.Equal(got, want) {
			t.Errorf("%d workers: the answer hangs on the list", workers)
		}
		copy(all, was)
	}
}

// TestAnswersAreFresh: who writes into an answer changes no other one.
func TestAnswersAreFresh(t *testing.T) {
	texts := []string{"turn", "help", "open"}
	first, _ := All(texts, 2)
	second, _ := All(texts, 2)
	clear(first)
	first = append(first[:0], "x", "y", "z")
	if want := alone(texts); !slices.Equal(second, want) {
		t.Errorf("%q, not %q, behind %q", second, want, first)
	}
	answers(t, texts, 2)
}

// TestNoneLeftBehind: workers are gone when all is answered, and when nothing is.
func TestNoneLeftBehind(t *testing.T) {
	d := die(34)
	texts := drawnTexts(&d, 50)
	before := runtime.NumGoroutine()
	for range 20 {
		for _, workers := range []int{0, 1, 2, 16, 17} {
			All(texts, workers)
			All(texts[:3], workers)
			All(nil, workers)
			All(make([]string, 51), workers)
		}
	}
	// A worker that has told that it is done may be on its last step yet.
	for range 1_000 {
		if runtime.NumGoroutine() <= before {
			return
		}
		time.Sleep(time.Millisecond)
	}
	t.Errorf("%d goroutines, where there were %d", runtime.NumGoroutine(), before)
}

// TestAtTheSameTime: several calls that run beside each other.
func TestAtTheSameTime(t *testing.T) {
	d := die(35)
	var running sync.WaitGroup
	for range 8 {
		texts := drawnTexts(&d, 30)
		want := alone(texts)
		running.Go(func() {
			for workers := 1; workers <= 16; workers++ {
				if got, err := All(texts, workers); err != nil || !slices.Equal(got, want) {
					t.Errorf("%d workers: %.600q, %v", workers, got, err)
				}
			}
		})
	}
	running.Wait()
}
