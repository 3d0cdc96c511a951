package tests

import (
	"runtime"
	"testing"
	"time"

	"loop.example/dunserv/impl"
)

// Nothing is written into an argument of a change's function or behind its end, and no answer shares memory with one, or within itself.
func TestChangesShareNoMemory(t *testing.T) {
	t.Parallel()
	type given struct {
		Lines []impl.FlowLine
		More  []impl.FlowLine
		Next  []impl.FlowLine
	}
	swapped, unlike := 0, 0
	for seed := range int64(1200) {
		m := newMaker(seed)
		lines := m.runFlow(3 + m.Intn(9))
		from, to, more, _, ok := m.swap(lines)
		if !ok {
			from, to, more = 1, 1, m.putIn(lines)
		}
		g := withRoom(given{lines, more, m.another(lines)})
		before := wholeOf(g)
		changed, ok := impl.VerSwap(g.Lines, from, to, "fix", g.More)
		put, _ := impl.VerInsert(g.Lines, from, "fix", g.More)
		own, _ := impl.VerInsert(g.Lines, from, "fix", g.Lines[from:to])
		refused, _ := impl.VerSwap(g.Lines, from, to, "", g.More)
		code, list := impl.VerLook(g.Lines, g.Next)
		again, other := impl.VerLook(g.Lines, g.Next)
		if after := wholeOf(g); after != before {
			t.Fatalf("%s\nis changed to\n%s", before, after)
		}
		if code != again || !sameHist(list, other) {
			t.Fatalf("%d %q, then %d %q", code, histTold(list), again, histTold(other))
		}
		sharesNothing(t, g, changed, put, own, refused, list, other)
		if ok {
			swapped++
		}
		if code == 1 {
			unlike++
		}
	}
	if swapped < 500 || unlike < 300 {
		t.Errorf("swapped: %d, unlike: %d", swapped, unlike)
	}
}

// Of many histories that are unlike the first one is told, however the goroutines run, and looks at once do not disturb each other.
func TestLooksAtOnce(t *testing.T) {
	old := flowOf(t, "n m", "both;do a x;get b go for 3;and;do c y undo r;sleep 2;end;return 5")
	next := flowOf(t, "n m", "both;do a x;get b go for 3;and;do c y undo r;sleep 3;end;return 5")
	busy := flowOf(t, "", "while 1 same 1;do a x;end;return 1")
	want, first, _ := modelLook(old, next)
	if want != 1 || histTold(first) != "start 0 0;ask 1 0.0 x;ask 2 1.0 y;done 2 0;ask 3 1.1 - 2" {
		t.Fatalf("%d %q", want, histTold(first))
	}
	told := make(chan bool)
	for range 16 {
		go func() {
			same := true
			for range 30 {
				code, list := impl.VerLook(old, next)
				many, none := impl.VerLook(busy, busy)
				same = same && code == want && sameHist(list, first) && many == 2 && len(none) == 0
			}
			told <- same
		}()
	}
	for range 16 {
		if !<-told {
			t.Error("another answer")
		}
	}
}

// With one processor, and with many, a look tells the same.
func TestLooksByProcessors(t *testing.T) {
	defer runtime.GOMAXPROCS(runtime.GOMAXPROCS(0))
	for seed := range int64(60) {
		m := newMaker(seed)
		old := m.runFlow(2 + m.Intn(8))
		next := m.another(old)
		want, first, _ := modelLook(old, next)
		for _, many := range []int{1, 2, 32} {
			runtime.GOMAXPROCS(many)
			if code, list := impl.VerLook(old, next); code != want || !sameHist(list, first) {
				t.Fatalf("%d processors: %d %q, not %d %q", many, code, histTold(list), want, histTold(first))
			}
		}
	}
}

// Goroutines that replayed are through when a look answers: none is left behind.
func TestNoReplayIsLeft(t *testing.T) {
	old := flowOf(t, "n", "both;do a x;and;get b go;end;return 5")
	next := flowOf(t, "n", "return 5")
	before := runtime.NumGoroutine()
	for range 50 {
		impl.VerLook(old, old)
		impl.VerLook(old, next)
		impl.VerLook(old, nil)
	}
	for range 200 {
		if runtime.NumGoroutine() <= before {
			return
		}
		time.Sleep(10 * time.Millisecond)
	}
	t.Errorf("%d goroutines, there were %d", runtime.NumGoroutine(), before)
}
