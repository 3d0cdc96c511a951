package tests

import (
	"testing"

	"loop.example/dunserv/impl"
)

// Nothing is written into an argument of a history's function or behind its end, and no answer shares memory with one, or within itself.
func TestHistoriesShareNoMemory(t *testing.T) {
	t.Parallel()
	type given struct {
		Lines   []impl.FlowLine
		Args    []int
		Signals []impl.RunVar
		Picks   []int
		List    []impl.HistEntry
		Spoiled []impl.HistEntry
	}
	for seed := range int64(1500) {
		m := newMaker(seed)
		lines := m.runFlow(4 + m.Intn(26))
		list, s := m.history(t, lines, m.Intn(25))
		g := withRoom(given{lines, m.numsFor(lines), m.signalList(), m.picks(), list, m.spoilHist(list)})
		before := wholeOf(g)
		played := impl.HistOf(g.Lines, g.Args, g.Signals, g.Picks, 30)
		more, _ := impl.HistMore(g.Lines, g.List, m.hap(s))
		refused, _ := impl.HistMore(g.Lines, g.List, impl.RunHap{Kind: 6})
		spoiled, _ := impl.HistMore(g.Lines, g.Spoiled, m.hap(s))
		replayed, _ := impl.HistReplay(g.Lines, g.List)
		other, _ := impl.HistReplay(g.Lines, g.Spoiled)
		read, _ := impl.HistRead(impl.HistWrite(g.List))
		impl.HistWrite(g.Spoiled)
		if after := wholeOf(g); after != before {
			t.Fatalf("%s\nis changed to\n%s", before, after)
		}
		sharesNothing(t, g, played, more, refused, spoiled, replayed, other, read)
	}
}

// What would be too long is new memory, too.
func TestLongHistoriesShareNoMemory(t *testing.T) {
	for _, many := range []int{399, 400} {
		lines, list := waiting(t, many)
		list = withRoom(list)
		before := wholeOf(list)
		more, code := impl.HistMore(lines, list, came("go", 7))
		if after := wholeOf(list); code != 10 || after != before {
			t.Fatalf("%d\n%s\nis changed to\n%s", code, before, after)
		}
		sharesNothing(t, lines, list, more)
	}
}

// Histories at once do not disturb each other.
func TestHistoriesAtOnce(t *testing.T) {
	lines := linesOf(t, payFlow)
	want := impl.HistOf(lines, []int{3}, nil, nil, 200)
	text := impl.HistWrite(want)
	told := make(chan bool)
	for range 16 {
		go func() {
			same := true
			for range 100 {
				list := impl.HistOf(lines, []int{3}, nil, nil, 200)
				_, found := impl.HistReplay(lines, want)
				read, _ := impl.HistRead(text)
				same = same && found.Code == 0 && sameHist(list, want) && sameHist(read, want) && impl.HistWrite(read) == text
			}
			told <- same
		}()
	}
	for range 16 {
		if !<-told {
			t.Error("another answer")
		}
	}
}
