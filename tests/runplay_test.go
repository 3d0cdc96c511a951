package tests

import (
	"fmt"
	"math"
	"math/big"
	"slices"
	"strings"
	"testing"

	"loop.example/dunserv/impl"
)

// modelAnswer works an answer out another way: all in one number, whole, and what is left of it at the end.
func modelAnswer(ask impl.RunAsk) int {
	sum := big.NewInt(7)
	add := func(num int) {
		sum.Mul(sum, big.NewInt(31))
		sum.Add(sum, big.NewInt(int64(num)))
	}
	for i := range len(ask.Key) {
		add(int(ask.Key[i]))
	}
	for i := range len(ask.Name) {
		add(int(ask.Name[i]))
	}
	for _, num := range ask.Args {
		left := big.NewInt(int64(num))
		add(int(left.Mod(left, big.NewInt(9973)).Int64()))
	}
	return int(sum.Mod(sum, big.NewInt(9973)).Int64())%7 - 2
}

func TestAnswers(t *testing.T) {
	for i, c := range []struct {
		ask  impl.RunAsk
		want int
	}{
		{impl.RunAsk{}, -2}, {impl.RunAsk{Id: 9}, -2}, {impl.RunAsk{Key: "0", Name: "book", Args: []int{1}}, modelAnswer(impl.RunAsk{Key: "0", Name: "book", Args: []int{1}})},
		{impl.RunAsk{Key: "0"}, (7*31+48)%7 - 2}, {impl.RunAsk{Name: "0"}, (7*31+48)%7 - 2}, {impl.RunAsk{Args: []int{48}}, (7*31+48)%7 - 2}, {impl.RunAsk{Args: []int{48 - 9973}}, (7*31+48)%7 - 2}, {impl.RunAsk{Args: []int{48 + 9973*5}}, (7*31+48)%7 - 2},
		{impl.RunAsk{Args: []int{-1}}, (7*31+9972)%9973%7 - 2}, {impl.RunAsk{Args: []int{9972}}, (7*31+9972)%9973%7 - 2}, {impl.RunAsk{Key: "\xff"}, (7*31+255)%7 - 2},
		{impl.RunAsk{Args: []int{math.MinInt}}, modelAnswer(impl.RunAsk{Args: []int{math.MinInt}})}, {impl.RunAsk{Args: []int{math.MaxInt, math.MinInt}}, modelAnswer(impl.RunAsk{Args: []int{math.MaxInt, math.MinInt}})},
	} {
		if got := impl.RunAnswer(c.ask); got != c.want {
			t.Errorf("case %d: %d, not %d", i, got, c.want)
		}
	}
}

// P15: an answer is in -2..4, and hangs on what is asked alone: not on its Id, nor on what was asked ahead.
func TestAnswersHangOnTheAskAlone(t *testing.T) {
	many := map[int]int{}
	for seed := range int64(20000) {
		m := newMaker(seed)
		ask := impl.RunAsk{Id: m.Intn(99), Key: m.of("0", "0.1", "10.23-", "", "\xff\x00"), Name: m.of("pay", "mail", "", "Ä", "x y")}
		for range m.Intn(5) {
			ask.Args = append(ask.Args, []int{m.num(), int(m.Uint64())}[m.Intn(2)])
		}
		got := impl.RunAnswer(ask)
		many[got]++
		again := ask
		again.Id += 5
		again.Args = append([]int{}, ask.Args...)
		if got < -2 || got > 4 || got != modelAnswer(ask) || got != impl.RunAnswer(again) {
			t.Fatalf("%+v: %d, not %d, then %d", ask, got, modelAnswer(ask), impl.RunAnswer(again))
		}
	}
	if len(many) != 7 {
		t.Errorf("answers: %v", many)
	}
}

func TestPlayOfTheExample(t *testing.T) {
	lines := linesOf(t, trip)
	first := modelAnswer(impl.RunAsk{Key: "0", Name: "book", Args: []int{1}})
	s, haps := impl.RunPlay(lines, []int{1}, []impl.RunVar{aVar("go", 3)}, nil, 1)
	if want := []impl.RunHap{came("go", 3), did(1, first)}; !slices.Equal(haps, want) || len(s.Box) != 1 || len(s.Asks) != 2 {
		t.Errorf("%+v, not %+v", haps, want)
	}
	s, haps = impl.RunPlay(lines, []int{1}, []impl.RunVar{aVar("go", 3)}, []int{1}, 200)
	want := []impl.RunHap{came("go", 3), did(1, first),
		did(3, modelAnswer(impl.RunAsk{Key: "1.1", Name: "send", Args: []int{1}})),
		did(2, modelAnswer(impl.RunAsk{Key: "0.1", Name: "book", Args: []int{1}})),
		did(4, modelAnswer(impl.RunAsk{Key: "2", Name: "work", Args: []int{0}}))}
	if !slices.Equal(haps, want) || s.Stands != impl.RunDone || s.Result != want[3].Num {
		t.Errorf("%+v, not %+v: %s", haps, want, told(lines, s))
	}
}

// What is answered, and in which order, by picks.
func TestPicks(t *testing.T) {
	lines := linesOf(t, "workflow w\nboth\nsleep 1\nsleep 2\nand\nboth\ndo a x\nand\ndo b y\nend\nend\nreturn 1")
	x, y := modelAnswer(impl.RunAsk{Key: "10.0", Name: "x"}), modelAnswer(impl.RunAsk{Key: "11.0", Name: "y"})
	for i, c := range []struct {
		picks []int
		most  int
		want  []impl.RunHap
	}{
		{nil, 9, []impl.RunHap{fired(1), did(2, x), did(3, y), fired(4)}},
		{[]int{0}, 9, []impl.RunHap{fired(1), did(2, x), did(3, y), fired(4)}},
		{[]int{1}, 9, []impl.RunHap{did(2, x), did(3, y), fired(1), fired(4)}},
		{[]int{2}, 9, []impl.RunHap{did(3, y), fired(1), did(2, x), fired(4)}},
		{[]int{-1}, 9, []impl.RunHap{did(3, y), did(2, x), fired(1), fired(4)}},
		{[]int{-3, 4}, 9, []impl.RunHap{fired(1), did(3, y), fired(4), did(2, x)}},
		{[]int{5, 0, 0}, 9, []impl.RunHap{did(3, y), fired(1), did(2, x), fired(4)}},
		{[]int{1, 0}, 9, []impl.RunHap{did(2, x), fired(1), fired(4), did(3, y)}},
		{[]int{math.MinInt}, 1, []impl.RunHap{did(2, x)}},
		{[]int{math.MaxInt}, 1, []impl.RunHap{did(2, x)}},
		{nil, 4, []impl.RunHap{fired(1), did(2, x), did(3, y), fired(4)}},
		{nil, 3, []impl.RunHap{fired(1), did(2, x), did(3, y)}},
		{nil, 1, []impl.RunHap{fired(1)}},
		{[]int{1, 2}, 0, nil}, {nil, -1, nil}, {nil, math.MinInt, nil}, {nil, math.MaxInt, []impl.RunHap{fired(1), did(2, x), did(3, y), fired(4)}},
	} {
		s, haps := impl.RunPlay(lines, nil, nil, c.picks, c.most)
		if !slices.Equal(haps, c.want) || (s.Stands == impl.RunDone) != (len(c.want) == 4) {
			t.Errorf("case %d: %+v, not %+v: %s", i, haps, c.want, told(lines, s))
		}
	}
}

// Signals come first, those that have a code not at all; none comes to a run that stands.
func TestSignalsOfAPlay(t *testing.T) {
	lines := linesOf(t, "workflow w\nget a go\nget b no\nreturn b")
	s, haps := impl.RunPlay(lines, nil, []impl.RunVar{aVar("x", 1), aVar("no", 10000), aVar("No", 1), aVar("go", 2), aVar("", 5), aVar("no", -9999), aVar("go", 7)}, nil, 5)
	if want := []impl.RunHap{came("x", 1), came("go", 2), came("no", -9999)}; !slices.Equal(haps, want) || told(lines, s) != "done -9999; a 2; b -9999; next 1; box x 1" {
		t.Errorf("%+v %s", haps, told(lines, s))
	}
	s, haps = impl.RunPlay(lines, nil, slices.Repeat([]impl.RunVar{aVar("no", 1)}, 25), nil, 5)
	if len(haps) != impl.RunMaxBox || len(s.Box) != impl.RunMaxBox || s.Stands != impl.RunLive {
		t.Errorf("%d %s", len(haps), told(lines, s))
	}
}

func TestMostOfAPlay(t *testing.T) {
	lines := linesOf(t, "workflow w n\nlet i is 0\nwhile i less n\nsleep i\nlet i add i 1\nend\nreturn i")
	for _, c := range [][4]int{{200, 200, 200, impl.RunDone}, {200, 999, 200, impl.RunDone}, {200, 199, 199, impl.RunLive}, {201, 200, 200, impl.RunLive}, {201, 201, 200, impl.RunLive}, {201, math.MaxInt, 200, impl.RunLive}, {300, 250, 200, impl.RunLive}} {
		s, haps := impl.RunPlay(lines, []int{c[0]}, nil, nil, c[1])
		if len(haps) != c[2] || s.Stands != c[3] || s.Stands == impl.RunLive && s.Asks[0].Id != c[2]+1 {
			t.Errorf("%v: %d %s", c, len(haps), told(lines, s))
		}
	}
	// Signals are none of those.
	lines = linesOf(t, "workflow w n\nlet i is 0\nwhile i less n\nget a go for i\nlet i add i 1\nend\nreturn i")
	s, haps := impl.RunPlay(lines, []int{210}, []impl.RunVar{aVar("go", 1), aVar("go", 2), aVar("no", 3)}, nil, 200)
	if len(haps) != 203 || s.Asks[0].Id != 203 {
		t.Errorf("%d %s", len(haps), told(lines, s))
	}
}

func TestNothingIsPlayed(t *testing.T) {
	lines := linesOf(t, "workflow w n\nreturn n")
	for i, c := range []struct {
		lines []impl.FlowLine
		args  []int
	}{{lines, nil}, {lines, []int{1, 2}}, {lines, []int{10000}}, {nil, nil}, {lines[:1], []int{1}}} {
		s, haps := impl.RunPlay(c.lines, c.args, []impl.RunVar{aVar("go", 1)}, []int{1}, 9)
		if !sameState(s, impl.RunState{}) || len(haps) != 0 {
			t.Errorf("case %d: %+v %+v", i, s, haps)
		}
		if s, ok := impl.RunFold(c.lines, c.args, nil); ok || !sameState(s, impl.RunState{}) {
			t.Errorf("case %d: %+v", i, s)
		}
	}
}

func TestFolds(t *testing.T) {
	lines := linesOf(t, "workflow w n\ndo a pay n undo back\nget b go\nreturn b")
	for i, c := range []struct {
		haps []impl.RunHap
		want string
	}{
		{nil, "live 0; n 5; at :0; ask 1 0 pay 5; next 2; made 1 by 1/1"},
		{[]impl.RunHap{did(1, 2), came("go", 3)}, "done 3; a 2; b 3; n 5; next 2; undo 1 0 back 2"},
		{[]impl.RunHap{came("go", 3), came("x", 4), did(1, 2)}, "done 3; a 2; b 3; n 5; next 2; undo 1 0 back 2; box x 4"},
		{[]impl.RunHap{did(1, 2), cancelled(), broke(2, 1)}, "stopped -9003; a 2; n 5; next 3"},
		{[]impl.RunHap{did(2, 2)}, ""}, {[]impl.RunHap{did(1, 2), did(1, 2)}, ""}, {[]impl.RunHap{did(1, 2), came("go", 3), cancelled()}, ""}, {[]impl.RunHap{{}, did(1, 2)}, ""}, {[]impl.RunHap{did(1, 10000)}, ""},
	} {
		s, ok := impl.RunFold(lines, []int{5}, c.haps)
		if ok != (c.want != "") || ok && told(lines, s) != c.want || !ok && !sameState(s, impl.RunState{}) {
			t.Errorf("case %d: %v %s", i, ok, told(lines, s))
		}
	}
	// It is live, so that patches are there.
	lines = linesOf(t, "workflow w\npatch p\nreturn 1\nend\nreturn 2")
	if s, ok := impl.RunFold(lines, nil, nil); !ok || s.Result != 1 {
		t.Errorf("%+v", s)
	}
}

// modelBoard writes a board by formats.
func modelBoard(s impl.RunState) string {
	text := []string{"live", "done", "failed", "anew", "stopped", ""}[min(uint(s.Stands), 5)] + fmt.Sprintf(" %d", s.Result)
	for _, arg := range s.Args {
		text += fmt.Sprintf(" %d", arg)
	}
	if s.Ending {
		text += " ending"
	}
	text += "\n"
	for _, v := range s.Vars {
		text += fmt.Sprintf("%s %d\n", v.Name, v.Num)
	}
	for _, thread := range s.Threads {
		text += fmt.Sprintf("at %s:%d\n", thread.Path, thread.At)
	}
	for _, ask := range s.Asks {
		name := map[bool]string{true: "time", false: ask.Name}[ask.Name == ""]
		text += fmt.Sprintf("ask %d %s %s", ask.Id, ask.Key, name)
		for _, arg := range ask.Args {
			text += fmt.Sprintf(" %d", arg)
		}
		text += "\n"
	}
	return text
}

func TestBoards(t *testing.T) {
	lines := linesOf(t, "workflow w\ndo a x 1 -2\nreturn a")
	for i, c := range []struct {
		s    impl.RunState
		want string
	}{
		{impl.RunState{Next: 1, Stands: impl.RunDone, Result: -5}, "done -5\n"},
		{impl.RunState{Next: 1, Stands: impl.RunFailed, Result: impl.RunBusy}, "failed -9002\n"},
		{impl.RunState{Next: 1, Stands: impl.RunStopped, Vars: []impl.RunVar{aVar("a", 1), aVar("b", -2)}}, "stopped 0\na 1\nb -2\n"},
		{impl.RunState{Next: 1, Stands: impl.RunAnew}, "anew 0\n"},
		{impl.RunState{Next: 1, Stands: impl.RunAnew, Result: 3, Args: []int{1, -2, 9999}}, "anew 3 1 -2 9999\n"},
		{impl.RunState{Next: 3, Ending: true, Result: 7, Asks: []impl.RunAsk{{Id: 2, Key: "0.1-", Name: "back", Args: []int{-3}}}}, "live 7 ending\nask 2 0.1- back -3\n"},
		{impl.RunState{Next: 3, Ending: true, Asks: []impl.RunAsk{{Id: 2, Key: "-", Name: "time"}}}, "live 0 ending\nask 2 - time\n"},
		{impl.RunState{Next: 8, Vars: []impl.RunVar{aVar("z", 0)}, Threads: []impl.RunThread{{Wait: impl.WaitDo, Ask: 7}}, Asks: []impl.RunAsk{{Id: 7, Key: "4", Name: "x", Args: []int{0, 0}}}}, "live 0\nz 0\nat :0\nask 7 4 x 0 0\n"},
		{impl.RunState{Next: 1, Stands: 5}, ""}, {impl.RunState{}, ""}, {impl.RunState{Stands: impl.RunDone}, ""},
	} {
		if got := impl.RunBoard(lines, c.s); got != c.want {
			t.Errorf("case %d: %q, not %q", i, got, c.want)
		}
	}
	if impl.RunBoard(nil, impl.RunState{Next: 1, Stands: impl.RunDone}) != "" {
		t.Error("a board of no workflow")
	}
}

// Words of a board are those that the document names, in its order.
func TestBoardOfManyThreads(t *testing.T) {
	lines, s := started(t, "both;get a go for n;and;both;do b x n;and;get c no;end;end;return 1", 4)
	want := "live 0\nn 4\nat :0\nat 0:1\nat 1:3\nat 10:4\nat 11:6\nask 1 0.0 time 4\nask 2 10.0 x 4\n"
	if got := impl.RunBoard(lines, s); got != want || strings.Count(got, "\n") != 9 {
		t.Errorf("%q", got)
	}
}
