package tests

import (
	"slices"
	"strconv"
	"strings"
	"testing"

	"loop.example/dunserv/impl"
)

// What happens, written short.
func did(id, num int) impl.RunHap   { return impl.RunHap{Kind: impl.HapDone, Id: id, Num: num} }
func broke(id, num int) impl.RunHap { return impl.RunHap{Kind: impl.HapBroke, Id: id, Num: num} }
func fired(id int) impl.RunHap      { return impl.RunHap{Kind: impl.HapFired, Id: id} }
func cancelled() impl.RunHap        { return impl.RunHap{Kind: impl.HapCancel} }

func came(name string, num int) impl.RunHap {
	return impl.RunHap{Kind: impl.HapSignal, Name: name, Num: num}
}

// started is a live run of a workflow, with lines written in one row with `;` between, the head and a return at the end left out.
func started(t *testing.T, row string, args ...int) ([]impl.FlowLine, impl.RunState) {
	t.Helper()
	head := "workflow w" + []string{"", " n", " n m", " n m k"}[len(args)]
	lines := linesOf(t, head+"\n"+strings.ReplaceAll(row, ";", "\n"))
	s, ok := impl.RunStart(lines, args, nil, true)
	if !ok || !impl.RunOk(lines, s) {
		t.Fatalf("%q: %v %+v", row, ok, s)
	}
	return lines, s
}

// then is a state behind things that happen, none of which has a code.
func then(t *testing.T, lines []impl.FlowLine, s impl.RunState, haps ...impl.RunHap) impl.RunState {
	t.Helper()
	for _, h := range haps {
		next, code := impl.RunDo(lines, s, h, nil, true)
		if code != 0 || !impl.RunOk(lines, next) {
			t.Fatalf("%+v, then %+v: %d %+v", s, h, code, next)
		}
		s = next
	}
	return s
}

// told is all of a state: its board, in rows, then Next, what is to be undone, Box, Marks, and how many asks threads made.
func told(lines []impl.FlowLine, s impl.RunState) string {
	rows := strings.Split(strings.TrimSuffix(impl.RunBoard(lines, s), "\n"), "\n")
	rows = append(rows, "next "+strconv.Itoa(s.Next))
	for _, ask := range s.Undo {
		rows = append(rows, "undo "+strconv.Itoa(ask.Id)+" "+ask.Key+" "+ask.Name+" "+strconv.Itoa(ask.Args[0]))
	}
	for _, v := range s.Box {
		rows = append(rows, "box "+v.Name+" "+strconv.Itoa(v.Num))
	}
	for _, v := range s.Marks {
		rows = append(rows, "mark "+v.Name+" "+strconv.Itoa(v.Num))
	}
	for _, thread := range s.Threads {
		rows = append(rows, "made "+strconv.Itoa(thread.Made)+" by "+strconv.Itoa(thread.Wait)+"/"+strconv.Itoa(thread.Ask))
	}
	return strings.Join(rows, "; ")
}

func TestBoardOfTheExample(t *testing.T) {
	lines := linesOf(t, trip)
	s, ok := impl.RunStart(lines, []int{1}, nil, true)
	if got := impl.RunBoard(lines, s); !ok || got != "live 0\nn 1\nat :0\nask 1 0 book 1\n" {
		t.Errorf("%v %q", ok, got)
	}
	s = then(t, lines, s, did(1, 4))
	if got := impl.RunBoard(lines, s); got != "live 0\ncar 4\nn 1\nat :1\nat 0:2\nat 1:6\nask 2 0.1 book 1\nask 3 1.1 send 1\n" {
		t.Errorf("%q", got)
	}
	s = then(t, lines, s, came("go", 3), did(2, 5))
	if got := impl.RunBoard(lines, s); got != "live 0\ncar 4\nhotel 5\nn 1\nok 3\nat :1\nat 0:4\nat 1:6\nask 3 1.1 send 1\n" {
		t.Errorf("%q", got)
	}
	if want := []impl.RunVar{{Name: "quick", Num: 1}}; !slices.Equal(s.Marks, want) || len(s.Box) != 0 {
		t.Errorf("%+v", s)
	}
}

func TestStartRefuses(t *testing.T) {
	two := linesOf(t, "workflow w n m\nreturn n")
	none := linesOf(t, "workflow w\nreturn 1")
	for i, c := range []struct {
		lines []impl.FlowLine
		args  []int
		want  bool
	}{
		{two, []int{1, 2}, true}, {two, []int{9999, -9999}, true}, {two, []int{10000, 0}, false}, {two, []int{0, -10000}, false},
		{two, []int{1}, false}, {two, nil, false}, {two, []int{1, 2, 3}, false}, {none, nil, true}, {none, []int{}, true}, {none, []int{1}, false},
		{nil, nil, false}, {two[:1], []int{1, 2}, false}, {two[1:], []int{1, 2}, false}, {[]impl.FlowLine{{Kind: 99}}, nil, false},
	} {
		s, ok := impl.RunStart(c.lines, c.args, []string{"p"}, true)
		if ok != c.want || ok != (s.Next > 0) || !ok && !sameState(s, impl.RunState{}) {
			t.Errorf("case %d: %v %+v", i, ok, s)
		}
	}
}

// What each step does, until the run waits or stands.
func TestWhatStepsDo(t *testing.T) {
	for row, want := range map[string]string{
		"return 5":                                  "done 5; m 3; n 7; next 1",
		"return -9999":                              "done -9999; m 3; n 7; next 1",
		"fail n":                                    "failed 7; m 3; n 7; next 1",
		"fail -9003":                                "stopped -9003; m 3; n 7; next 1",
		"next":                                      "anew 0; m 3; n 7; next 1",
		"next n 2 m":                                "anew 0 7 2 3; m 3; n 7; next 1",
		"let a is n;return a":                       "done 7; a 7; m 3; n 7; next 1",
		"let n add n m;return n":                    "done 10; m 3; n 10; next 1",
		"let z sub m n;return z":                    "done -4; m 3; n 7; z -4; next 1",
		"let n mul n -3;return n":                   "done -21; m 3; n -21; next 1",
		"let a mul 9 1111;return a":                 "done 9999; a 9999; m 3; n 7; next 1",
		"let a add 9999 1;return a":                 "failed -9001; m 3; n 7; next 1",
		"let a sub -9999 1;return a":                "failed -9001; m 3; n 7; next 1",
		"let a sub -9998 1;return a":                "done -9999; a -9999; m 3; n 7; next 1",
		"let n mul 9999 -9999;return n":             "failed -9001; m 3; n 7; next 1",
		"do a pay;return a":                         "live 0; m 3; n 7; at :0; ask 1 0 pay; next 2; made 1 by 1/1",
		"do a pay n -1 m undo back;return a":        "live 0; m 3; n 7; at :0; ask 1 0 pay 7 -1 3; next 2; made 1 by 1/1",
		"sleep n;return 1":                          "live 0; m 3; n 7; at :0; ask 1 0 time 7; next 2; made 1 by 2/1",
		"sleep -5;return 1":                         "live 0; m 3; n 7; at :0; ask 1 0 time -5; next 2; made 1 by 2/1",
		"get a go;return a":                         "live 0; m 3; n 7; at :0; next 1; made 0 by 3/0",
		"get a go for m;return a":                   "live 0; m 3; n 7; at :0; ask 1 0 time 3; next 2; made 1 by 3/1",
		"if n less m;return 1;end;return 2":         "done 2; m 3; n 7; next 1",
		"if m less n;return 1;end;return 2":         "done 1; m 3; n 7; next 1",
		"if n less 7;return 1;end;return 2":         "done 2; m 3; n 7; next 1",
		"if n same 7;return 1;end;return 2":         "done 1; m 3; n 7; next 1",
		"if n same m;return 1;end;return 2":         "done 2; m 3; n 7; next 1",
		"if n more m;return 1;end;return 2":         "done 1; m 3; n 7; next 1",
		"if n more 7;return 1;end;return 2":         "done 2; m 3; n 7; next 1",
		"if n other 7;return 1;end;return 2":        "done 2; m 3; n 7; next 1",
		"if n other m;return 1;end;return 2":        "done 1; m 3; n 7; next 1",
		"while m more 0;let m sub m 1;end;return m": "done 0; m 0; n 7; next 1",
		"patch p;return 1;end;return 2":             "done 1; m 3; n 7; next 1; mark p 1",
		"patch q;let a is 1;end;patch p;let b is 2;end;patch q;return m;end;return 0": "done 3; a 1; b 2; m 3; n 7; next 1; mark p 1; mark q 1",
		"both;and;end;return 1":                                               "done 1; m 3; n 7; next 1",
		"both;sleep n;and;end;return 1":                                       "live 0; m 3; n 7; at :0; at 0:1; at 1:3; ask 1 0.0 time 7; next 2; made 0 by 4/0; made 1 by 2/1; made 0 by 4/0",
		"both;and;do a pay n;end;return 1":                                    "live 0; m 3; n 7; at :0; at 0:1; at 1:2; ask 1 1.0 pay 7; next 2; made 0 by 4/0; made 0 by 4/0; made 1 by 1/1",
		"do a x;both;both;sleep 1;and;get b go;end;and;do c y a;end;return c": "live 0; m 3; n 7; at :0; ask 1 0 x; next 2; made 1 by 1/1",
		"both;both;sleep 1;and;get b go;end;and;do c y;end;return c":          "live 0; m 3; n 7; at :0; at 0:1; at 00:2; at 01:4; at 1:7; ask 1 00.0 time 1; ask 2 1.0 y; next 3; made 0 by 4/0; made 0 by 4/0; made 1 by 2/1; made 0 by 3/0; made 1 by 1/2",
	} {
		lines, s := started(t, row, 7, 3)
		if got := told(lines, s); got != want {
			t.Errorf("%q: %q, not %q", row, got, want)
		}
	}
}

// What happens to a run: each row is a workflow begun with 7, what happens, and what is told then.
func TestWhatHappens(t *testing.T) {
	pay := "do a pay n undo back;do b mail a;return b"
	timed := "get a go for 5;get b go;return b"
	two := "both;do a x;do b y;and;sleep 1;end;do c z;return c"
	for i, c := range []struct {
		row  string
		haps []impl.RunHap
		want string
	}{
		{pay, []impl.RunHap{did(1, 4)}, "live 0; a 4; n 7; at :1; ask 2 1 mail 4; next 3; undo 1 0 back 4; made 2 by 1/2"},
		{pay, []impl.RunHap{did(1, -9999), did(2, 9999)}, "done 9999; a -9999; b 9999; n 7; next 3; undo 1 0 back -9999"},
		{pay, []impl.RunHap{broke(1, 3)}, "failed 3; n 7; next 2"},
		{pay, []impl.RunHap{broke(1, -9003)}, "stopped -9003; n 7; next 2"},
		{pay, []impl.RunHap{did(1, 4), broke(2, -2)}, "live -2 ending; a 4; n 7; ask 3 0- back 4; next 4"},
		{pay, []impl.RunHap{did(1, 4), broke(2, -2), did(3, 8)}, "failed -2; a 4; n 7; next 4"},
		{pay, []impl.RunHap{did(1, 4), broke(2, -2), broke(3, 8)}, "failed -2; a 4; n 7; next 4"},
		{pay, []impl.RunHap{cancelled()}, "stopped -9003; n 7; next 2"},
		{pay, []impl.RunHap{did(1, 4), cancelled()}, "live -9003 ending; a 4; n 7; ask 3 0- back 4; next 4"},
		{pay, []impl.RunHap{did(1, 4), cancelled(), cancelled(), came("go", 2), cancelled()}, "live -9003 ending; a 4; n 7; ask 3 0- back 4; next 4; box go 2"},
		{pay, []impl.RunHap{did(1, 4), cancelled(), came("go", 2), broke(3, 1)}, "stopped -9003; a 4; n 7; next 4; box go 2"},
		{timed, []impl.RunHap{fired(1)}, "live 0; a -1; n 7; at :1; next 2; made 1 by 3/0"},
		{timed, []impl.RunHap{came("go", 3)}, "live 0; a 3; n 7; at :1; next 2; made 1 by 3/0"},
		{timed, []impl.RunHap{came("no", 1), came("go", 3), came("no", 2), came("go", 4)}, "done 4; a 3; b 4; n 7; next 2; box no 1; box no 2"},
		{timed, []impl.RunHap{fired(1), came("go", 4)}, "done 4; a -1; b 4; n 7; next 2"},
		{"sleep 3;get a go;get b no;get c go;return a", []impl.RunHap{came("go", 1), came("no", 2), came("x", 5), came("go", 3), came("go", 4), fired(1)}, "done 1; a 1; b 2; c 3; n 7; next 2; box x 5; box go 4"},
		{"sleep n;get a go for 5;return a", []impl.RunHap{came("go", 1), fired(1)}, "done 1; a 1; n 7; next 2"},
		{two, []impl.RunHap{fired(2)}, "live 0; n 7; at :0; at 0:1; at 1:5; ask 1 0.0 x; next 3; made 0 by 4/0; made 1 by 1/1; made 1 by 4/0"},
		{two, []impl.RunHap{fired(2), did(1, 2)}, "live 0; a 2; n 7; at :0; at 0:2; at 1:5; ask 3 0.1 y; next 4; made 0 by 4/0; made 2 by 1/3; made 1 by 4/0"},
		{two, []impl.RunHap{did(1, 2), did(3, 4)}, "live 0; a 2; b 4; n 7; at :0; at 0:3; at 1:4; ask 2 1.0 time 1; next 4; made 0 by 4/0; made 2 by 4/0; made 1 by 2/2"},
		{two, []impl.RunHap{did(1, 2), did(3, 4), fired(2)}, "live 0; a 2; b 4; n 7; at :6; ask 4 2 z; next 5; made 3 by 1/4"},
		{two, []impl.RunHap{fired(2), did(1, 2), did(3, 4)}, "live 0; a 2; b 4; n 7; at :6; ask 4 2 z; next 5; made 3 by 1/4"},
		{two, []impl.RunHap{did(1, 2), broke(3, 6)}, "failed 6; a 2; n 7; next 4"},
		{"both;do a x undo ux;let b mul a 9999;and;do c y undo uy;sleep 1;end;return 1", []impl.RunHap{did(2, 5), did(1, 2)}, "live -9001 ending; a 2; c 5; n 7; ask 4 0.0- ux 2; next 5; undo 2 1.0 uy 5"},
		{"do a x undo ux;fail a", []impl.RunHap{did(1, -9003)}, "live -9003 ending; a -9003; n 7; ask 2 0- ux -9003; next 3"},
		{"do a x undo ux;fail a", []impl.RunHap{did(1, -9003), did(2, 1)}, "stopped -9003; a -9003; n 7; next 3"},
		{"do a x undo ux;next a", []impl.RunHap{did(1, 4)}, "anew 0 4; a 4; n 7; next 2; undo 1 0 ux 4"},
		{"do n x n;return n", []impl.RunHap{did(1, 4)}, "done 4; n 4; next 2"},
	} {
		lines, s := started(t, c.row, 7)
		if got := told(lines, then(t, lines, s, c.haps...)); got != c.want {
			t.Errorf("case %d: %q, not %q", i, got, c.want)
		}
	}
}

// A key is never made again in a fork behind a join: the one that goes on has made as many as the one that made more.
func TestTheGreaterMadeBehindAJoin(t *testing.T) {
	for row, want := range map[string]string{
		"both;do a x;and;do b x;do c x;do d x;end;both;do e x;and;do f x;end;do g x;return 1": "0.0 1.0 1.1 1.2 0.3 1.3 4",
		"both;do b x;do c x;do d x;and;do a x;end;both;do e x;and;do f x;end;do g x;return 1": "0.0 1.0 0.1 0.2 0.3 1.3 4",
		"both;sleep 1;sleep 1;and;end;sleep 1;return 1":                                       "0.0 0.1 2",
		"both;and;get a go for 1;end;sleep 1;return 1":                                        "1.0 1",
		"sleep 1;both;and;end;sleep 1;return 1":                                               "0 1",
		"both;both;do a x;do b x;and;end;do c x;and;do d x;end;both;and;do e x;end;return 1":  "00.0 1.0 00.1 0.2 1.3",
	} {
		lines, s := started(t, row)
		var keys []string
		for len(s.Asks) > 0 {
			ask := s.Asks[0]
			keys = append(keys, ask.Key)
			h := fired(ask.Id)
			if ask.Name != "" {
				h = did(ask.Id, 1)
			}
			s = then(t, lines, s, h)
		}
		if got := strings.Join(keys, " "); got != want || s.Stands != impl.RunDone {
			t.Errorf("%q: %q, not %q", row, got, want)
		}
	}
}

func TestPatchesByMarks(t *testing.T) {
	lines := linesOf(t, "workflow w\npatch p\nlet a is 1\nelse\nlet a is 2\nend\nsleep 1\npatch p\nlet b is 1\nelse\nlet b is 2\nend\npatch q\nlet c is 1\nelse\nlet c is 2\nend\nreturn 1")
	for i, c := range []struct {
		first, later []string
		live, still  bool
		want         string
	}{
		{nil, nil, false, false, "done 1; a 2; b 2; c 2; next 2; mark p 0; mark q 0"},
		{nil, nil, true, true, "done 1; a 1; b 1; c 1; next 2; mark p 1; mark q 1"},
		{[]string{"p"}, nil, false, false, "done 1; a 1; b 1; c 2; next 2; mark p 1; mark q 0"},
		{nil, []string{"p", "q"}, false, false, "done 1; a 2; b 2; c 1; next 2; mark p 0; mark q 1"},
		{nil, nil, true, false, "done 1; a 1; b 1; c 2; next 2; mark p 1; mark q 0"},
		{nil, nil, false, true, "done 1; a 2; b 2; c 1; next 2; mark p 0; mark q 1"},
		{[]string{"x", "", "P", "p", "p"}, []string{"qq"}, false, false, "done 1; a 1; b 1; c 2; next 2; mark p 1; mark q 0"},
	} {
		s, _ := impl.RunStart(lines, nil, c.first, c.live)
		s, code := impl.RunDo(lines, s, fired(1), c.later, c.still)
		if got := told(lines, s); code != 0 || got != c.want {
			t.Errorf("case %d: %d %q, not %q", i, code, got, c.want)
		}
	}
}

func TestCodes(t *testing.T) {
	row := "both;do a x undo ux;and;get b go for 2;end;return 1"
	lines, live := started(t, row)
	ending := then(t, lines, live, did(1, 4), cancelled())
	stopped := then(t, lines, ending, did(3, 1))
	full := cloneState(live)
	full.Box = slices.Repeat([]impl.RunVar{{Name: "in", Num: 1}}, impl.RunMaxBox)
	endingFull := cloneState(ending)
	endingFull.Box = full.Box
	bad := cloneState(live)
	bad.Next = 1
	for i, c := range []struct {
		s    impl.RunState
		h    impl.RunHap
		code int
	}{
		{live, did(1, 9999), 0}, {live, did(1, 10000), 5}, {live, did(1, -10000), 5}, {live, did(2, 1), 3}, {live, did(3, 1), 3}, {live, did(0, 1), 3}, {live, did(-1, 1), 3}, {live, did(9, 10000), 3},
		{live, broke(1, -9999), 0}, {live, broke(1, 10000), 5}, {live, broke(2, 1), 3}, {live, broke(0, -10000), 3},
		{live, fired(2), 0}, {live, fired(1), 3}, {live, fired(0), 3}, {live, fired(3), 3}, {live, impl.RunHap{Kind: impl.HapFired, Id: 2, Num: 10000, Name: "A"}, 0},
		{live, came("go", 1), 0}, {live, came("go", 10000), 5}, {live, came("go", -10000), 5}, {live, came("", 1), 5}, {live, came("Go", 1), 5}, {live, came("9", 1), 5}, {live, came("abcdefghi", 1), 5}, {live, came("abcdefgh", -9999), 0},
		{live, came("go\n", 1), 5}, {live, cancelled(), 0}, {live, impl.RunHap{Kind: impl.HapCancel, Id: 7, Name: "A", Num: 10000}, 0},
		{live, impl.RunHap{}, 5}, {live, impl.RunHap{Kind: 6}, 5}, {live, impl.RunHap{Kind: -1, Id: 1}, 5}, {live, impl.RunHap{Kind: impl.HapDone, Id: 1, Name: "A"}, 0},
		{full, came("go", 1), 4}, {full, came("in", 1), 4}, {full, came("in", 10000), 5}, {full, came("", 1), 5}, {full, did(1, 1), 0}, {full, cancelled(), 0},
		{ending, did(3, 1), 0}, {ending, broke(3, 1), 0}, {ending, did(1, 1), 3}, {ending, did(3, 10000), 5}, {ending, broke(4, 10000), 3}, {ending, broke(3, -10000), 5}, {ending, fired(3), 3}, {ending, fired(2), 3},
		{ending, came("go", 1), 0}, {ending, came("", 1), 5}, {ending, cancelled(), 0}, {ending, impl.RunHap{Kind: 6}, 5}, {endingFull, came("go", 1), 4}, {endingFull, came("go", 10000), 5}, {endingFull, did(3, 1), 0},
		{stopped, did(3, 1), 2}, {stopped, cancelled(), 2}, {stopped, came("", 10000), 2}, {stopped, impl.RunHap{Kind: 6}, 2}, {stopped, fired(0), 2},
		{bad, did(1, 1), 1}, {bad, impl.RunHap{Kind: 6}, 1}, {impl.RunState{}, cancelled(), 1},
	} {
		next, code := impl.RunDo(lines, c.s, c.h, nil, true)
		want := c.s
		if c.code == 1 {
			want = impl.RunState{}
		}
		if code != c.code || code > 0 && !sameState(next, want) || code == 0 && !impl.RunOk(lines, next) {
			t.Errorf("case %d: %+v: %d %+v", i, c.h, code, next)
		}
	}
	for _, other := range [][]impl.FlowLine{nil, lines[:3], linesOf(t, "workflow w\nreturn 1")} {
		if next, code := impl.RunDo(other, live, did(1, 1), nil, true); code != 1 || !sameState(next, impl.RunState{}) {
			t.Errorf("%+v: %d %+v", other, code, next)
		}
	}
}
