package tests

import (
	"slices"
	"strconv"
	"strings"
	"testing"

	"loop.example/dunserv/impl"
)

// Each limit of runs, met exactly, and one more.

// counting has 2 n + 3 steps that count when it begins with n; more rows come ahead of its return.
func counting(more string) string {
	return "let i is 0;while i less n;let i add i 1;end;" + more + "return i"
}

func TestMostSteps(t *testing.T) {
	patches := "patch p;end;patch q;let a is 1;else;let b is 1;end;patch p;end;"
	for i, c := range []struct {
		row  string
		n    int
		want string
	}{
		{counting(""), 98, "done 98"}, {counting(""), 99, "failed -9002"}, {counting("let j is 0;"), 98, "done 98"}, {counting("let j is 0;let k is 0;"), 98, "failed -9002"},
		{counting("let j is 0;let k is 0;"), 97, "done 97"}, {counting(patches), 98, "done 98"}, {counting(patches + "let c is 1;"), 98, "failed -9002"},
		{"let i is 0;while i less n;patch p;if 1 less 2;else;end;let i add i 1;end;end;return i", 66, "failed -9002"},
		{"let i is 0;while i less n;patch p;if 1 less 2;else;end;let i add i 1;end;end;return i", 65, "done 65"},
		{"let i is 0;while i less n;let i add i 1;both;and;end;end;return i", 39, "done 39"}, {"let i is 0;while i less n;let i add i 1;both;and;end;end;return i", 40, "failed -9002"},
		{counting("fail 3;")[:len(counting(""))-len("return i")] + "fail 3", 98, "failed 3"}, {counting("let j is 0;")[:len(counting("let j is 0;"))-len("return i")] + "fail 3", 98, "failed 3"},
		{"while 1 same 1;end;return 1", 0, "failed -9002"}, {"while 1 same 1;let a is 1;patch p;end;end;return 1", 0, "failed -9002"},
	} {
		lines, s := started(t, c.row, c.n)
		if got, _, _ := strings.Cut(impl.RunBoard(lines, s), "\n"); got != c.want {
			t.Errorf("case %d: %q, not %q", i, got, c.want)
		}
	}
}

// The last step that may be done may be one with which it waits; what happens then counts anew.
func TestMostStepsBetweenTwoThings(t *testing.T) {
	row := counting("let j is 0;sleep 1;let i is 0;while i less n;let i add i 1;end;let k is 0;")
	lines, s := started(t, row, 98)
	if len(s.Asks) != 1 || s.Vars[0] != (impl.RunVar{Name: "i", Num: 98}) {
		t.Fatalf("%+v", s)
	}
	if s = then(t, lines, s, fired(1)); s.Stands != impl.RunDone || s.Result != 98 {
		t.Errorf("%+v", s)
	}
	lines, s = started(t, row, 99)
	if s.Stands != impl.RunFailed || s.Result != impl.RunBusy {
		t.Errorf("%+v", s)
	}
	lines, s = started(t, "do a pay undo back;"+counting("let j is 0;let j is 0;"), 98)
	s = then(t, lines, s, did(1, 5))
	if got := told(lines, s); got != "live -9002 ending; a 5; i 98; j 0; n 98; ask 2 0- back 5; next 3" {
		t.Errorf("%q", got)
	}
}

// What is one too many may be a patch, which does not count itself: it is not marked.
func TestOnePatchTooMany(t *testing.T) {
	for n, want := range map[int]string{98: "done 98; i 98; n 98; next 1; mark p 1", 99: "failed -9002; i 99; n 99; next 1"} {
		lines, s := started(t, counting("patch p;end;"), n)
		if got := told(lines, s); got != want {
			t.Errorf("%d: %q, not %q", n, got, want)
		}
	}
}

// nested are blocks of both in the first part of each other, or in the second one.
func nested(deep int, second bool) string {
	if deep == 0 {
		return "sleep 1"
	}
	inner := nested(deep-1, second)
	if second {
		return "both;sleep 2;and;" + inner + ";end"
	}
	return "both;" + inner + ";and;sleep 2;end"
}

func TestMostThreads(t *testing.T) {
	wide := func(parts ...string) string { return "both;" + parts[0] + ";and;" + parts[1] + ";end" }
	two := nested(1, false)
	four := wide(two, two)
	for i, c := range []struct {
		row     string
		threads int
	}{
		{nested(5, false), 11}, {nested(5, true), 11}, {four, 7}, {wide(four, four), 15}, {wide(four, wide(wide(two, "sleep 1"), "sleep 3")), 15}, {wide(four, wide(two, "sleep 3")), 13},
		{wide(wide(four, two), four), 0}, {wide(four, wide(two, four)), 0}, {wide(wide(four, "sleep 1"), wide(two, two)), 0}, {wide(four, wide(two, wide(two, "sleep 1"))), 0}, {wide(wide(four, "sleep 1"), wide(two, "sleep 1")), 15},
	} {
		lines, s := started(t, c.row+";return 1")
		busy := s.Stands == impl.RunFailed && s.Result == impl.RunBusy
		if len(s.Threads) != c.threads || busy != (c.threads == 0) {
			t.Errorf("case %d: %s", i, told(lines, s))
		}
		if c.threads == 0 {
			continue
		}
		for s.Stands == impl.RunLive {
			s = then(t, lines, s, fired(s.Asks[len(s.Asks)-1].Id))
		}
		if s.Stands != impl.RunDone {
			t.Errorf("case %d: %s", i, told(lines, s))
		}
	}
}

// A fork that is one too many ends the run, whatever others wait for; what was done is undone.
func TestOneThreadTooMany(t *testing.T) {
	two := nested(1, false)
	four := "both;" + two + ";and;" + two + ";end"
	lines, s := started(t, "do a x undo ux;both;both;"+four+";and;"+two+";end;and;sleep 3;"+four+";end;return a")
	s = then(t, lines, s, did(1, 4))
	last := s.Asks[len(s.Asks)-1]
	if len(s.Threads) != 13 || last.Args[0] != 3 {
		t.Fatalf("%s", told(lines, s))
	}
	s = then(t, lines, s, fired(last.Id))
	if got := told(lines, s); got != "live -9002 ending; a 4; ask 9 0- ux 4; next 10" {
		t.Errorf("%q", got)
	}
}

// undoing is a run that has done so many things that are to be undone, and asks for one more.
func undoing(t *testing.T, many int) ([]impl.FlowLine, impl.RunState) {
	lines, s := started(t, "let i is 0;while i less n;do a pay i undo back;let i add i 1;end;sleep 1;return i", many+1)
	for i := range many {
		s = then(t, lines, s, did(i+1, i))
	}
	return lines, s
}

func TestMostToUndo(t *testing.T) {
	lines, s := undoing(t, 39)
	s = then(t, lines, s, did(40, 77))
	if len(s.Undo) != 40 || s.Undo[39].Args[0] != 77 || s.Stands != impl.RunLive || s.Ending {
		t.Fatalf("%s", told(lines, s))
	}
	lines, s = undoing(t, 40)
	s = then(t, lines, s, did(41, 77))
	board := impl.RunBoard(lines, s)
	if board != "live -9002 ending\na 39\ni 40\nn 41\nask 42 39- back 39\n" || len(s.Undo) != 39 {
		t.Fatalf("%q %s", board, told(lines, s))
	}
	for id := 42; id < 82; id++ {
		s = then(t, lines, s, did(id, 1))
	}
	if got := told(lines, s); got != "failed -9002; a 39; i 40; n 41; next 82" {
		t.Errorf("%q", got)
	}
	// One that is not to be undone may be done all the same.
	lines, s = started(t, "do b mail;return b")
	s.Next = 2
	s.Undo = slices.Repeat([]impl.RunAsk{{Id: 1, Key: "0", Name: "back", Args: []int{1}}}, 40)
	if s = then(t, lines, s, did(1, 3)); s.Stands != impl.RunDone || len(s.Undo) != 40 {
		t.Errorf("%+v", s)
	}
}

func TestMostInBox(t *testing.T) {
	lines, s := started(t, "sleep 1;get a go;return a")
	for i := range 20 {
		s = then(t, lines, s, came([]string{"no", "go"}[i%2], i))
	}
	if len(s.Box) != 20 || s.Box[19] != (impl.RunVar{Name: "go", Num: 19}) {
		t.Fatalf("%+v", s)
	}
	if next, code := impl.RunDo(lines, s, came("go", 1), nil, true); code != 4 || !sameState(next, s) {
		t.Errorf("%d %+v", code, next)
	}
	s = then(t, lines, s, fired(1))
	if s.Stands != impl.RunDone || s.Result != 1 || len(s.Box) != 19 || s.Box[1] != (impl.RunVar{Name: "no", Num: 2}) {
		t.Errorf("%+v", s)
	}
	// A box that is full takes no signal, though one waits for it; one short of that does.
	lines, s = started(t, "get a go;return a")
	s.Box = slices.Repeat([]impl.RunVar{{Name: "no", Num: 1}}, 20)
	if next, code := impl.RunDo(lines, s, came("go", 1), nil, true); code != 4 || !sameState(next, s) {
		t.Errorf("%d %+v", code, next)
	}
	s.Box = s.Box[:19]
	if s = then(t, lines, s, came("go", 5)); s.Stands != impl.RunDone || s.Result != 5 || len(s.Box) != 19 {
		t.Errorf("%+v", s)
	}
}

func TestMostIds(t *testing.T) {
	row := "sleep 1;do a pay;get b go for 2;return b"
	lines, s := started(t, row)
	s.Next = 9999
	s = then(t, lines, s, fired(1))
	if got := told(lines, s); got != "live 0; at :1; ask 9999 1 pay; next 10000; made 2 by 1/9999" {
		t.Fatalf("%q", got)
	}
	s = then(t, lines, s, did(9999, 6))
	if got := told(lines, s); got != "failed -9002; a 6; next 10000" {
		t.Errorf("%q", got)
	}
	// Where one asks for nothing it goes on.
	lines, s = started(t, "sleep 1;get b go;return b")
	s.Next = 10000
	s = then(t, lines, s, fired(1), came("go", 4))
	if got := told(lines, s); got != "done 4; b 4; next 10000" {
		t.Errorf("%q", got)
	}
	for i, row := range []string{"sleep 1;sleep 1;return 1", "sleep 1;do a x;return 1", "sleep 1;get a go for 1;return 1", "both;sleep 1;sleep 2;and;do a x undo ux;end;return 1"} {
		lines, s := started(t, row)
		s.Next = 10000
		s.Undo = []impl.RunAsk{{Id: 9, Key: "7", Name: "back", Args: []int{3}}}
		s = then(t, lines, s, fired(1))
		if got := told(lines, s); got != "failed -9002; next 10000; undo 9 7 back 3" {
			t.Errorf("case %d: %q", i, got)
		}
	}
}

// What is asked for to undo needs an Id, too: without one the run has failed, even if it was cancelled.
func TestMostIdsWhileUndoing(t *testing.T) {
	lines, s := started(t, "sleep 1;return 1")
	s.Undo = []impl.RunAsk{{Id: 1, Key: "1", Name: "x", Args: []int{3}}, {Id: 1, Key: "2", Name: "y", Args: []int{4}}, {Id: 1, Key: "3", Name: "z", Args: []int{5}}}
	s.Next = 9998
	s = then(t, lines, s, cancelled())
	if got := told(lines, s); got != "live -9003 ending; ask 9998 3- z 5; next 9999; undo 1 1 x 3; undo 1 2 y 4" {
		t.Fatalf("%q", got)
	}
	s = then(t, lines, s, broke(9998, 1))
	if got := told(lines, s); got != "live -9003 ending; ask 9999 2- y 4; next 10000; undo 1 1 x 3" {
		t.Fatalf("%q", got)
	}
	s = then(t, lines, s, did(9999, 1))
	if got := told(lines, s); got != "failed -9002; next 10000" {
		t.Errorf("%q", got)
	}
	lines, s = started(t, "sleep 1;return 1")
	s.Next = 10000
	s.Undo = []impl.RunAsk{{Id: 1, Key: "1", Name: "x", Args: []int{3}}}
	if got := told(lines, then(t, lines, s, cancelled())); got != "failed -9002; next 10000" {
		t.Errorf("%q", got)
	}
	s.Undo = nil
	if got := told(lines, then(t, lines, s, cancelled())); got != "stopped -9003; next 10000" {
		t.Errorf("%q", got)
	}
}

// What is far from 0 is a number up to 9999, and none beyond.
func TestNumbersAtTheirBounds(t *testing.T) {
	for _, num := range []int{9999, -9999} {
		sum := strconv.Itoa(num)
		lines, s := started(t, "do a pay undo back;get b go;let c add a 0;let d is b;sleep d;return c")
		s = then(t, lines, s, did(1, num), came("go", num), fired(2))
		if got, want := told(lines, s), "done "+sum+"; a "+sum+"; b "+sum+"; c "+sum+"; d "+sum+"; next 3; undo 1 0 back "+sum; got != want {
			t.Errorf("%q, not %q", got, want)
		}
		beyond := "1"
		if num < 0 {
			beyond = "-1"
		}
		lines, s = started(t, "do a pay undo back;let a add a "+beyond+";return a")
		s = then(t, lines, s, did(1, num))
		if got, want := told(lines, s), "live -9001 ending; a "+sum+"; ask 2 0- back "+sum+"; next 3"; got != want {
			t.Errorf("%q, not %q", got, want)
		}
	}
}
