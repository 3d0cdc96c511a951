package tests

import (
	"slices"
	"strings"
	"testing"

	"loop.example/dunserv/impl"
)

// flowOf are lines that are written in one row with `;` between, without the head, whose names are told.
func flowOf(t *testing.T, names, row string) []impl.FlowLine {
	t.Helper()
	return linesOf(t, "workflow w "+names+"\n"+strings.ReplaceAll(row, ";", "\n"))
}

func histFault(at, code int) impl.HistFault {
	return impl.HistFault{At: at, Code: code}
}

type replayCase struct {
	row  string // the workflow, or the one ahead, if empty
	list string
	want impl.HistFault
}

func checkReplays(t *testing.T, names string, cases []replayCase) {
	t.Helper()
	var lines []impl.FlowLine
	for i, c := range cases {
		if c.row != "" {
			lines = flowOf(t, names, c.row)
		}
		s, found := impl.HistReplay(lines, histRead(t, c.list))
		if found != c.want || (found.Code == 0) != impl.RunOk(lines, s) || found.Code != 0 && !sameState(s, impl.RunState{}) {
			t.Errorf("case %d: %q: %+v, not %+v: %s", i, c.list, found, c.want, told(lines, s))
		}
	}
}

// P16, P19: what came may, and what the run says stands there, no less and no more; a history may end wherever something may come.
func TestReplays(t *testing.T) {
	checkReplays(t, "n", []replayCase{
		{"do a pay n undo back;patch fast;sleep 1;end;return a", "start 3;ask 1 0 pay 3;done 1 4;mark fast;ask 2 1 - 1;fired 2;end 1 4", histFault(0, 0)},
		{"", "start 3;ask 1 0 pay 3;done 1 4;mark fast;ask 2 1 - 1", histFault(0, 0)},
		{"", "start 3;ask 1 0 pay 3;done 1 4;end 1 4", histFault(0, 0)},
		{"", "start 3;ask 1 0 pay 3", histFault(0, 0)},
		{"", "start 3;ask 1 0 pay 3;signal x 1;cancel;end 4 -9003", histFault(0, 0)},
		{"", "start 3;ask 1 0 pay 3;broke 1 -5;end 2 -5", histFault(0, 0)},
		{"", "start 3;ask 1 0 pay 3;done 1 4;mark fast;ask 2 1 - 1;cancel;ask 3 0- back 4;cancel;signal x 1;broke 3 0;end 4 -9003", histFault(0, 0)},
		{"", "start 3;ask 1 0 pay 3;done 1 4;mark fast;ask 2 1 - 1;cancel;ask 3 0- back 4;done 3 0;end 4 -9003", histFault(0, 0)},
		// What is said is another.
		{"", "start 3;ask 2 0 pay 3", histFault(1, impl.HistUnlike)},
		{"", "start 3;ask 1 1 pay 3", histFault(1, impl.HistUnlike)},
		{"", "start 3;ask 1 0 mail 3", histFault(1, impl.HistUnlike)},
		{"", "start 3;ask 1 0 - 3", histFault(1, impl.HistUnlike)},
		{"", "start 3;ask 1 0 pay 4", histFault(1, impl.HistUnlike)},
		{"", "start 3;ask 1 0 pay", histFault(1, impl.HistUnlike)},
		{"", "start 3;ask 1 0 pay 3 3", histFault(1, impl.HistUnlike)},
		{"", "start 3;mark fast", histFault(1, impl.HistUnlike)},
		{"", "start 3;end 1 3", histFault(1, impl.HistUnlike)},
		{"", "start 4;ask 1 0 pay 3;done 1 4", histFault(1, impl.HistUnlike)},
		{"", "start 3;ask 1 0 pay 3;done 1 4;end 2 4", histFault(3, impl.HistUnlike)},
		{"", "start 3;ask 1 0 pay 3;done 1 4;end 1 5", histFault(3, impl.HistUnlike)},
		{"", "start 3;ask 1 0 pay 3;done 1 4;end 1 4 4", histFault(3, impl.HistUnlike)},
		{"", "start 3;ask 1 0 pay 3;done 1 4;mark slow;ask 2 1 - 1", histFault(3, impl.HistUnlike)},
		{"", "start 3;ask 1 0 pay 3;done 1 4;ask 2 1 - 1;mark fast", histFault(3, impl.HistUnlike)},
		{"", "start 3;ask 1 0 pay 3;done 1 4;mark fast;ask 2 1 - 1;broke 2 1", histFault(5, impl.HistNever)},
		// More is said than by the run.
		{"", "start 3;ask 1 0 pay 3;ask 2 1 - 1", histFault(2, impl.HistUnlike)},
		{"", "start 3;ask 1 0 pay 3;ask 1 0 pay 3", histFault(2, impl.HistUnlike)},
		{"", "start 3;ask 1 0 pay 3;signal x 1;ask 1 0 pay 3", histFault(3, impl.HistUnlike)},
		{"", "start 3;ask 1 0 pay 3;signal x 1;mark x", histFault(3, impl.HistUnlike)},
		{"", "start 3;ask 1 0 pay 3;done 1 4;end 1 4;end 1 4", histFault(4, impl.HistUnlike)},
		{"", "start 3;ask 1 0 pay 3;done 1 4;mark fast;mark slow;ask 2 1 - 1", histFault(4, impl.HistUnlike)},
		{"", "start 3;ask 1 0 pay 3;done 1 4;mark fast;mark fast;ask 2 1 - 1", histFault(4, impl.HistUnlike)},
		{"", "start 3;ask 1 0 pay 3;done 1 4;mark fast;ask 2 1 - 1;fired 2;mark fast;end 1 4", histFault(6, impl.HistUnlike)},
		// Less is said; at the end, too.
		{"", "start 3", histFault(1, impl.HistMissing)},
		{"", "start 3;done 1 4;end 1 4", histFault(1, impl.HistMissing)},
		{"", "start 3;ask 1 0 pay 3;done 1 4", histFault(3, impl.HistMissing)},
		{"", "start 3;ask 1 0 pay 3;done 1 4;mark fast", histFault(4, impl.HistMissing)},
		{"", "start 3;ask 1 0 pay 3;done 1 4;mark fast;fired 2;end 1 4", histFault(4, impl.HistMissing)},
		{"", "start 3;ask 1 0 pay 3;done 1 4;mark fast;ask 2 1 - 1;fired 2", histFault(6, impl.HistMissing)},
		{"", "start 3;ask 1 0 pay 3;done 1 4;mark fast;ask 2 1 - 1;cancel", histFault(6, impl.HistMissing)},
		// What came may not.
		{"", "start", histFault(0, impl.HistNever)},
		{"", "start 1 2", histFault(0, impl.HistNever)},
		{"", "start;ask 1 0 pay 3", histFault(0, impl.HistNever)},
		{"", "start 3;ask 1 0 pay 3;done 2 4", histFault(2, impl.HistNever)},
		{"", "start 3;ask 1 0 pay 3;fired 1", histFault(2, impl.HistNever)},
		{"", "start 3;ask 1 0 pay 3;done 1 4;mark fast;ask 2 1 - 1;done 2 1", histFault(5, impl.HistNever)},
		{"", "start 3;ask 1 0 pay 3;done 1 4;end 1 4;signal x 1", histFault(4, impl.HistNever)},
		{"", "start 3;ask 1 0 pay 3;done 1 4;end 1 4;cancel", histFault(4, impl.HistNever)},
		{"", "start 3;ask 1 0 pay 3;done 1 4;mark fast;ask 2 1 - 1;done 1 4", histFault(5, impl.HistNever)},
		{"", "start 3;ask 1 0 pay 3" + strings.Repeat(";signal x 1", 20), histFault(0, 0)},
		{"", "start 3;ask 1 0 pay 3" + strings.Repeat(";signal x 1", 21), histFault(22, impl.HistNever)},
		// Just the first one begins.
		{"", "", histFault(0, impl.HistBad)},
		{"", "ask 1 0 pay 3", histFault(0, impl.HistBad)},
		{"", "cancel;start 3", histFault(0, impl.HistBad)},
		{"", "start 3;start 3", histFault(1, impl.HistBad)},
		{"", "start 3;ask 1 0 pay 3;start 3;ask 1 0 pay 3", histFault(2, impl.HistBad)},
	})
}

// P19: of two faults the first one is told, but HistBad ahead of all others; what is missing ahead of what may not come is told.
func TestTwoFaults(t *testing.T) {
	checkReplays(t, "n", []replayCase{
		{"do a pay n;patch fast;sleep 1;end;return a", "start 3;ask 1 0 mail 3;done 2 4", histFault(1, impl.HistUnlike)},
		{"", "start 3;ask 1 0 mail 3;done 1 4;end 1 9", histFault(1, impl.HistUnlike)},
		{"", "start 3;ask 1 0 mail 4;mark x", histFault(1, impl.HistUnlike)},
		{"", "start 3;ask 1 0 pay 3;done 2 4;end 1 9", histFault(2, impl.HistNever)},
		{"", "start 3;ask 1 0 pay 3;done 2 4;done 3 4", histFault(2, impl.HistNever)},
		{"", "start 3;done 2 4", histFault(1, impl.HistMissing)},
		{"", "start 3;done 2 4;end 1 9", histFault(1, impl.HistMissing)},
		{"", "start 3;ask 1 0 pay 3;done 1 4;mark fast;done 2 4", histFault(4, impl.HistMissing)},
		{"", "start 3;ask 1 0 pay 3;done 1 4;ask 2 1 - 1;fired 2", histFault(3, impl.HistUnlike)},
		{"", "start 3;ask 1 0 pay 3;done 1 4;done 2 4", histFault(3, impl.HistMissing)},
		{"", "start;ask 1 0 pay 3;ask 2 1 - 1", histFault(0, impl.HistNever)},
		{"", "start 1 2;start 1", histFault(1, impl.HistBad)},
		{"", "start 3;ask 1 0 mail 3;done 2 4;start 3;start 3", histFault(3, impl.HistBad)},
		{"", "end 1 1;start 3;start 3", histFault(0, impl.HistBad)},
	})
	lines := flowOf(t, "n", "do a pay n;return a")
	bad := ent(impl.EntCancel, 1, "", "")
	start := ent(impl.EntStart, 0, "", "", 3)
	cancel := ent(impl.EntCancel, 0, "", "")
	for i, c := range []struct {
		list []impl.HistEntry
		want impl.HistFault
	}{
		{[]impl.HistEntry{start, ent(impl.EntAsk, 1, "0", "mail", 3), ent(impl.EntDone, 2, "", "", 4), bad}, histFault(3, impl.HistBad)},
		{[]impl.HistEntry{ent(impl.EntStart, 0, "", ""), bad, bad}, histFault(1, impl.HistBad)},
		{[]impl.HistEntry{bad, start, bad}, histFault(0, impl.HistBad)},
		{[]impl.HistEntry{start, start, bad}, histFault(1, impl.HistBad)},
		{[]impl.HistEntry{start, bad, start}, histFault(1, impl.HistBad)},
		{append([]impl.HistEntry{start}, slices.Repeat([]impl.HistEntry{cancel}, 399)...), histFault(1, impl.HistMissing)},
		{append([]impl.HistEntry{start}, slices.Repeat([]impl.HistEntry{cancel}, 400)...), histFault(0, impl.HistBad)},
		{slices.Repeat([]impl.HistEntry{cancel}, 401), histFault(0, impl.HistBad)},
		{slices.Repeat([]impl.HistEntry{start}, 401), histFault(1, impl.HistBad)},
		{append(append([]impl.HistEntry{start}, slices.Repeat([]impl.HistEntry{cancel}, 400)...), bad), histFault(401, impl.HistBad)},
		{append(append([]impl.HistEntry{start, bad}, slices.Repeat([]impl.HistEntry{cancel}, 400)...), bad), histFault(1, impl.HistBad)},
	} {
		if s, found := impl.HistReplay(lines, c.list); found != c.want || !sameState(s, impl.RunState{}) {
			t.Errorf("case %d: %+v, not %+v: %+v", i, found, c.want, s)
		}
	}
	// By what is no workflow nothing begins; HistBad is ahead of that, too.
	for i, none := range [][]impl.FlowLine{nil, lines[:1], lines[1:], {{Kind: 99}}} {
		if _, found := impl.HistReplay(none, []impl.HistEntry{start, cancel}); found != histFault(0, impl.HistNever) {
			t.Errorf("case %d: %+v", i, found)
		}
		if _, found := impl.HistReplay(none, []impl.HistEntry{start, cancel, bad}); found != histFault(2, impl.HistBad) {
			t.Errorf("case %d: %+v", i, found)
		}
	}
}

// How a run stands is said once, with its result, and with Args if it begins anew.
func TestReplaysOfEachEnd(t *testing.T) {
	row := "get a go;if a same 1;return n;end;if a same 2;fail n;end;if a same 3;next n a 9;end;if a same 4;next;end;if a same 5;fail -9003;end;let n mul a 9999;return n"
	checkReplays(t, "n", []replayCase{
		{row, "start 7;signal go 1;end 1 7", histFault(0, 0)}, {"", "start 7;signal go 2;end 2 7", histFault(0, 0)},
		{"", "start 7;signal go 3;end 3 0 7 3 9", histFault(0, 0)}, {"", "start 7;signal go 4;end 3 0", histFault(0, 0)},
		{"", "start 7;signal go 5;end 4 -9003", histFault(0, 0)}, {"", "start 7;cancel;end 4 -9003", histFault(0, 0)}, {"", "start 7;signal go 6;end 2 -9001", histFault(0, 0)},
		{"", "start 7;signal go 1;end 2 7", histFault(2, impl.HistUnlike)}, {"", "start 7;signal go 2;end 1 7", histFault(2, impl.HistUnlike)}, {"", "start 7;signal go 2;end 4 7", histFault(2, impl.HistUnlike)},
		{"", "start 7;signal go 3;end 3 0", histFault(2, impl.HistUnlike)}, {"", "start 7;signal go 3;end 3 0 7 3", histFault(2, impl.HistUnlike)}, {"", "start 7;signal go 3;end 3 0 7 9 3", histFault(2, impl.HistUnlike)},
		{"", "start 7;signal go 4;end 3 1", histFault(2, impl.HistUnlike)}, {"", "start 7;signal go 4;end 3 0 7", histFault(2, impl.HistUnlike)}, {"", "start 7;signal go 4;end 1 0", histFault(2, impl.HistUnlike)},
		{"", "start 7;cancel;end 2 -9003", histFault(2, impl.HistUnlike)}, {"", "start 7;cancel", histFault(2, impl.HistMissing)}, {"", "start 7;signal go 3", histFault(2, impl.HistMissing)},
		{"", "start 7;cancel;end 4 -9003;end 4 -9003", histFault(3, impl.HistUnlike)}, {"", "start 7;end 4 -9003", histFault(1, impl.HistUnlike)},
		{"while 1 same 1;end;return n", "start 7;end 2 -9002", histFault(0, 0)}, {"", "start 7;end 2 -9003", histFault(1, impl.HistUnlike)}, {"", "start 7", histFault(1, impl.HistMissing)},
	})
}

// Patches are there by the marks behind what came: all those up to the next that came, wherever they stand, and no others.
func TestReplaysByMarks(t *testing.T) {
	row := "patch b;let x is 1;end;patch a;sleep 1;else;sleep 2;end;patch b;let y is 1;end;patch c;sleep 3;else;sleep 4;end;return 5"
	checkReplays(t, "", []replayCase{
		{row, "start;mark a;mark b;ask 1 0 - 1;fired 1;mark c;ask 2 1 - 3;fired 2;end 1 5", histFault(0, 0)},
		{"", "start;mark a;ask 1 0 - 1;fired 1;ask 2 1 - 4;fired 2;end 1 5", histFault(0, 0)},
		{"", "start;mark b;ask 1 0 - 2;fired 1;mark c;ask 2 1 - 3", histFault(0, 0)},
		{"", "start;ask 1 0 - 2;fired 1;ask 2 1 - 4;fired 2;end 1 5", histFault(0, 0)},
		{"", "start;ask 1 0 - 2;signal x 1;fired 1;mark c;ask 2 1 - 3", histFault(0, 0)},
		{"", "start;mark b;mark a;ask 1 0 - 1", histFault(1, impl.HistUnlike)},
		{"", "start;mark a;ask 1 0 - 1;mark b", histFault(2, impl.HistUnlike)},
		{"", "start;ask 1 0 - 1;mark a", histFault(1, impl.HistUnlike)},
		{"", "start;ask 1 0 - 2;mark a", histFault(1, impl.HistUnlike)},
		{"", "start;ask 1 0 - 2;mark x", histFault(2, impl.HistUnlike)},
		{"", "start;mark a;mark c;ask 1 0 - 1", histFault(2, impl.HistUnlike)},
		{"", "start;mark c;ask 1 0 - 2;fired 1;ask 2 1 - 3", histFault(1, impl.HistUnlike)},
		{"", "start;ask 1 0 - 2;signal x 1;mark c;fired 1;ask 2 1 - 3", histFault(3, impl.HistUnlike)},
		{"", "start;ask 1 0 - 2;fired 1;mark b;ask 2 1 - 4", histFault(3, impl.HistUnlike)},
		{"", "start;mark b;ask 1 0 - 2;fired 1;mark b;ask 2 1 - 4", histFault(4, impl.HistUnlike)},
		{"", "start;mark a;ask 1 0 - 2", histFault(2, impl.HistUnlike)},
		{"", "start;mark a", histFault(2, impl.HistMissing)},
	})
	lines := flowOf(t, "", row)
	for list, want := range map[string]string{
		"start;mark a;ask 1 0 - 1;fired 1":                    "",
		"start;mark a;ask 1 0 - 1;fired 1;ask 2 1 - 4":        "live 0; at :11; ask 2 1 time 4; next 3; mark a 1; mark b 0; mark c 0; made 2 by 2/2",
		"start;mark b;ask 1 0 - 2;fired 1;mark c;ask 2 1 - 3": "live 0; x 1; y 1; at :9; ask 2 1 time 3; next 3; mark a 0; mark b 1; mark c 1; made 2 by 2/2",
	} {
		s, found := impl.HistReplay(lines, histRead(t, list))
		if (found.Code == 0) != (want != "") || found.Code == 0 && told(lines, s) != want {
			t.Errorf("%q: %+v %q, not %q", list, found, told(lines, s), want)
		}
	}
}

// P17: what HistMore adds, and what it does not.
func TestMore(t *testing.T) {
	row := "patch p;sleep n;end;both;do a x undo ux;and;get b go for 2;end;patch q;end;return b"
	lines := flowOf(t, "n", row)
	for i, c := range []struct {
		list string
		h    impl.RunHap
		more string
		code int
	}{
		{"start 4;mark p;ask 1 0 - 4", fired(1), ";fired 1;ask 2 0.1 x;ask 3 1.1 - 2", 0},
		{"start 4;mark p;ask 1 0 - 4", cancelled(), ";cancel;end 4 -9003", 0},
		{"start 4;mark p;ask 1 0 - 4", came("x", -5), ";signal x -5", 0},
		{"start 4;ask 1 0.0 x;ask 2 1.0 - 2", did(1, 3), ";done 1 3", 0},
		{"start 4;ask 1 0.0 x;ask 2 1.0 - 2", broke(1, 3), ";broke 1 3;end 2 3", 0},
		{"start 4;ask 1 0.0 x;ask 2 1.0 - 2", came("go", 3), ";signal go 3", 0},
		{"start 4;ask 1 0.0 x;ask 2 1.0 - 2;done 1 3", fired(2), ";fired 2;mark q;end 1 -1", 0},
		{"start 4;ask 1 0.0 x;ask 2 1.0 - 2;done 1 3", cancelled(), ";cancel;ask 3 0.0- ux 3", 0},
		{"start 4;ask 1 0.0 x;ask 2 1.0 - 2;done 1 3;cancel;ask 3 0.0- ux 3", cancelled(), ";cancel", 0},
		{"start 4;ask 1 0.0 x;ask 2 1.0 - 2;done 1 3;cancel;ask 3 0.0- ux 3", broke(3, 3), ";broke 3 3;end 4 -9003", 0},
		// What a kind has no place for is not said.
		{"start 4;mark p;ask 1 0 - 4", impl.RunHap{Kind: impl.HapFired, Id: 1, Name: "x", Num: 10000}, ";fired 1;ask 2 0.1 x;ask 3 1.1 - 2", 0},
		{"start 4;ask 1 0.0 x;ask 2 1.0 - 2", impl.RunHap{Kind: impl.HapDone, Id: 1, Name: "A", Num: 3}, ";done 1 3", 0},
		{"start 4;ask 1 0.0 x;ask 2 1.0 - 2", impl.RunHap{Kind: impl.HapBroke, Id: 1, Name: "A", Num: 3}, ";broke 1 3;end 2 3", 0},
		{"start 4;ask 1 0.0 x;ask 2 1.0 - 2", impl.RunHap{Kind: impl.HapSignal, Id: -5, Name: "go", Num: 3}, ";signal go 3", 0},
		{"start 4;ask 1 0.0 x;ask 2 1.0 - 2", impl.RunHap{Kind: impl.HapCancel, Id: 7, Name: "A", Num: 10000}, ";cancel;end 4 -9003", 0},
		// Codes of what happens leave the history as it is.
		{"start 4;ask 1 0.0 x;ask 2 1.0 - 2", did(2, 3), "", 3}, {"start 4;ask 1 0.0 x;ask 2 1.0 - 2", fired(1), "", 3}, {"start 4;ask 1 0.0 x;ask 2 1.0 - 2", broke(3, 3), "", 3},
		{"start 4;ask 1 0.0 x;ask 2 1.0 - 2", did(1, 10000), "", 5}, {"start 4;ask 1 0.0 x;ask 2 1.0 - 2", came("", 1), "", 5}, {"start 4;ask 1 0.0 x;ask 2 1.0 - 2", impl.RunHap{}, "", 5}, {"start 4;ask 1 0.0 x;ask 2 1.0 - 2", impl.RunHap{Kind: 6, Id: 1}, "", 5},
		{"start 4;ask 1 0.0 x;ask 2 1.0 - 2;cancel;end 4 -9003", cancelled(), "", 2}, {"start 4;ask 1 0.0 x;ask 2 1.0 - 2;cancel;end 4 -9003", impl.RunHap{}, "", 2},
		{"start 4;ask 1 0.0 x;ask 2 1.0 - 2" + strings.Repeat(";signal go 1;signal x 1", 1) + strings.Repeat(";signal x 1", 19), came("x", 1), "", 4},
	} {
		list := histRead(t, c.list)
		more, code := impl.HistMore(lines, list, c.h)
		if got := histTold(more); code != c.code || got != c.list+c.more {
			t.Errorf("case %d: %d %q, not %d %q", i, code, got, c.code, c.list+c.more)
		}
		if _, found := impl.HistReplay(lines, more); found.Code != 0 {
			t.Errorf("case %d: %+v", i, found)
		}
	}
	// Of what is not replayed there is no more.
	for i, row := range []string{"", "start 4", "start", "cancel", "start 4;mark p", "start 4;ask 1 0.0 x;ask 2 1.0 - 3", "start 4;ask 1 0.0 x;ask 2 1.0 - 2;done 2 1", "start 4;ask 1 0.0 x;ask 2 1.0 - 2;start 4"} {
		for _, h := range []impl.RunHap{cancelled(), fired(1), {}} {
			if more, code := impl.HistMore(lines, histRead(t, row), h); len(more) != 0 || code != 1 {
				t.Errorf("case %d: %d %+v", i, code, more)
			}
		}
	}
	if more, code := impl.HistMore(nil, histRead(t, "start 4;mark p;ask 1 0 - 4"), fired(1)); len(more) != 0 || code != 1 {
		t.Errorf("%d %+v", code, more)
	}
	if more, code := impl.HistMore(lines, []impl.HistEntry{ent(impl.EntStart, 0, "", "", 4), {}}, cancelled()); len(more) != 0 || code != 1 {
		t.Errorf("%d %+v", code, more)
	}
}

// waiting is a history of so many entries of a run that waits for one signal after the other; one behind `last` ends it.
func waiting(t *testing.T, many int) ([]impl.FlowLine, []impl.HistEntry) {
	t.Helper()
	lines := flowOf(t, "", "while 1 same 1;get a go;if a same 5;do b x;do c y;end;if a same 7;return a;end;end;return 0")
	rows := "start" + strings.Repeat(";signal go 1", many-1)
	return lines, histRead(t, rows)
}

// P16, P17: HistMaxLen entries, and one more.
func TestMostEntries(t *testing.T) {
	for i, c := range []struct {
		many int
		h    impl.RunHap
		add  int
		code int
	}{
		{399, came("go", 1), 1, 0}, {400, came("go", 1), 0, 10}, {398, came("go", 7), 2, 0}, {399, came("go", 7), 0, 10}, {400, came("go", 7), 0, 10},
		{398, came("go", 5), 2, 0}, {399, came("go", 5), 0, 10}, {399, came("no", 1), 1, 0}, {400, came("no", 1), 0, 10}, {399, cancelled(), 0, 10}, {398, cancelled(), 2, 0},
		{400, did(1, 1), 0, 3}, {400, came("go", 10000), 0, 5}, {400, impl.RunHap{Kind: 6}, 0, 5}, {400, impl.RunHap{}, 0, 5},
	} {
		lines, list := waiting(t, c.many)
		more, code := impl.HistMore(lines, list, c.h)
		if code != c.code || len(more) != c.many+c.add || !sameHist(more[:c.many], list) {
			t.Errorf("case %d: %d %d", i, code, len(more))
		}
		if _, found := impl.HistReplay(lines, more); found.Code != 0 {
			t.Errorf("case %d: %+v", i, found)
		}
	}
	lines, list := waiting(t, 399)
	list = append(list, ent(impl.EntSignal, 0, "", "go", 1), ent(impl.EntSignal, 0, "", "go", 1))
	if more, code := impl.HistMore(lines, list, came("go", 1)); len(more) != 0 || code != 1 {
		t.Errorf("%d %d", code, len(more))
	}
	// That it stands is ahead of that it would be too long; so is a box that is full.
	lines, list = waiting(t, 398)
	list, _ = impl.HistMore(lines, list, came("go", 7))
	if more, code := impl.HistMore(lines, list, came("go", 7)); len(more) != 400 || code != 2 {
		t.Errorf("%d %d", code, len(more))
	}
	lines, list = waiting(t, 380)
	list = append(list, slices.Repeat([]impl.HistEntry{ent(impl.EntSignal, 0, "", "no", 1)}, 20)...)
	if more, code := impl.HistMore(lines, list, came("no", 7)); len(more) != 400 || code != 4 {
		t.Errorf("%d %d", code, len(more))
	}
}

// P16: a play may have more than HistMaxLen entries: all are told, and the beginning is replayed.
func TestHistoriesOfLongPlays(t *testing.T) {
	lines := flowOf(t, "n", "let i is 0;while i less n;do a pay i;let i add i 1;end;return i")
	for _, c := range [][3]int{{198, 200, 398}, {199, 200, 400}, {200, 200, 402}, {200, 199, 400}, {300, 999, 402}, {300, 198, 398}} {
		list := impl.HistOf(lines, []int{c[0]}, nil, nil, c[1])
		played, haps := impl.RunPlay(lines, []int{c[0]}, nil, nil, c[1])
		s, found := impl.HistReplay(lines, list)
		if len(list) != c[2] {
			t.Errorf("%v: %d entries", c, len(list))
		}
		if len(list) <= impl.HistMaxLen && (found.Code != 0 || !sameState(s, played)) || len(list) > impl.HistMaxLen && (found != histFault(0, impl.HistBad) || impl.HistWrite(list) != "") {
			t.Errorf("%v: %+v", c, found)
		}
		for many := 0; 2+2*many <= min(len(list), impl.HistMaxLen) && many <= len(haps); many += 33 {
			folded, _ := impl.RunFold(lines, []int{c[0]}, haps[:many])
			s, found := impl.HistReplay(lines, list[:2+2*many])
			if found.Code != 0 || !sameState(s, folded) {
				t.Errorf("%v, %d: %+v", c, many, found)
			}
		}
	}
}
