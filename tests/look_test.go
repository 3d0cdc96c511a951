package tests

import (
	"strconv"
	"strings"
	"testing"

	"loop.example/dunserv/impl"
)

type lookCase struct {
	old  string // the old workflow, or the one ahead, if empty
	next string
	code int
	list string // the history that is told
}

func checkLooks(t *testing.T, names string, cases []lookCase) {
	t.Helper()
	var old []impl.FlowLine
	for i, c := range cases {
		if c.old != "" {
			old = flowOf(t, names, c.old)
		}
		next := flowOf(t, names, c.next)
		code, list := impl.VerLook(old, next)
		if got := histTold(list); code != c.code || got != c.list {
			t.Errorf("case %d: %q: %d %q, not %d %q", i, c.next, code, got, c.code, c.list)
		}
		if code, list := impl.VerLook(old, old); code == 1 || len(list) != 0 {
			t.Errorf("case %d: by itself %d %q", i, code, histTold(list))
		}
	}
}

// P22: beginnings are looked at by all choices of 0 and 1, the last name changing first.
func TestBeginningsOfLooks(t *testing.T) {
	sum := "let k add n n;let k add k m;"
	checkLooks(t, "n m", []lookCase{
		{"return 7", "return 7", 0, ""}, {"", "return 8", 1, "start 0 0;end 1 7"},
		{"", sum + "if k more 0;return 8;end;return 7", 1, "start 0 1;end 1 7"}, {"", sum + "if k more 1;return 8;end;return 7", 1, "start 1 0;end 1 7"},
		{"", sum + "if k more 2;return 8;end;return 7", 1, "start 1 1;end 1 7"}, {"", sum + "if k more 3;return 8;end;return 7", 0, ""}, {"", sum + "if k less 0;return 8;end;return 7", 0, ""},
		{"", sum + "if k less 3;return 8;end;return 7", 1, "start 0 0;end 1 7"}, {"", sum + "if k same 1;return 8;end;return 7", 1, "start 0 1;end 1 7"},
		{"return m", "return n", 1, "start 0 1;end 1 1"}, {"return n", "return m", 1, "start 0 1;end 1 0"},
	})
	three := "let k mul n 4;let l mul m 2;let k add k l;let k add k o;"
	for choice, nums := range []string{"0 0 0", "0 0 1", "0 1 0", "0 1 1", "1 0 0", "1 0 1", "1 1 0", "1 1 1", ""} {
		code, want := 1, "start "+nums+";end 1 7"
		if nums == "" {
			code, want = 0, ""
		}
		checkLooks(t, "n m o", []lookCase{
			{"return 7", three + "if k more " + strconv.Itoa(choice-1) + ";return 8;end;return 7", code, want},
			{"", three + "if k same " + strconv.Itoa(choice) + ";return 8;end;return 7", code, want},
		})
	}
	// A workflow without names begins once; one with other names, or more of them, is begun by those of old.
	for i, c := range []struct {
		names, others string
		code          int
		list          string
	}{{"", "", 0, ""}, {"n", "m", 0, ""}, {"n m", "m n", 0, ""}, {"", "n", 1, "start;ask 1 0 - 2"}, {"n", "", 1, "start 0;ask 1 0 - 2"}, {"n m", "n", 1, "start 0 0;ask 1 0 - 2"}, {"n", "n m", 1, "start 0;ask 1 0 - 2"}, {"n m o", "", 1, "start 0 0 0;ask 1 0 - 2"}} {
		code, list := impl.VerLook(flowOf(t, c.names, "sleep 2;return 7"), flowOf(t, c.others, "sleep 2;return 7"))
		if got := histTold(list); code != c.code || got != c.list {
			t.Errorf("case %d: %d %q", i, code, got)
		}
	}
}

// P22: of what may happen, each ask comes first, with its answers in order, then each signal that is waited for, then that it is cancelled.
func TestWhatIsLookedAt(t *testing.T) {
	differ := func(name, test string) string { return "if " + name + " " + test + ";do k z;end;" }
	checkLooks(t, "", []lookCase{
		// Of an ask with a name: done with 0 and with 1, and that it went wrong with 1; of one for a time: that it came.
		{"do a x;return 5", "do a x;" + differ("a", "more -9") + "return 5", 1, "start;ask 1 0 x;done 1 0;end 1 5"},
		{"", "do a x;" + differ("a", "same 1") + "return 5", 1, "start;ask 1 0 x;done 1 1;end 1 5"},
		{"", "do a x;" + differ("a", "more 1") + "return 5", 0, ""}, {"", "do a x;" + differ("a", "less 0") + "return 5", 0, ""},
		{"do a x;do b y a;return 5", "do a x;do b y a;" + differ("b", "other 0") + "return 5", 1, "start;ask 1 0 x;done 1 0;ask 2 1 y 0;done 2 1;end 1 5"},
		{"", "do a x;do b y a;let a add a b;" + differ("a", "more 1") + "return 5", 1, "start;ask 1 0 x;done 1 1;ask 2 1 y 1;done 2 1;end 1 5"},
		{"do a x undo r;do b y;return 5", "do a x undo s;do b y;return 5", 1, "start;ask 1 0 x;done 1 0;ask 2 1 y;broke 2 1;ask 3 0- r 0"},
		{"do a x undo r;sleep 5;return 5", "do a x undo s;sleep 5;return 5", 1, "start;ask 1 0 x;done 1 0;ask 2 1 - 5;cancel;ask 3 0- r 0"},
		{"", "do a x undo s;sleep 5;do k z;return 5", 1, "start;ask 1 0 x;done 1 0;ask 2 1 - 5;fired 2;end 1 5"},
		{"do a x undo r;do b y undo r;fail 9", "do a x undo s;do b y undo r;fail 9", 1, "start;ask 1 0 x;done 1 0;ask 2 1 y;broke 2 1;ask 3 0- r 0"},
		{"do a x;fail 9", "do a x;fail -9002", 1, "start;ask 1 0 x;done 1 0;end 2 9"},
		// Asks in order, all their answers ahead of those of the next one.
		{"both;do a x;and;sleep 5;end;return 5", "both;do a x;" + differ("a", "more -9") + "and;sleep 5;do l z;end;return 5", 1, "start;ask 1 0.0 x;ask 2 1.0 - 5;done 1 0"},
		{"", "both;do a x;" + differ("a", "same 1") + "and;sleep 5;do l z;end;return 5", 1, "start;ask 1 0.0 x;ask 2 1.0 - 5;done 1 1"},
		{"", "both;do a x;" + differ("a", "same 2") + "and;sleep 5;do l z;end;return 5", 1, "start;ask 1 0.0 x;ask 2 1.0 - 5;fired 2"},
		{"both;sleep 5;and;do a x;end;return 5", "both;sleep 5;do l z;and;do a x;" + differ("a", "more -9") + "end;return 5", 1, "start;ask 1 0.0 - 5;ask 2 1.0 x;fired 1"},
		{"both;do a x;and;do b y;end;return 5", "both;do a x;" + differ("a", "same 1") + "and;do b y;do l z;end;return 5", 1, "start;ask 1 0.0 x;ask 2 1.0 y;done 1 1"},
		// Threads that wait for a signal, in order, behind all asks; a get with a time asks, too.
		{"get a go;return 5", "get a go;do k z;return 5", 1, "start;signal go 0;end 1 5"}, {"", "get a go;" + differ("a", "same 1") + "return 5", 1, "start;signal go 1;end 1 5"}, {"", "get a go;" + differ("a", "more 1") + "return 5", 0, ""},
		{"get a go for 3;return 5", "get a go for 3;do k z;return 5", 1, "start;ask 1 0 - 3;fired 1;end 1 5"}, {"", "get a go for 3;" + differ("a", "more -1") + "return 5", 1, "start;ask 1 0 - 3;signal go 0;end 1 5"}, {"", "get a go for 3;" + differ("a", "same 1") + "return 5", 1, "start;ask 1 0 - 3;signal go 1;end 1 5"},
		{"both;get a go;and;get b on;end;return 5", "both;get a go;do k z;and;get b on;do l z;end;return 5", 1, "start;signal go 0"}, {"", "both;get a go;" + differ("a", "same 1") + "and;get b on;do l z;end;return 5", 1, "start;signal go 1"}, {"", "both;get a go;and;get b on;do l z;end;return 5", 1, "start;signal on 0"}, {"", "both;get a go;and;get b on;" + differ("b", "same 1") + "end;return 5", 1, "start;signal on 1"},
		{"both;get a go;and;do b x;end;return 5", "both;get a go;do k z;and;do b x;do l z;end;return 5", 1, "start;ask 1 1.0 x;done 1 0"}, {"", "both;get a go;do k z;and;do b x;end;return 5", 1, "start;ask 1 1.0 x;signal go 0"},
		{"both;get a go;and;get b on for 2;end;return 5", "both;get a go;do k z;and;get b on for 2;do l z;end;return 5", 1, "start;ask 1 1.0 - 2;fired 1"}, {"", "both;get a go;do k z;and;get b on for 2;if b more -1;do l z;end;end;return 5", 1, "start;ask 1 1.0 - 2;signal go 0"},
		// The cancel last.
		{"do a x undo r;get b go;return 5", "do a x undo s;get b go;do k z;return 5", 1, "start;ask 1 0 x;done 1 0;signal go 0;end 1 5"}, {"", "do a x undo s;get b go;return 5", 1, "start;ask 1 0 x;done 1 0;cancel;ask 2 0- r 0"},
		{"get a go;return 5", "get a go;return 6", 1, "start;signal go 0;end 1 5"},
		// One behind the other: all that may happen first ahead of what may happen then.
		{"both;do a x;do b y;and;do c z;end;return 5", "both;do a x;do b q;and;do c z;end;return 5", 1, "start;ask 1 0.0 x;ask 2 1.0 z;done 1 0;ask 3 0.1 y"},
		{"do a x;do b y;do c z;return 5", "do a x;do b y;if b same 0;if a same 1;do d k;end;end;do c z;return 5", 1, "start;ask 1 0 x;done 1 1;ask 2 1 y;done 2 0;ask 3 2 z"},
		{"do a x;sleep 1;sleep 2;return 5", "do a x;sleep 1;if a same 0;sleep 3;else;sleep 2;end;return a", 1, "start;ask 1 0 x;done 1 0;ask 2 1 - 1;fired 2;ask 3 2 - 2"},
	})
}

// P22: a run that is ending is answered, and cancelled no more; what stands is looked at, and goes on no more.
func TestLooksAtWhatIsEnding(t *testing.T) {
	two := "do a x undo r;do b y undo q;fail 9"
	checkLooks(t, "", []lookCase{
		{two, two, 0, ""}, {two, strings.Replace(two, "undo r", "undo s", 1), 1, "start;ask 1 0 x;done 1 0;ask 2 1 y;broke 2 1;ask 3 0- r 0"},
		{"do a x undo r;do b y undo q;if b same 0;fail 9;end;fail 9", "do a x undo r;do b y undo q;if a same 1;do k z;end;fail 9", 1, "start;ask 1 0 x;done 1 1;ask 2 1 y;done 2 0;ask 3 1- q 0"},
		{"do a x undo r;fail 9", "do a x undo r;fail 8", 1, "start;ask 1 0 x;done 1 0;ask 2 0- r 0;done 2 0;end 2 9"},
		{"do a x undo r;fail a", "do a x undo r;fail 0", 1, "start;ask 1 0 x;done 1 1;ask 2 0- r 1;done 2 0;end 2 1"},
		{"return 5", "return 6", 1, "start;end 1 5"}, {"fail 5", "return 5", 1, "start;end 2 5"}, {"next", "fail 0", 1, "start;end 3 0"}, {"next 1 2", "next 2 1", 1, "start;end 3 0 1 2"}, {"fail -9003", "fail 5", 1, "start;end 4 -9003"}, {"fail 5", "fail 5", 0, ""},
		{"while 1 same 1;end;return 1", "while 1 same 1;end;return 2", 0, ""}, {"", "fail -9002", 0, ""}, {"", "return 2", 1, "start;end 2 -9002"},
	})
}

// P22: patches are there for old, as it is live; next has them by the marks.
func TestLooksAtPatches(t *testing.T) {
	checkLooks(t, "n", []lookCase{
		{"sleep 1;return n", "patch fix;sleep 2;else;sleep 1;end;return n", 0, ""}, {"", "patch fix;do a x;end;sleep 1;return n", 0, ""}, {"", "sleep 1;patch fix;return 5;end;return n", 0, ""}, {"", "do a x;sleep 1;return n", 1, "start 0;ask 1 0 - 1"},
		{"patch fix;sleep 2;else;sleep 1;end;return n", "sleep 2;return n", 1, "start 0;mark fix;ask 1 0 - 2"}, {"", "sleep 1;return n", 1, "start 0;mark fix;ask 1 0 - 2"}, {"", "patch fix;sleep 2;end;return n", 0, ""}, {"", "patch fix;sleep 2;else;do a x;end;return n", 0, ""}, {"", "patch fax;sleep 2;end;return n", 1, "start 0;mark fix;ask 1 0 - 2"}, {"", "patch fax;sleep 3;else;patch fix;sleep 2;end;end;return n", 0, ""},
		{"sleep 1;patch p;end;patch q;sleep 2;end;return n", "sleep 1;patch q;sleep 2;end;patch p;end;return n", 1, "start 0;ask 1 0 - 1;fired 1;mark p;mark q;ask 2 1 - 2"}, {"", "sleep 1;patch q;patch p;end;sleep 2;end;return n", 0, ""},
	})
}

// slowly is a workflow that sleeps so many times, and then goes on: it has two small histories for each time, and those of what comes then.
func slowly(many int, then string) string {
	return "let i is 0;while i less " + strconv.Itoa(many) + ";sleep 1;let i add i 1;end;" + then
}

// P22: VerMaxPairs histories looked at and none more, and one more.
func TestMostHistoriesOfLooks(t *testing.T) {
	checkLooks(t, "", []lookCase{
		// How many come behind: one of what stands, three of a sleep, four of a get, five of a get with a time, five of a do, eleven of one that is undone.
		{slowly(59, "return 1"), slowly(59, "return 1"), 0, ""}, {slowly(60, "return 1"), slowly(60, "return 1"), 2, ""},
		{slowly(58, "sleep 1;return 1"), slowly(58, "sleep 1;return 1"), 0, ""}, {slowly(59, "sleep 1;return 1"), slowly(59, "sleep 1;return 1"), 2, ""},
		{slowly(58, "get a go;return 1"), slowly(58, "get a go;return 1"), 0, ""}, {slowly(59, "get a go;return 1"), slowly(59, "get a go;return 1"), 2, ""},
		{slowly(57, "get a go for 2;return 1"), slowly(57, "get a go for 2;return 1"), 0, ""}, {slowly(58, "get a go for 2;return 1"), slowly(58, "get a go for 2;return 1"), 2, ""},
		{slowly(57, "do a x;return 1"), slowly(57, "do a x;return 1"), 0, ""}, {slowly(58, "do a x;return 1"), slowly(58, "do a x;return 1"), 2, ""},
		{slowly(54, "do a x undo r;fail 1"), slowly(54, "do a x undo r;fail 1"), 0, ""}, {slowly(55, "do a x undo r;fail 1"), slowly(55, "do a x undo r;fail 1"), 2, ""},
		{slowly(55, "both;get a go;and;get b on;end;return 1"), slowly(55, "both;get a go;and;get b on;end;return 1"), 2, ""},
		// The last one that is looked at, and the one behind it.
		{slowly(58, "get a go;return a"), slowly(58, "get a go;if a same 1;return 5;end;return a"), 1, "start;ask 1 0 - 1" + firings(57) + ";fired 58;signal go 1;end 1 1"},
		{slowly(59, "get a go;return a"), slowly(59, "get a go;if a same 0;return 5;end;return a"), 1, "start;ask 1 0 - 1" + firings(58) + ";fired 59;signal go 0;end 1 0"},
		{slowly(59, "get a go;return a"), slowly(59, "get a go;if a same 1;return 5;end;return a"), 2, ""},
		{slowly(60, "return i"), slowly(60, "return 0"), 1, "start;ask 1 0 - 1" + firings(59) + ";fired 60;end 1 60"},
		{slowly(61, "return i"), slowly(61, "return 0"), 2, ""}, {slowly(61, "return i"), slowly(60, "return i"), 1, "start;ask 1 0 - 1" + firings(60)},
		// They are too many, but one ahead is unlike.
		{"while 1 same 1;do a x;end;return 1", "while 1 same 1;do a x;end;return 2", 2, ""}, {"", "while 1 same 1;do a x;if a same 1;do a x 1;end;end;return 1", 1, "start;ask 1 0 x;done 1 1;ask 2 1 x"},
	})
	// By two and by eight beginnings, which all go on at once.
	for _, c := range []struct {
		names string
		many  int
		then  string
		code  int
	}{{"n", 29, "return 1", 0}, {"n", 30, "return 1", 2}, {"n", 28, "get a go;return 1", 0}, {"n", 29, "get a go;return 1", 2}, {"n m", 14, "return 1", 0}, {"n m", 15, "return 1", 2}, {"n m o", 7, "return 1", 0}, {"n m o", 8, "return 1", 2}, {"n m o", 6, "sleep n;return 1", 0}} {
		flow := flowOf(t, c.names, slowly(c.many, c.then))
		if code, list := impl.VerLook(flow, flow); code != c.code || len(list) != 0 {
			t.Errorf("%+v: %d %q", c, code, histTold(list))
		}
	}
}

// firings are so many times that come, one behind the other, each with the next one.
func firings(many int) string {
	var row strings.Builder
	for id := range many {
		row.WriteString(";fired " + strconv.Itoa(id+1) + ";ask " + strconv.Itoa(id+2) + " " + strconv.Itoa(id+1) + " - 1")
	}
	return row.String()
}

// P22: by what is no workflow nothing is looked at.
func TestLooksByWhatIsNoWorkflow(t *testing.T) {
	right := flowOf(t, "n", "sleep 1;return n")
	for i, none := range [][]impl.FlowLine{nil, {}, right[:1], right[:2], right[1:], make([]impl.FlowLine, 3), make([]impl.FlowLine, 61), anyRows("workflow w n;sleep x;return n"), anyRows("workflow w n;end;return n"), {{Kind: 99}}} {
		for _, pair := range [][2][]impl.FlowLine{{none, right}, {right, none}, {none, none}} {
			if code, list := impl.VerLook(pair[0], pair[1]); code != 2 || len(list) != 0 {
				t.Errorf("case %d: %d %q", i, code, histTold(list))
			}
		}
	}
}

// P22: small histories stay far below HistMaxLen entries: each thing that happens answers an ask, and what is looked at are too many ahead.
func TestLongestHistoriesOfLooks(t *testing.T) {
	var patches, marks string
	for i := range 25 {
		patches += "patch p" + strconv.Itoa(10+i) + ";end;"
		marks += ";mark p" + strconv.Itoa(10+i)
	}
	checkLooks(t, "", []lookCase{
		{patches + slowly(60, "return i"), patches + slowly(60, "return 0"), 1, "start" + marks + ";ask 1 0 - 1" + firings(59) + ";fired 60;end 1 60"},
		{patches + slowly(60, "return i"), patches + slowly(60, "return i"), 2, ""},
	})
}
