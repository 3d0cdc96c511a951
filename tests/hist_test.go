package tests

import (
	"math"
	"slices"
	"strings"
	"testing"

	"loop.example/dunserv/impl"
)

// ent is an entry, written short.
func ent(kind, id int, key, name string, nums ...int) impl.HistEntry {
	return impl.HistEntry{Kind: kind, Id: id, Key: key, Name: name, Nums: nums}
}

// histRead reads a history that is written in one row with `;` between.
func histRead(t *testing.T, row string) []impl.HistEntry {
	t.Helper()
	if row == "" {
		return nil
	}
	list, ok := impl.HistRead(strings.ReplaceAll(row, ";", "\n") + "\n")
	if !ok {
		t.Fatalf("%q is not read", row)
	}
	return list
}

// histTold is a history in one row with `;` between.
func histTold(list []impl.HistEntry) string {
	return strings.ReplaceAll(strings.TrimSuffix(impl.HistWrite(list), "\n"), "\n", ";")
}

func sameHist(a, b []impl.HistEntry) bool {
	return slices.EqualFunc(a, b, func(one, other impl.HistEntry) bool {
		return one.Kind == other.Kind && one.Id == other.Id && one.Key == other.Key && one.Name == other.Name && slices.Equal(one.Nums, other.Nums)
	})
}

func cloneHist(list []impl.HistEntry) []impl.HistEntry {
	var clone []impl.HistEntry
	for _, e := range list {
		e.Nums = slices.Clone(e.Nums)
		clone = append(clone, e)
	}
	return clone
}

const payFlow = "workflow w n\ndo a pay n\npatch fast\nsleep 1\nend\nreturn a"

// P16, P18: the document's example of a history, to the letter.
func TestHistoryOfTheExample(t *testing.T) {
	lines := linesOf(t, payFlow)
	want := []impl.HistEntry{
		ent(impl.EntStart, 0, "", "", 3), ent(impl.EntAsk, 1, "0", "pay", 3), ent(impl.EntDone, 1, "", "", 4), ent(impl.EntMark, 0, "", "fast"),
		ent(impl.EntAsk, 2, "1", "", 1), ent(impl.EntFired, 2, "", ""), ent(impl.EntEnd, 1, "", "", 4),
	}
	text := "start 3\nask 1 0 pay 3\ndone 1 4\nmark fast\nask 2 1 - 1\nfired 2\nend 1 4\n"
	list := impl.HistOf(lines, []int{3}, nil, nil, 200)
	if !sameHist(list, want) {
		t.Errorf("%+v", list)
	}
	if got := impl.HistWrite(want); got != text {
		t.Errorf("%q", got)
	}
	if read, ok := impl.HistRead(text); !ok || !sameHist(read, want) {
		t.Errorf("%v %+v", ok, read)
	}
	s, found := impl.HistReplay(lines, want)
	if played, _ := impl.RunPlay(lines, []int{3}, nil, nil, 200); found != (impl.HistFault{}) || !sameState(s, played) {
		t.Errorf("%+v %+v", found, s)
	}
}

// What a history says of each thing that may be said and may come.
func TestHistoriesOfPlays(t *testing.T) {
	for i, c := range []struct {
		row     string
		args    []int
		signals []impl.RunVar
		picks   []int
		most    int
		want    string
	}{
		{"return 5", nil, nil, nil, 9, "start;end 1 5"},
		{"fail n", []int{-9999}, nil, nil, 9, "start -9999;end 2 -9999"},
		{"fail -9003", []int{1}, nil, nil, 9, "start 1;end 4 -9003"},
		{"next n 5 m", []int{1, 2}, nil, nil, 9, "start 1 2;end 3 0 1 5 2"},
		{"next", []int{1, 2, 3}, nil, nil, 9, "start 1 2 3;end 3 0"},
		{"let a add n 9999;return a", []int{1}, nil, nil, 9, "start 1;end 2 -9001"},
		{"patch q;end;patch a;end;patch q;end;sleep 2;patch a;end;patch b;end;return 1", nil, nil, nil, 9, "start;mark a;mark q;ask 1 0 - 2;fired 1;mark b;end 1 1"},
		{"patch p;end;do a pay n;return a", []int{3}, nil, nil, 0, "start 3;mark p;ask 1 0 pay 3"},
		{"patch p;end;do a pay n;return a", []int{3}, nil, nil, -5, "start 3;mark p;ask 1 0 pay 3"},
		{"get a go;return a", nil, nil, nil, 9, "start"},
		{"get a go;return a", nil, []impl.RunVar{aVar("no", 1), aVar("go", 10000), aVar("go", 2), aVar("go", 3)}, nil, 9, "start;signal no 1;signal go 2;end 1 2"},
		{"get a go for 7;return a", nil, []impl.RunVar{aVar("no", -3)}, nil, 9, "start;ask 1 0 - 7;signal no -3;fired 1;end 1 -1"},
		{"both;sleep 1;do a x;and;patch p;end;sleep 2;end;return 4", nil, nil, []int{1}, 2, "start;mark p;ask 1 0.0 - 1;ask 2 1.0 - 2;fired 2;fired 1;ask 3 0.1 x"},
		{"both;sleep 1;do a x;and;patch p;end;sleep 2;end;return 4", nil, nil, nil, 1, "start;mark p;ask 1 0.0 - 1;ask 2 1.0 - 2;fired 1;ask 3 0.1 x"},
		// What was asked for is not said, if the run ends before it waits.
		{"both;do a x;and;let b mul n n;end;return 4", []int{100}, nil, nil, 9, "start 100;end 2 -9001"},
	} {
		head := "workflow w" + []string{"", " n", " n m", " n m k"}[len(c.args)]
		lines := linesOf(t, head+"\n"+strings.ReplaceAll(c.row, ";", "\n"))
		list := impl.HistOf(lines, c.args, c.signals, c.picks, c.most)
		if got := histTold(list); got != c.want {
			t.Errorf("case %d: %q, not %q", i, got, c.want)
		}
		played, _ := impl.RunPlay(lines, c.args, c.signals, c.picks, c.most)
		if s, found := impl.HistReplay(lines, list); found != (impl.HistFault{}) || !sameState(s, played) {
			t.Errorf("case %d: %+v %+v, not %+v", i, found, s, played)
		}
	}
}

func TestNoHistory(t *testing.T) {
	lines := linesOf(t, "workflow w n\nreturn n")
	for i, c := range []struct {
		lines []impl.FlowLine
		args  []int
	}{{lines, nil}, {lines, []int{1, 2}}, {lines, []int{10000}}, {lines, []int{-10000}}, {nil, nil}, {lines[:1], []int{1}}} {
		if list := impl.HistOf(c.lines, c.args, []impl.RunVar{aVar("go", 1)}, []int{1}, 9); len(list) != 0 {
			t.Errorf("case %d: %+v", i, list)
		}
	}
}

type entryCase struct {
	entry impl.HistEntry
	want  string // how it is written; empty, if it is not ok
}

func entryCases() []entryCase {
	key23, key24, key25 := strings.Repeat("0.-", 7)+"12", strings.Repeat("9", 24), strings.Repeat(".", 25)
	return []entryCase{
		{ent(1, 0, "", ""), "start"}, {ent(1, 0, "", "", 1, -9999, 9999), "start 1 -9999 9999"}, {ent(1, 0, "", "", 1, 2, 3, 4), ""}, {ent(1, 0, "", "", 10000), ""}, {ent(1, 0, "", "", 0, -10000), ""},
		{ent(1, 1, "", ""), ""}, {ent(1, -1, "", ""), ""}, {ent(1, 0, "0", ""), ""}, {ent(1, 0, "", "a"), ""},
		{ent(2, 0, "", "p"), "mark p"}, {ent(2, 0, "", "abcdefg9"), "mark abcdefg9"}, {ent(2, 0, "", "abcdefghi"), ""}, {ent(2, 0, "", ""), ""}, {ent(2, 0, "", "P"), ""}, {ent(2, 0, "", "-"), ""}, {ent(2, 0, "", "9a"), ""}, {ent(2, 0, "", "a b"), ""},
		{ent(2, 1, "", "p"), ""}, {ent(2, 0, "1", "p"), ""}, {ent(2, 0, "", "p", 0), ""},
		{ent(3, 1, "0", "pay"), "ask 1 0 pay"}, {ent(3, 9999, "01.10", "", 5), "ask 9999 01.10 - 5"}, {ent(3, 7, "-", "pay", 1, 2, 3), "ask 7 - pay 1 2 3"}, {ent(3, 7, "1.-", "", 9999, -9999, 0), "ask 7 1.- - 9999 -9999 0"},
		{ent(3, 1, key23, "a"), "ask 1 " + key23 + " a"}, {ent(3, 1, key24, "a"), "ask 1 " + key24 + " a"}, {ent(3, 1, key25, "a"), ""}, {ent(3, 1, "", "a"), ""}, {ent(3, 1, "a", "a"), ""}, {ent(3, 1, "0 1", "a"), ""}, {ent(3, 1, "0\n", "a"), ""}, {ent(3, 1, "/", "a"), ""}, {ent(3, 1, ":", "a"), ""},
		{ent(3, 0, "0", "a"), ""}, {ent(3, 10000, "0", "a"), ""}, {ent(3, -1, "0", "a"), ""}, {ent(3, 1, "0", "-"), ""}, {ent(3, 1, "0", "time"), "ask 1 0 time"}, {ent(3, 1, "0", "A"), ""}, {ent(3, 1, "0", "a", 1, 2, 3, 4), ""}, {ent(3, 1, "0", "a", 1, 10000), ""}, {ent(3, 1, "0", "", -10000), ""},
		{ent(4, 1, "", "", 0), "done 1 0"}, {ent(4, 9999, "", "", -9999), "done 9999 -9999"}, {ent(4, 9999, "", "", 9999), "done 9999 9999"}, {ent(4, 10000, "", "", 0), ""}, {ent(4, 0, "", "", 0), ""}, {ent(4, -1, "", "", 0), ""}, {ent(4, 1, "", "", 10000), ""}, {ent(4, 1, "", "", -10000), ""}, {ent(4, 1, "", ""), ""}, {ent(4, 1, "", "", 1, 2), ""}, {ent(4, 1, "0", "", 1), ""}, {ent(4, 1, "", "a", 1), ""},
		{ent(5, 1, "", "", 0), "broke 1 0"}, {ent(5, 9999, "", "", -9999), "broke 9999 -9999"}, {ent(5, 10000, "", "", 0), ""}, {ent(5, 0, "", "", 0), ""}, {ent(5, 1, "", "", 10000), ""}, {ent(5, 1, "", "", -10000), ""}, {ent(5, 1, "", ""), ""}, {ent(5, 1, "", "", 1, 2), ""}, {ent(5, 1, "0", "", 1), ""}, {ent(5, 1, "", "a", 1), ""},
		{ent(6, 1, "", ""), "fired 1"}, {ent(6, 9999, "", ""), "fired 9999"}, {ent(6, 10000, "", ""), ""}, {ent(6, 0, "", ""), ""}, {ent(6, 1, "", "", 0), ""}, {ent(6, 1, "0", ""), ""}, {ent(6, 1, "", "a"), ""},
		{ent(7, 0, "", "go", 5), "signal go 5"}, {ent(7, 0, "", "abcdefgh", -9999), "signal abcdefgh -9999"}, {ent(7, 0, "", "abcdefghi", 1), ""}, {ent(7, 0, "", "go", 10000), ""}, {ent(7, 0, "", "go", -10000), ""}, {ent(7, 0, "", "go"), ""}, {ent(7, 0, "", "go", 1, 2), ""}, {ent(7, 0, "", "", 1), ""}, {ent(7, 0, "", "-", 1), ""}, {ent(7, 1, "", "go", 1), ""}, {ent(7, 0, "0", "go", 1), ""},
		{ent(8, 0, "", ""), "cancel"}, {ent(8, 1, "", ""), ""}, {ent(8, 0, "0", ""), ""}, {ent(8, 0, "", "a"), ""}, {ent(8, 0, "", "", 0), ""},
		{ent(9, 1, "", "", 4), "end 1 4"}, {ent(9, 2, "", "", -9999), "end 2 -9999"}, {ent(9, 3, "", "", 0), "end 3 0"}, {ent(9, 3, "", "", 0, 1, 2, 9999), "end 3 0 1 2 9999"}, {ent(9, 4, "", "", -9003), "end 4 -9003"},
		{ent(9, 0, "", "", 4), ""}, {ent(9, 5, "", "", 4), ""}, {ent(9, -1, "", "", 4), ""}, {ent(9, 1, "", ""), ""}, {ent(9, 3, "", "", 0, 1, 2, 3, 4), ""}, {ent(9, 3, "", "", 10000), ""}, {ent(9, 3, "", "", 0, -10000), ""}, {ent(9, 1, "0", "", 1), ""}, {ent(9, 1, "", "a", 1), ""},
		{ent(0, 0, "", ""), ""}, {ent(10, 0, "", ""), ""}, {ent(-1, 0, "", ""), ""}, {ent(99, 1, "0", "a", 1), ""}, {ent(math.MaxInt, 0, "", ""), ""}, {ent(math.MinInt, 0, "", ""), ""},
		{ent(4, math.MinInt, "", "", math.MaxInt), ""}, {ent(6, math.MaxInt, "", ""), ""}, {ent(9, math.MinInt, "", "", 0), ""}, {ent(7, 0, "", "\xff", 1), ""}, {ent(2, 0, "", "é"), ""},
	}
}

// P18: what is ok is written, and read as it; what is not is written by no list, and is HistBad wherever it stands.
func TestEntries(t *testing.T) {
	lines := linesOf(t, "workflow w\nreturn 1")
	for _, c := range entryCases() {
		row := ""
		if c.want != "" {
			row = c.want + "\n"
		}
		if got := impl.HistWrite([]impl.HistEntry{c.entry}); got != row {
			t.Errorf("%+v: %q, not %q", c.entry, got, row)
		}
		cancel := ent(impl.EntCancel, 0, "", "")
		if got := impl.HistWrite([]impl.HistEntry{cancel, c.entry, cancel}); (got != "") != (c.want != "") {
			t.Errorf("%+v: %q", c.entry, got)
		}
		if c.want != "" {
			if list, ok := impl.HistRead(row); !ok || !sameHist(list, []impl.HistEntry{c.entry}) {
				t.Errorf("%q: %v %+v", row, ok, list)
			}
		}
		s, found := impl.HistReplay(lines, []impl.HistEntry{ent(impl.EntStart, 0, "", ""), ent(impl.EntEnd, 1, "", "", 1), c.entry})
		if bad := c.want == "" || c.entry.Kind == impl.EntStart; bad != (found == impl.HistFault{At: 2, Code: impl.HistBad}) || found.Code == 0 || !sameState(s, impl.RunState{}) {
			t.Errorf("%+v: %+v %+v", c.entry, found, s)
		}
	}
}

// P18: any other text than one that is written so is none.
func TestTextsThatAreNone(t *testing.T) {
	for _, text := range []string{
		"start", "start 3", " start 3\n", "start  3\n", "start 3 \n", "start 3\n\n", "\nstart 3\n", "\n", "\n\n", " \n", " ", "start 3\r\n", "start\t3\n", "start 3\x00\n", "Start 3\n", "starts 3\n", "star\n",
		"start 03\n", "start +3\n", "start -0\n", "start -03\n", "start 00\n", "start 3.\n", "start 0x3\n", "start 1_0\n", "start x\n", "start -\n", "start 10000\n", "start -10000\n", "start 99999999999999999999\n", "start 1 2 3 4\n",
		"mark\n", "mark \n", "mark P\n", "mark -\n", "mark abcdefghi\n", "mark a b\n", "mark a 1\n", "mark 1\n",
		"ask\n", "ask 1\n", "ask 1 0\n", "ask 1 0 \n", "ask 0 0 -\n", "ask 01 0 -\n", "ask 10000 0 -\n", "ask -1 0 -\n", "ask 1 a -\n", "ask 1 pay 0\n", "ask 1 0 --\n", "ask 1 0 P\n", "ask 1 0 - x\n", "ask 1 0 - -\n", "ask 1 0 - 01\n", "ask 1 0 - 1 2 3 4\n", "ask 1 1111111111111111111111111 -\n", "ask 1 0 time 1 undo\n",
		"done\n", "done 1\n", "done 0 1\n", "done 01 1\n", "done 1 01\n", "done 1 1 1\n", "done 1 x\n", "done 10000 1\n", "done -1 1\n", "done 1 10000\n", "done 1 -10000\n",
		"broke 1\n", "broke 0 1\n", "broke 1 1 1\n", "broke 1 -0\n",
		"fired\n", "fired 0\n", "fired 10000\n", "fired 1 1\n", "fired 1 \n", "fired -\n", "fired 01\n",
		"signal\n", "signal go\n", "signal go 1 2\n", "signal 1 go\n", "signal go 01\n", "signal go -\n", "signal - 1\n", "signal 1 1\n",
		"cancel 1\n", "cancel \n", "cancel cancel\n", "cancelled\n",
		"end\n", "end 1\n", "end 0 0\n", "end 5 0\n", "end -1 0\n", "end 01 0\n", "end 1 0 1 2 3 4\n", "end 1 x\n", "end done 1\n",
		"what\n", "workflow w\n", "1\n", "-\n", "\xff\n", "cancel\n\xff", "cancel\xff\n", "é\n", "start 3\nwhat\n", "start 3\ncancel", "start 3\n cancel\n", "cancel\n cancel\n",
	} {
		if list, ok := impl.HistRead(text); ok || len(list) != 0 {
			t.Errorf("%q: %v %+v", text, ok, list)
		}
	}
	if list, ok := impl.HistRead(""); !ok || len(list) != 0 {
		t.Errorf("nothing: %v %+v", ok, list)
	}
	if impl.HistWrite(nil) != "" || impl.HistWrite([]impl.HistEntry{}) != "" {
		t.Error("nothing is written")
	}
	// Whether entries follow each other is not looked at.
	for _, text := range []string{"cancel\n", "end 1 4\nstart 3\nstart 4\n", "fired 2\nask 1 0 -\nask 1 0 -\n", "end 1 4 5\n", "mark b\nmark a\n"} {
		if list, ok := impl.HistRead(text); !ok || impl.HistWrite(list) != text {
			t.Errorf("%q: %v %+v", text, ok, list)
		}
	}
}

// P18: HistMaxLen entries and HistMaxText bytes, and one more.
func TestLongHistories(t *testing.T) {
	many := strings.Repeat("cancel\n", impl.HistMaxLen)
	list, ok := impl.HistRead(many)
	if !ok || len(list) != impl.HistMaxLen || impl.HistWrite(list) != many {
		t.Errorf("%v %d", ok, len(list))
	}
	if more, ok := impl.HistRead(many + "cancel\n"); ok || len(more) != 0 {
		t.Errorf("%v %d", ok, len(more))
	}
	if got := impl.HistWrite(append(list, ent(impl.EntCancel, 0, "", ""))); got != "" {
		t.Errorf("%d bytes", len(got))
	}
	// 400 rows of 40 bytes meet both limits.
	wide := slices.Repeat([]impl.HistEntry{ent(impl.EntAsk, 1234, strings.Repeat("1", 21), "abcdefgh")}, impl.HistMaxLen)
	text := impl.HistWrite(wide)
	if read, ok := impl.HistRead(text); len(text) != impl.HistMaxText || !ok || !sameHist(read, wide) {
		t.Errorf("%d bytes: %v %d", len(text), ok, len(read))
	}
	// What is one byte too long is written all the same, and not read.
	wide[7].Key += "1"
	text = impl.HistWrite(wide)
	if read, ok := impl.HistRead(text); len(text) != impl.HistMaxText+1 || ok || len(read) != 0 {
		t.Errorf("%d bytes: %v %d", len(text), ok, len(read))
	}
	if read, ok := impl.HistRead(text[40:]); !ok || len(read) != impl.HistMaxLen-1 {
		t.Errorf("%v %d", ok, len(read))
	}
}
