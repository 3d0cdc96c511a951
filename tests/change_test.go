package tests

import (
	"math"
	"slices"
	"strings"
	"testing"

	"loop.example/dunserv/impl"
)

// anyRows are lines that are written in one row with `;` between, whether or not they are a workflow, or stand well.
func anyRows(row string) []impl.FlowLine {
	var lines []impl.FlowLine
	for _, text := range strings.Split(row, ";") {
		words := strings.Fields(text)
		if len(words) == 0 {
			continue
		}
		kind := slices.Index(strings.Fields("- workflow let do sleep get if else while both and end return fail patch next"), words[0])
		line := impl.FlowLine{Kind: kind, Args: slices.Clone(words[1:])}
		switch kind {
		case impl.FlowHead, impl.FlowPatch:
			line.Name, line.Args = words[1], slices.Clone(words[2:])
		case impl.FlowLet, impl.FlowDo, impl.FlowGet:
			line.To, line.Name, line.Args = words[1], words[2], slices.Clone(words[3:])
		case impl.FlowIf, impl.FlowWhile:
			line.Name, line.Args = words[2], []string{words[1], words[3]}
		}
		if n := len(line.Args); kind == impl.FlowDo && n > 1 && line.Args[n-2] == "undo" {
			line.Undo, line.Args = line.Args[n-1], line.Args[:n-2]
		}
		if kind == impl.FlowGet && len(line.Args) > 0 {
			line.Args = line.Args[1:]
		}
		lines = append(lines, line)
	}
	return lines
}

// rowOf writes a workflow in one row with `;` between, without the head.
func rowOf(lines []impl.FlowLine) string {
	_, text, _ := strings.Cut(strings.TrimSuffix(impl.FlowPrint(lines), "\n"), "\n")
	return strings.ReplaceAll(text, "\n", ";")
}

type swapCase struct {
	row      string // the workflow, or the one ahead, if empty
	from, to int
	name     string
	more     string
	want     string // what comes, without the head; empty, if nothing does
}

// isSwapped says whether what came is what is wanted, nothing if that is empty.
func isSwapped(changed []impl.FlowLine, ok bool, want string) bool {
	if want == "" {
		return !ok && len(changed) == 0
	}
	return ok && rowOf(changed) == want
}

func checkSwaps(t *testing.T, cases []swapCase) {
	t.Helper()
	var lines []impl.FlowLine
	for i, c := range cases {
		if c.row != "" {
			lines = flowOf(t, "n", c.row)
		}
		changed, ok := impl.VerSwap(lines, c.from, c.to, c.name, anyRows(c.more))
		if !isSwapped(changed, ok, c.want) {
			t.Errorf("case %d: %v %q, not %q", i, ok, rowOf(changed), c.want)
		}
		put, may := impl.VerInsert(lines, c.from, c.name, anyRows(c.more))
		if c.from == c.to && !isSwapped(put, may, c.want) {
			t.Errorf("case %d: VerInsert: %v %q, not %q", i, may, rowOf(put), c.want)
		}
		if again, too := impl.VerSwap(lines, c.from, c.from, c.name, anyRows(c.more)); may != too || !sameLines(put, again) {
			t.Errorf("case %d: VerInsert: %v %q, not as VerSwap %v %q", i, may, rowOf(put), too, rowOf(again))
		}
	}
}

// P21: a stretch put in, and one put in the place of another one; places from 1 up to the number of lines, and beyond.
func TestSwapsOfStretches(t *testing.T) {
	checkSwaps(t, []swapCase{
		{"do a pay n;let b is a;return b", 1, 1, "fix", "sleep 1", "patch fix;sleep 1;end;do a pay n;let b is a;return b"},
		{"", 2, 2, "fix", "do c mail a undo back;get d go for a", "do a pay n;patch fix;do c mail a undo back;get d go for a;end;let b is a;return b"},
		{"", 3, 3, "fix", "sleep b", "do a pay n;let b is a;patch fix;sleep b;end;return b"},
		{"", 1, 2, "fix", "let a is 1", "patch fix;let a is 1;else;do a pay n;end;let b is a;return b"},
		{"", 2, 3, "fix", "let b is 5", "do a pay n;patch fix;let b is 5;else;let b is a;end;return b"},
		{"", 1, 3, "fix", "let b is 5", "patch fix;let b is 5;else;do a pay n;let b is a;end;return b"},
		{"", 3, 4, "fix", "return 1", "do a pay n;let b is a;patch fix;return 1;else;return b;end"},
		{"", 1, 4, "fix", "return 1", "patch fix;return 1;else;do a pay n;let b is a;return b;end"},
		{"", 1, 4, "fix", "sleep 3;next n", "patch fix;sleep 3;next n;else;do a pay n;let b is a;return b;end"},
		{"", 2, 4, "fix", "fail a", "do a pay n;patch fix;fail a;else;let b is a;return b;end"},
		// Nothing put in.
		{"", 1, 1, "fix", "", "patch fix;end;do a pay n;let b is a;return b"},
		{"return 1", 1, 1, "fix", "", "patch fix;end;return 1"},
		{"return 1", 1, 2, "fix", "", ""},
		{"sleep 1;return 1", 1, 2, "fix", "", "patch fix;else;sleep 1;end;return 1"},
		// What leaves there, and what does not.
		{"", 1, 1, "fix", "return 5", "patch fix;return 5;end;sleep 1;return 1"},
		{"", 1, 2, "fix", "fail 5", "patch fix;fail 5;else;sleep 1;end;return 1"},
		{"", 2, 3, "fix", "sleep 5", ""},
		{"", 1, 3, "fix", "sleep 5", ""},
		// from and to at their bounds, and one beyond: behind the last line nobody comes.
		{"", 3, 3, "fix", "sleep 5", ""}, {"", 3, 3, "fix", "return 5", ""}, {"", 3, 3, "fix", "", ""},
		{"", 4, 4, "fix", "sleep 5", ""}, {"", 4, 3, "fix", "sleep 5", ""}, {"", 3, 4, "fix", "return 5", ""}, {"", 2, 4, "fix", "return 5", ""}, {"", 1, 4, "fix", "return 5", ""},
		{"", 0, 0, "fix", "sleep 5", ""}, {"", 0, 1, "fix", "sleep 5", ""}, {"", 0, 3, "fix", "return 5", ""}, {"", -1, -1, "fix", "sleep 5", ""}, {"", -1, 1, "fix", "sleep 5", ""}, {"", -1, 2, "fix", "sleep 5", ""},
		{"", 1, 0, "fix", "sleep 5", ""}, {"", 2, 1, "fix", "sleep 5", ""}, {"", 3, 2, "fix", "sleep 5", ""}, {"", 1, -1, "fix", "sleep 5", ""}, {"", 2, 2, "fix", "sleep 5", "sleep 1;patch fix;sleep 5;end;return 1"},
		{"", math.MinInt, math.MinInt, "fix", "sleep 5", ""}, {"", math.MaxInt, math.MaxInt, "fix", "sleep 5", ""}, {"", math.MinInt, math.MaxInt, "fix", "sleep 5", ""}, {"", math.MaxInt, math.MinInt, "fix", "sleep 5", ""},
		{"", 1, math.MaxInt, "fix", "return 5", ""}, {"", 1, math.MinInt, "fix", "sleep 5", ""}, {"", math.MinInt, 1, "fix", "sleep 5", ""}, {"", math.MinInt, 2, "fix", "sleep 5", ""}, {"", math.MaxInt, 2, "fix", "sleep 5", ""}, {"", 1 << 32, 1 << 32, "fix", "sleep 5", ""}, {"", 1 + 1<<32, 1 + 1<<32, "fix", "sleep 5", ""},
	})
}

const blocksRow = "do a pay n;if a less 1;sleep 2;else;sleep 3;end;both;do b x;and;do c y;end;while n less 2;let n add n 1;end;patch p;sleep 4;end;return a"

// P21: whole blocks and stretches within a part may be swapped; what closes what it does not open, or does not close what it opens, not.
func TestSwapsOfBlocks(t *testing.T) {
	put := "patch fix;sleep 9;else;"
	checkSwaps(t, []swapCase{
		{blocksRow, 2, 7, "fix", "sleep 9", strings.Replace(blocksRow, "if a less 1;sleep 2;else;sleep 3;end;", put+"if a less 1;sleep 2;else;sleep 3;end;end;", 1)},
		{"", 3, 4, "fix", "sleep 9", strings.Replace(blocksRow, "sleep 2;", put+"sleep 2;end;", 1)},
		{"", 5, 6, "fix", "sleep 9", strings.Replace(blocksRow, "sleep 3;", put+"sleep 3;end;", 1)},
		{"", 7, 12, "fix", "sleep 9", strings.Replace(blocksRow, "both;do b x;and;do c y;end;", put+"both;do b x;and;do c y;end;end;", 1)},
		{"", 8, 9, "fix", "sleep 9", strings.Replace(blocksRow, "do b x;", put+"do b x;end;", 1)},
		{"", 10, 11, "fix", "sleep 9", strings.Replace(blocksRow, "do c y;", put+"do c y;end;", 1)},
		{"", 12, 15, "fix", "sleep 9", strings.Replace(blocksRow, "while n less 2;let n add n 1;end;", put+"while n less 2;let n add n 1;end;end;", 1)},
		{"", 13, 14, "fix", "sleep 9", strings.Replace(blocksRow, "let n add n 1;", put+"let n add n 1;end;", 1)},
		{"", 15, 18, "fix", "sleep 9", strings.Replace(blocksRow, "patch p;sleep 4;end;", put+"patch p;sleep 4;end;end;", 1)},
		{"", 16, 17, "fix", "sleep 9", strings.Replace(blocksRow, "sleep 4;", put+"sleep 4;end;", 1)},
		{"", 2, 18, "fix", "sleep 9", strings.Replace(blocksRow, "do a pay n;", "do a pay n;"+put, 1)[:len(blocksRow)+len(put)-len("return a")] + "end;return a"},
		// Ahead of each line something may be put in.
		{"", 4, 4, "fix", "sleep 9", strings.Replace(blocksRow, "sleep 2;", "sleep 2;patch fix;sleep 9;end;", 1)},
		{"", 6, 6, "fix", "sleep 9", strings.Replace(blocksRow, "sleep 3;", "sleep 3;patch fix;sleep 9;end;", 1)},
		{"", 9, 9, "fix", "sleep 9", strings.Replace(blocksRow, "do b x;", "do b x;patch fix;sleep 9;end;", 1)},
		{"", 11, 11, "fix", "sleep 9", strings.Replace(blocksRow, "do c y;", "do c y;patch fix;sleep 9;end;", 1)},
		{"", 14, 14, "fix", "sleep 9", strings.Replace(blocksRow, "let n add n 1;", "let n add n 1;patch fix;sleep 9;end;", 1)},
		{"", 12, 12, "fix", "sleep 9", strings.Replace(blocksRow, "while", "patch fix;sleep 9;end;while", 1)},
		// A part of a block, both parts with what stands between, what closes what it does not open.
		{"", 2, 3, "fix", "sleep 9", ""}, {"", 2, 4, "fix", "sleep 9", ""}, {"", 2, 5, "fix", "sleep 9", ""}, {"", 2, 6, "fix", "sleep 9", ""}, {"", 3, 5, "fix", "sleep 9", ""}, {"", 3, 6, "fix", "sleep 9", ""}, {"", 3, 7, "fix", "sleep 9", ""},
		{"", 4, 5, "fix", "sleep 9", ""}, {"", 4, 6, "fix", "sleep 9", ""}, {"", 4, 7, "fix", "sleep 9", ""}, {"", 5, 7, "fix", "sleep 9", ""}, {"", 6, 7, "fix", "sleep 9", ""},
		{"", 7, 8, "fix", "sleep 9", ""}, {"", 7, 9, "fix", "sleep 9", ""}, {"", 7, 11, "fix", "sleep 9", ""}, {"", 8, 10, "fix", "sleep 9", ""}, {"", 8, 11, "fix", "sleep 9", ""}, {"", 8, 12, "fix", "sleep 9", ""}, {"", 9, 10, "fix", "sleep 9", ""}, {"", 9, 11, "fix", "sleep 9", ""}, {"", 10, 12, "fix", "sleep 9", ""}, {"", 11, 12, "fix", "sleep 9", ""},
		{"", 12, 13, "fix", "sleep 9", ""}, {"", 12, 14, "fix", "sleep 9", ""}, {"", 13, 15, "fix", "sleep 9", ""}, {"", 14, 15, "fix", "sleep 9", ""}, {"", 15, 17, "fix", "sleep 9", ""}, {"", 16, 18, "fix", "sleep 9", ""}, {"", 17, 18, "fix", "sleep 9", ""},
		{"", 6, 8, "fix", "sleep 9", ""}, {"", 5, 9, "fix", "sleep 9", ""}, {"", 11, 13, "fix", "sleep 9", ""}, {"", 14, 16, "fix", "sleep 9", ""}, {"", 1, 3, "fix", "sleep 9", ""}, {"", 17, 19, "fix", "return 9", ""},
		// What would come then has no fault, but they are not even.
		{"if n less 1;sleep 1;end;if n less 2;sleep 2;end;return n", 3, 5, "fix", "sleep 9", ""}, {"", 2, 5, "fix", "sleep 9", ""}, {"", 3, 6, "fix", "sleep 9", ""}, {"", 2, 6, "fix", "sleep 9", ""},
		{"if n less 1;sleep 1;end;while n less 2;sleep 2;end;return n", 3, 5, "fix", "sleep 9", ""}, {"", 1, 2, "fix", "sleep 9", ""}, {"", 1, 4, "fix", "sleep 9", "patch fix;sleep 9;else;if n less 1;sleep 1;end;end;while n less 2;sleep 2;end;return n"},
		{"if n less 1;sleep 1;else;sleep 2;end;return n", 1, 4, "fix", "sleep 9", ""}, {"", 1, 5, "fix", "sleep 9", ""}, {"", 3, 6, "fix", "sleep 9", ""}, {"", 3, 4, "fix", "sleep 9", ""},
		{"patch p;sleep 1;else;sleep 2;end;return n", 1, 4, "fix", "sleep 9", ""}, {"", 2, 5, "fix", "sleep 9", ""}, {"", 2, 2, "fix", "sleep 9", "patch p;patch fix;sleep 9;end;sleep 1;else;sleep 2;end;return n"},
		{"both;sleep 1;and;sleep 2;end;return n", 2, 5, "fix", "sleep 9", ""}, {"", 3, 4, "fix", "sleep 9", ""}, {"", 1, 3, "fix", "sleep 9", ""}, {"", 1, 6, "fix", "sleep 9", "patch fix;sleep 9;else;both;sleep 1;and;sleep 2;end;end;return n"},
	})
}

// P21: what is put in may have blocks that it closes, and else and and within; nothing else is even.
func TestSwapsOfMore(t *testing.T) {
	for more, want := range map[string]bool{
		"": true, "sleep 1": true, "if n less 1;end": true, "if n less 1;else;sleep 1;end": true, "patch q;else;end": true, "while n less 1;end": true, "both;and;end": true, "both;sleep 1;and;sleep 2;end;patch q;both;and;end;end": true, "patch p;end": true,
		"end": false, "else": false, "and": false, "if n less 1": false, "patch q": false, "while n less 1": false, "both": false, "both;and": false, "if n less 1;else": false,
		"end;patch q": false, "end;if n less 1": false, "sleep 1;end;if n less 1;sleep 2": false, "else;sleep 1": false, "sleep 1;else;sleep 2": false, "sleep 1;else": false, "sleep 1;end;sleep 2": false,
		"if n less 1;end;else": false, "if n less 1;end;else;if n less 1;end": false, "end;patch q;else": false, "if n less 1;end;end": false, "end;end": false, "end;both;and": false, "and;end;both": false, "if n less 1;if n less 1;end": false,
		"while n less 1;else;end": false, "while n less 1;and;end": false, "if n less 1;and;end": false, "both;end": false, "both;else;and;end": false, "both;and;and;end": false, "if n less 1;else;else;end": false,
		"workflow v": false, "workflow w n": false, "let x is y": false, "sleep x": false, "return 1;sleep 1": false, "let 9x is 1": false, "do x Pay": false, "sleep 10000": false, "next 1 2 3 4": false, "what": false, "both;return 1;and;end": false, "both;let x is 1;and;let x is 1;end": false,
	} {
		lines := flowOf(t, "n", "patch p;sleep 4;end;sleep 1;return n")
		for _, to := range []int{4, 5} {
			row := "patch p;sleep 4;end;patch fix;" + more + ";"
			if to == 5 {
				row += "else;sleep 1;end;return n"
			} else {
				row += "end;sleep 1;return n"
			}
			row = strings.ReplaceAll(row, ";;", ";")
			if !want {
				row = ""
			}
			if changed, ok := impl.VerSwap(lines, 4, to, "fix", anyRows(more)); !isSwapped(changed, ok, row) {
				t.Errorf("%q, to %d: %v %q, not %q", more, to, ok, rowOf(changed), row)
			}
		}
	}
}

// P21: a name that is none, or of a patch that is there; that of anything else may be it.
func TestNamesOfChanges(t *testing.T) {
	lines := flowOf(t, "n", "patch p;sleep 4;else;patch q;end;end;do a pay n undo back;get b go;return a")
	for name, want := range map[string]bool{
		"fix": true, "f": true, "abcdefgh": true, "a1234567": true, "pay": true, "a": true, "n": true, "w": true, "back": true, "go": true, "less": true, "patch": true, "r": true, "mail": true, "x": true,
		"p": false, "q": false, "": false, "P": false, "abcdefghi": false, "9a": false, "9": false, "-": false, "a b": false, " fix": false, "fix ": false, "fix\n": false, "fix\x00": false, "é": false, "\xff": false, "a_b": false, "-5": false,
		"s": false, "t": false,
	} {
		more := anyRows("patch s;else;if n less 1;patch t;end;end;end;do x mail n")
		for _, to := range []int{1, 7} {
			if changed, ok := impl.VerSwap(lines, 1, to, name, more); ok != want || (len(changed) > 0) != want || ok && changed[1].Name != name {
				t.Errorf("%q, to %d: %v %q", name, to, ok, rowOf(changed))
			}
		}
	}
	// A name counts just in a FlowPatch, and there, whatever the others are.
	for i, more := range [][]impl.FlowLine{{{Kind: impl.FlowPatch, Name: "fix"}, {Kind: impl.FlowEnd}}, {{Kind: impl.FlowPatch, Name: "fix", Args: []string{"1"}}, {Kind: impl.FlowEnd}}} {
		if changed, ok := impl.VerInsert(lines, 1, "fix", more); ok || len(changed) != 0 {
			t.Errorf("case %d: %q", i, rowOf(changed))
		}
	}
}

// P21: a change of a workflow that has a fault is none, though the change would mend it.
func TestChangesOfWhatIsNoWorkflow(t *testing.T) {
	right := flowOf(t, "n", "sleep 1;return n")
	dead := anyRows("workflow w n;return 1;sleep 2;return n")
	if impl.FlowCheck(anyRows("workflow w n;patch fix;sleep 9;else;return 1;end;sleep 2;return n")).Code != 0 {
		t.Error("it would not be mended")
	}
	for i, c := range []struct {
		lines    []impl.FlowLine
		from, to int
	}{
		{dead, 1, 2}, {dead, 1, 1}, {nil, 0, 0}, {nil, 1, 1}, {right[:1], 1, 1}, {right[:2], 1, 1}, {right[1:], 1, 1}, {right[1:], 0, 0}, {append(slices.Clone(right), right...), 1, 1},
		{anyRows("workflow w n;sleep x;return n"), 1, 1}, {anyRows("workflow w n;end;return n"), 1, 2}, {anyRows("workflow w n;if n less 1;return n"), 1, 1}, {anyRows("workflow w n n;return n"), 1, 1}, {make([]impl.FlowLine, 3), 1, 1}, {make([]impl.FlowLine, 61), 1, 1},
		{slices.Concat(right[:1], slices.Repeat(right[1:2], 59), right[2:]), 1, 60},
	} {
		if changed, ok := impl.VerSwap(c.lines, c.from, c.to, "fix", right[1:2]); ok || len(changed) != 0 {
			t.Errorf("case %d: %q", i, rowOf(changed))
		}
		if changed, ok := impl.VerInsert(c.lines, c.from, "fix", nil); ok || len(changed) != 0 {
			t.Errorf("case %d: %q", i, rowOf(changed))
		}
	}
}

// P21: a change that names what is not known then, or known no more, or that parts of a both have both, is none.
func TestChangesThatDoNotFit(t *testing.T) {
	checkSwaps(t, []swapCase{
		{"do a pay n;sleep a;return a", 1, 2, "fix", "sleep 1", ""},
		{"", 1, 2, "fix", "do a mail", "patch fix;do a mail;else;do a pay n;end;sleep a;return a"},
		{"", 1, 2, "fix", "return 1", "patch fix;return 1;else;do a pay n;end;sleep a;return a"},
		{"", 1, 1, "fix", "sleep a", ""}, {"", 2, 2, "fix", "sleep a", "do a pay n;patch fix;sleep a;end;sleep a;return a"},
		{"both;do a x;get b go;and;do c y;end;return a", 2, 2, "fix", "let c is 1", ""}, {"", 2, 2, "fix", "sleep c", ""}, {"", 5, 5, "fix", "let a is 1", ""}, {"", 5, 5, "fix", "get d go", ""}, {"", 5, 5, "fix", "return 1", ""}, {"", 2, 2, "fix", "fail n", ""}, {"", 2, 3, "fix", "next n", ""},
		{"", 2, 2, "fix", "let d is 1", "both;patch fix;let d is 1;end;do a x;get b go;and;do c y;end;return a"}, {"", 2, 2, "fix", "get d go", "both;patch fix;get d go;end;do a x;get b go;and;do c y;end;return a"},
		{"", 2, 3, "fix", "sleep n", ""}, {"", 3, 4, "fix", "sleep n", "both;do a x;patch fix;sleep n;else;get b go;end;and;do c y;end;return a"},
	})
}

// P21: blocks FlowMaxDeep deep, and one too deep; FlowMaxLines lines, and one too many.
func TestChangesAtLimits(t *testing.T) {
	if1, if3, if4, end3, end4 := "if n less 1;", strings.Repeat("if n less 1;", 3), strings.Repeat("if n less 1;", 4), strings.Repeat("end;", 3), strings.Repeat("end;", 4)
	four := if4 + "sleep 1;" + end4 + "return n"
	five := "while n less 1;" + if4 + "sleep 1;" + end4 + "end;return n"
	checkSwaps(t, []swapCase{
		{four, 5, 5, "fix", "sleep 2", if4 + "patch fix;sleep 2;end;sleep 1;" + end4 + "return n"},
		{"", 5, 6, "fix", "sleep 2", if4 + "patch fix;sleep 2;else;sleep 1;end;" + end4 + "return n"},
		{"", 5, 5, "fix", "both;and;end", ""}, {"", 5, 6, "fix", "patch q;end", ""}, {"", 5, 5, "fix", "sleep 2;if n less 1;end", ""},
		{"", 4, 4, "fix", "if n less 1;end", if3 + "patch fix;if n less 1;end;end;" + if1 + "sleep 1;" + end4 + "return n"},
		{"", 4, 7, "fix", "", if3 + "patch fix;else;" + if1 + "sleep 1;end;end;" + end3 + "return n"},
		{"", 1, 10, "fix", "", "patch fix;else;" + if4 + "sleep 1;" + end4 + "end;return n"},
		{"", 1, 10, "fix", if4 + end4, "patch fix;" + if4 + end4 + "else;" + if4 + "sleep 1;" + end4 + "end;return n"},
		{"", 1, 10, "fix", if4 + if1 + "end;" + end4, ""}, {"", 1, 1, "fix", if4 + if1 + "end;" + end4, ""}, {"", 10, 10, "fix", if4 + end4, if4 + "sleep 1;" + end4 + "patch fix;" + if4 + end4 + "end;return n"},
		{five, 6, 6, "fix", "sleep 2", ""}, {"", 6, 7, "fix", "sleep 2", ""}, {"", 1, 12, "fix", "sleep 2", ""}, {"", 5, 8, "fix", "sleep 2", ""}, {"", 6, 6, "fix", "", ""},
		{"", 5, 5, "fix", "sleep 2", "while n less 1;" + if3 + "patch fix;sleep 2;end;" + if1 + "sleep 1;" + end4 + "end;return n"},
		{"", 12, 12, "fix", "sleep 2", "while n less 1;" + if4 + "sleep 1;" + end4 + "end;patch fix;sleep 2;end;return n"},
	})
	for _, c := range []struct {
		many, from, to, more int
		want                 bool
	}{
		{58, 1, 1, 0, true}, {57, 57 - 1, 57 - 1, 1, true}, {57, 1, 2, 0, true}, {56, 1, 55, 1, true}, {2, 1, 1, 56, true}, {2, 1, 2, 55, false}, {3, 1, 2, 54, true},
		{59, 1, 1, 0, false}, {60, 1, 1, 0, false}, {58, 1, 1, 1, false}, {58, 1, 2, 0, false}, {57, 1, 2, 1, false}, {56, 1, 55, 2, false}, {2, 1, 1, 57, false}, {3, 1, 2, 55, false}, {2, 1, 1, 5000, false},
	} {
		lines := flowOf(t, "", strings.Repeat("sleep 1;", c.many-2)+"return 1")
		more := slices.Repeat(anyRows("sleep 2"), c.more)
		changed, ok := impl.VerSwap(lines, c.from, c.to, "fix", more)
		want := 0
		if c.want {
			want = impl.FlowMaxLines
		}
		if ok != c.want || len(changed) != want {
			t.Errorf("%+v: %v, %d lines", c, ok, len(changed))
		}
	}
}
