package tests

import (
	"strings"
	"testing"

	"loop.example/dunserv/impl"
)

// Lines built by hand, that no text is read as: each stands as the second line of a workflow.
func TestLinesThatNoTextIsReadAs(t *testing.T) {
	long := strings.Repeat("a", impl.FlowMaxName+1)
	for i, line := range []impl.FlowLine{
		{},
		{Kind: -1},
		{Kind: 16},
		{Kind: 99, To: "a", Name: "b"},
		{Kind: impl.FlowLet, To: "a", Name: "is"},
		{Kind: impl.FlowLet, To: "a", Name: "is", Args: []string{"1", "2"}},
		{Kind: impl.FlowLet, To: "a", Name: "is", Args: []string{"1 "}},
		{Kind: impl.FlowLet, To: "a", Name: "is", Args: []string{"1"}, Undo: "b"},
		{Kind: impl.FlowLet, To: "a", Name: "add", Args: []string{"1"}},
		{Kind: impl.FlowLet, To: "a", Name: "add 1", Args: []string{"1"}},
		{Kind: impl.FlowLet, Name: "a", Args: []string{"is", "1"}},
		{Kind: impl.FlowLet, To: "a is", Args: []string{"1"}},
		{Kind: impl.FlowDo, To: "a"},
		{Kind: impl.FlowDo, To: "a", Args: []string{"pay"}},
		{Kind: impl.FlowDo, Name: "a", Args: []string{"pay"}},
		{Kind: impl.FlowDo, To: "a pay", Name: "n"},
		{Kind: impl.FlowDo, To: "a", Name: "pay", Args: []string{"undo", "back"}},
		{Kind: impl.FlowDo, To: "a", Name: "pay", Args: []string{"1", "undo", "back"}},
		{Kind: impl.FlowDo, To: "a", Name: "pay", Args: []string{"undo", "5"}},
		{Kind: impl.FlowDo, To: "a", Name: "pay", Args: []string{"undo", "undo"}},
		{Kind: impl.FlowDo, To: "a", Name: "pay", Args: []string{"1", "2", "3", "undo", "back"}},
		{Kind: impl.FlowDo, To: "a", Name: "pay", Args: []string{"1", "2", "3", "4"}, Undo: "back"},
		{Kind: impl.FlowDo, To: "a", Name: "pay", Args: []string{""}},
		{Kind: impl.FlowDo, To: "a", Name: "pay", Args: []string{"", "1"}},
		{Kind: impl.FlowDo, To: "a", Name: "pay", Undo: "5"},
		{Kind: impl.FlowDo, To: "a", Name: "pay", Undo: " back"},
		{Kind: impl.FlowDo, To: "a", Name: "pay\n", Undo: "back"},
		{Kind: impl.FlowDo, To: long, Name: "pay"},
		{Kind: impl.FlowDo, To: "a", Name: long},
		{Kind: impl.FlowDo, To: "a", Name: "pay", Undo: long},
		{Kind: impl.FlowSleep},
		{Kind: impl.FlowSleep, To: "1"},
		{Kind: impl.FlowSleep, Name: "n"},
		{Kind: impl.FlowSleep, Args: []string{"1 2"}},
		{Kind: impl.FlowSleep, Args: []string{"1", ""}},
		{Kind: impl.FlowSleep, Args: []string{"1\nsleep 1"}},
		{Kind: impl.FlowSleep, To: "a", Args: []string{"1"}},
		{Kind: impl.FlowSleep, Args: []string{"01"}},
		{Kind: impl.FlowGet, To: "a", Name: "go", Args: []string{"for", "1"}},
		{Kind: impl.FlowGet, To: "a", Name: "go", Args: []string{""}},
		{Kind: impl.FlowGet, To: "a", Name: "go for 1"},
		{Kind: impl.FlowGet, To: "a"},
		{Kind: impl.FlowGet, To: "a", Name: "go", Undo: "back"},
		{Kind: impl.FlowIf, Name: "less"},
		{Kind: impl.FlowIf, Name: "less", Args: []string{"1"}},
		{Kind: impl.FlowIf, Name: "less", Args: []string{"1", "2", "3"}},
		{Kind: impl.FlowIf, Args: []string{"1", "2"}},
		{Kind: impl.FlowIf, Name: "less 2", Args: []string{"1", ""}},
		{Kind: impl.FlowIf, To: "a", Name: "less", Args: []string{"1", "2"}},
		{Kind: impl.FlowIf, Name: "less", Args: []string{"1", "2"}, Undo: "a"},
		{Kind: impl.FlowWhile, Name: "add", Args: []string{"1", "2"}},
		{Kind: impl.FlowWhile, Name: "more", Args: []string{"1", "2", "3"}},
		{Kind: impl.FlowElse, To: "a"},
		{Kind: impl.FlowElse, Args: []string{""}},
		{Kind: impl.FlowBoth, Name: " "},
		{Kind: impl.FlowAnd, Undo: "a"},
		{Kind: impl.FlowEnd, Args: []string{"1"}},
		{Kind: impl.FlowReturn},
		{Kind: impl.FlowReturn, Args: []string{"1", "2"}},
		{Kind: impl.FlowReturn, Args: []string{"10000"}},
		{Kind: impl.FlowFail, Name: "1"},
		{Kind: impl.FlowFail, Args: []string{"\xff"}},
		{Kind: impl.FlowPatch},
		{Kind: impl.FlowPatch, To: "p"},
		{Kind: impl.FlowPatch, Name: "p", Args: []string{"q"}},
		{Kind: impl.FlowPatch, Name: "1"},
		{Kind: impl.FlowNext, Args: []string{"1", "2", "3", "4"}},
		{Kind: impl.FlowNext, Args: []string{"1 2"}},
		{Kind: impl.FlowNext, Name: "n", Args: []string{"1"}},
		{Kind: impl.FlowHead, Name: "w", Args: []string{"a", "a"}},
		{Kind: impl.FlowHead, To: "w", Name: "a"},
		{Kind: impl.FlowHead, Name: "w a"},
	} {
		lines := []impl.FlowLine{{Kind: impl.FlowHead, Name: "w", Args: []string{"n"}}, line, {Kind: impl.FlowReturn, Args: []string{"1"}}}
		if got := impl.FlowCheck(lines); got != fault(2, impl.FlowBadLine) {
			t.Errorf("case %d, %+v: %+v", i, line, got)
		}
		if text := impl.FlowPrint(lines); text != "" {
			t.Errorf("case %d, %+v: written as %q", i, line, text)
		}
		stepsIfRight(t, lines)
	}
}

func TestLinesByHandThatAreRight(t *testing.T) {
	for text, line := range map[string]impl.FlowLine{
		"do a pay undo":                 {Kind: impl.FlowDo, To: "a", Name: "pay", Args: []string{"undo"}},
		"do a pay undo n":               {Kind: impl.FlowDo, To: "a", Name: "pay", Undo: "n"},
		"do a pay n undo":               {Kind: impl.FlowDo, To: "a", Name: "pay", Args: []string{"n", "undo"}},
		"do a pay undo n undo":          {Kind: impl.FlowDo, To: "a", Name: "pay", Args: []string{"undo", "n", "undo"}},
		"do a pay undo 1 2":             {Kind: impl.FlowDo, To: "a", Name: "pay", Args: []string{"undo", "1", "2"}},
		"do a pay undo undo undo":       {Kind: impl.FlowDo, To: "a", Name: "pay", Args: []string{"undo"}, Undo: "undo"},
		"do a pay undo undo undo undo":  {Kind: impl.FlowDo, To: "a", Name: "pay", Args: []string{"undo", "undo"}, Undo: "undo"},
		"do a pay n n undo undo back":   {Kind: impl.FlowDo, To: "a", Name: "pay", Args: []string{"n", "n", "undo"}, Undo: "back"},
		"do undo undo undo undo":        {Kind: impl.FlowDo, To: "undo", Name: "undo", Undo: "undo"},
		"do a undo undo":                {Kind: impl.FlowDo, To: "a", Name: "undo", Args: []string{"undo"}},
		"do a undo n":                   {Kind: impl.FlowDo, To: "a", Name: "undo", Args: []string{"n"}},
		"let undo add undo n":           {Kind: impl.FlowLet, To: "undo", Name: "add", Args: []string{"undo", "n"}},
		"get undo undo for undo":        {Kind: impl.FlowGet, To: "undo", Name: "undo", Args: []string{"undo"}},
		"do end return n -1 9999":       {Kind: impl.FlowDo, To: "end", Name: "return", Args: []string{"n", "-1", "9999"}},
		"let z1234567 sub -9999 -9999":  {Kind: impl.FlowLet, To: "z1234567", Name: "sub", Args: []string{"-9999", "-9999"}},
		"do a pay undo undo back undo":  {Kind: impl.FlowDo, To: "a", Name: "pay", Args: []string{"undo", "undo", "back", "undo"}},
		"do a pay 1 2 3 undo undo back": {Kind: impl.FlowDo, To: "a", Name: "pay", Args: []string{"1", "2", "3", "undo"}, Undo: "back"},
	} {
		lines := []impl.FlowLine{{Kind: impl.FlowHead, Name: "w", Args: []string{"n", "undo", "back"}}, line, {Kind: impl.FlowReturn, Args: []string{"1"}}}
		want := "workflow w n undo back\n" + text + "\nreturn 1\n"
		if len(line.Args) > impl.FlowMaxArgs {
			want = ""
		}
		if got := impl.FlowPrint(lines); got != want {
			t.Errorf("%q: %q", text, got)
		}
		read, found := impl.FlowParse(want)
		if want != "" && (found != fault(0, 0) || !sameLines(read, lines)) {
			t.Errorf("%q: %+v %+v", text, found, read)
		}
	}
}

func TestSeveralCodesOfOneLine(t *testing.T) {
	head := impl.FlowLine{Kind: impl.FlowHead, Name: "w"}
	open := impl.FlowLine{Kind: impl.FlowIf, Name: "less", Args: []string{"1", "2"}}
	end := impl.FlowLine{Kind: impl.FlowEnd}
	deep := []impl.FlowLine{head, open, open, open, open, open}
	for i, c := range []struct {
		lines []impl.FlowLine
		want  impl.FlowFault
	}{
		{nil, fault(0, impl.FlowUneven)},
		{[]impl.FlowLine{}, fault(0, impl.FlowUneven)},
		{[]impl.FlowLine{{Kind: 99}}, fault(1, impl.FlowBadLine)},
		{[]impl.FlowLine{end}, fault(1, impl.FlowUneven)},
		{[]impl.FlowLine{{Kind: impl.FlowEnd, To: "a"}}, fault(1, impl.FlowBadLine)},
		{[]impl.FlowLine{head, {Kind: impl.FlowHead}}, fault(2, impl.FlowBadLine)},
		{[]impl.FlowLine{head, head}, fault(2, impl.FlowUneven)},
		{[]impl.FlowLine{head, {Kind: impl.FlowElse, To: "a"}}, fault(2, impl.FlowBadLine)},
		{[]impl.FlowLine{head, open, {Kind: impl.FlowSleep}}, fault(3, impl.FlowBadLine)},
		{append(deep[:6:6], impl.FlowLine{Kind: impl.FlowIf, Name: "less"}), fault(7, impl.FlowBadLine)},
		{append(deep[:6:6], impl.FlowLine{Kind: impl.FlowWhile, Name: "less"}, end), fault(7, impl.FlowBadLine)},
		{append(deep[:6:6], open), fault(7, impl.FlowUneven)},
		{append(deep[:6:6], open, end), fault(7, impl.FlowTooDeep)},
		{append(deep[:6:6], end, end, end, end, end, end), fault(12, impl.FlowUneven)},
		// What is wrong at an earlier line is ahead, whatever its code.
		{[]impl.FlowLine{head, end, {Kind: 99}}, fault(2, impl.FlowUneven)},
		{[]impl.FlowLine{{Kind: impl.FlowSleep}, end}, fault(1, impl.FlowBadLine)},
	} {
		if got := impl.FlowCheck(c.lines); got != c.want {
			t.Errorf("case %d: %+v", i, got)
		}
		if text := impl.FlowPrint(c.lines); text != "" {
			t.Errorf("case %d: written as %q", i, text)
		}
		stepsIfRight(t, c.lines)
	}
}

func TestMostLinesByHand(t *testing.T) {
	lines := []impl.FlowLine{{Kind: impl.FlowHead, Name: "w"}}
	for len(lines) < impl.FlowMaxLines-1 {
		lines = append(lines, impl.FlowLine{Kind: impl.FlowSleep, Args: []string{"1"}})
	}
	lines = append(lines, impl.FlowLine{Kind: impl.FlowReturn, Args: []string{"1"}})
	if got := impl.FlowCheck(lines); got != fault(0, 0) {
		t.Errorf("as many as may be: %+v", got)
	}
	if got := impl.FlowCheck(append(lines, lines[1])); got != fault(0, impl.FlowTooLong) {
		t.Errorf("one more: %+v", got)
	}
	if got := impl.FlowCheck(make([]impl.FlowLine, impl.FlowMaxLines+1)); got != fault(0, impl.FlowTooLong) {
		t.Errorf("one more, all bad: %+v", got)
	}
	if got := impl.FlowPrint(append(lines, lines[1])); got != "" {
		t.Errorf("one more, written as %q", got)
	}
}

// The longest lines that there may be fit into a text that FlowParse reads.
func TestLongestText(t *testing.T) {
	lines := []impl.FlowLine{{Kind: impl.FlowHead, Name: "abcdefgh", Args: []string{"a2345678", "b2345678", "c2345678"}}}
	for len(lines) < impl.FlowMaxLines-1 {
		lines = append(lines, impl.FlowLine{Kind: impl.FlowDo, To: "a2345678", Name: "abcdefgh", Args: []string{"a2345678", "b2345678", "c2345678"}, Undo: "ijklmnop"})
	}
	lines = append(lines, impl.FlowLine{Kind: impl.FlowNext, Args: []string{"a2345678", "b2345678", "c2345678"}})
	text := impl.FlowPrint(lines)
	read, found := impl.FlowParse(text)
	if text == "" || found != fault(0, 0) || !sameLines(read, lines) {
		t.Errorf("%d bytes, %+v", len(text), found)
	}
}
