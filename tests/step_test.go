package tests

import (
	"reflect"
	"slices"
	"strings"
	"testing"

	"loop.example/dunserv/impl"
)

const trip = `workflow trip n
do car book n undo unbook
both
  do hotel book n undo unbook
  get ok go for 30
and
  patch quick
    do mail send n
  else
    sleep 5
    do mail send n
  end
end
if ok less 0
  fail 7
end
let i is 0
while i less n
  do x work i
  let i add i 1
end
return hotel
`

const tripSteps = `0 do car book n undo unbook
1 fork to 2 5
2 do hotel book n undo unbook
3 get ok go 30
4 join to 11
5 patch quick to 6 8
6 do mail send n
7 jump to 10
8 sleep 5
9 do mail send n
10 join to 11
11 test less ok 0 to 12 13
12 fail 7
13 let i is 0
14 test less i n to 15 18
15 do x work i
16 let i add i 1
17 jump to 14
18 return hotel
`

func linesOf(t *testing.T, text string) []impl.FlowLine {
	t.Helper()
	lines, found := impl.FlowParse(text)
	if found != fault(0, 0) {
		t.Fatalf("%q: %+v", text, found)
	}
	return lines
}

func TestStepsOfTheExample(t *testing.T) {
	if got := impl.FlowShow(linesOf(t, trip)); got != tripSteps {
		t.Errorf("%s", got)
	}
}

func TestStepOfEachKind(t *testing.T) {
	for text, want := range map[string]impl.FlowStep{
		"let x is 5":               {Code: impl.StepLet, To: "x", Name: "is", Args: []string{"5"}},
		"let x sub a -9999":        {Code: impl.StepLet, To: "x", Name: "sub", Args: []string{"a", "-9999"}},
		"do x pay":                 {Code: impl.StepDo, To: "x", Name: "pay"},
		"do x pay a 1 b undo back": {Code: impl.StepDo, To: "x", Name: "pay", Args: []string{"a", "1", "b"}, Undo: "back"},
		"do x pay undo undo":       {Code: impl.StepDo, To: "x", Name: "pay", Undo: "undo"},
		"sleep 4":                  {Code: impl.StepSleep, Args: []string{"4"}},
		"get x go":                 {Code: impl.StepGet, To: "x", Name: "go"},
		"get x go for n":           {Code: impl.StepGet, To: "x", Name: "go", Args: []string{"n"}},
		"if a more 1":              {Code: impl.StepTest, Name: "more", Args: []string{"a", "1"}, A: 1, B: 1},
		"while 1 other b":          {Code: impl.StepTest, Name: "other", Args: []string{"1", "b"}, A: 1, B: 2},
		"patch fast":               {Code: impl.StepPatch, Name: "fast", A: 1, B: 1},
		"return -5":                {Code: impl.StepReturn, Args: []string{"-5"}},
		"fail b":                   {Code: impl.StepFail, Args: []string{"b"}},
		"next":                     {Code: impl.StepNext},
		"next a 2 b":               {Code: impl.StepNext, Args: []string{"a", "2", "b"}},
	} {
		steps, ok := impl.FlowMake(linesOf(t, within(text)))
		if !ok || !sameStep(steps[0], want) {
			t.Errorf("%q: %v %+v", text, ok, steps)
		}
	}
}

// What FlowShow writes of a line that is the second one, and of what follows.
func TestShownSteps(t *testing.T) {
	for text, want := range map[string]string{
		"let x mul a b":            "0 let x mul a b\n1 return a\n",
		"do x pay":                 "0 do x pay\n1 return a\n",
		"do x pay a 1 b undo back": "0 do x pay a 1 b undo back\n1 return a\n",
		"do x pay undo 1":          "",
		"do undo undo undo undo":   "0 do undo undo undo undo\n1 return a\n",
		"sleep -1":                 "0 sleep -1\n1 return a\n",
		"get x go":                 "0 get x go\n1 return a\n",
		"get x go for n":           "0 get x go n\n1 return a\n",
		"if a same b":              "0 test same a b to 1 1\n1 return a\n",
		"while a same b":           "0 test same a b to 1 2\n1 jump to 0\n2 return a\n",
		"patch p":                  "0 patch p to 1 1\n1 return a\n",
		"fail n":                   "0 fail n\n",
		"next":                     "0 next\n",
		"next 1 n 1":               "0 next 1 n 1\n",
	} {
		lines, _ := impl.FlowParse(within(text))
		if got := impl.FlowShow(lines); got != want {
			t.Errorf("%q: %q", text, got)
		}
	}
}

// shownCase is a workflow, written in one line with `;` between, and its steps likewise, without their places.
type shownCase struct{ text, want string }

func runShown(t *testing.T, cases []shownCase) {
	t.Helper()
	for _, c := range cases {
		lines, found := impl.FlowParse("workflow w n\n" + strings.ReplaceAll(c.text, "; ", "\n"))
		if found != fault(0, 0) {
			t.Errorf("%q: %+v", c.text, found)
		}
		var got []string
		for _, row := range strings.Split(strings.TrimSuffix(impl.FlowShow(lines), "\n"), "\n") {
			_, step, _ := strings.Cut(row, " ")
			got = append(got, step)
		}
		if all := strings.Join(got, "; "); all != c.want {
			t.Errorf("%q: %q", c.text, all)
		}
		stepsIfRight(t, lines)
	}
}

func TestEmptyParts(t *testing.T) {
	runShown(t, []shownCase{
		{"if n less 1; else; end; return 1", "test less n 1 to 1 2; jump to 2; return 1"},
		{"if n less 1; sleep 1; else; end; return 1", "test less n 1 to 1 3; sleep 1; jump to 3; return 1"},
		{"if n less 1; else; sleep 1; end; return 1", "test less n 1 to 1 2; jump to 3; sleep 1; return 1"},
		{"patch p; else; end; return 1", "patch p to 1 2; jump to 2; return 1"},
		{"both; and; end; return 1", "fork to 1 2; join to 3; join to 3; return 1"},
		{"both; sleep 1; and; end; return 1", "fork to 1 3; sleep 1; join to 4; join to 4; return 1"},
		{"both; and; sleep 1; end; return 1", "fork to 1 2; join to 4; sleep 1; join to 4; return 1"},
		{"while n less 1; while n less 2; end; end; return 1", "test less n 1 to 1 4; test less n 2 to 2 3; jump to 1; jump to 0; return 1"},
		{"both; both; and; end; and; both; and; end; end; return 1", "fork to 1 5; fork to 2 3; join to 4; join to 4; join to 9; fork to 6 7; join to 8; join to 8; join to 9; return 1"},
	})
}

func TestPartsThatEndTheWorkflow(t *testing.T) {
	for _, leave := range []string{"return 1", "fail n", "next", "next n 2"} {
		cases := []shownCase{
			{"L", "L"},
			{"if n less 1; L; end; sleep 1; L", "test less n 1 to 1 2; L; sleep 1; L"},
			{"if n less 1; L; else; sleep 1; end; L", "test less n 1 to 1 3; L; jump to 4; sleep 1; L"},
			{"if n less 1; sleep 1; else; L; end; L", "test less n 1 to 1 3; sleep 1; jump to 4; L; L"},
			{"if n less 1; L; else; L; end", "test less n 1 to 1 3; L; jump to 4; L"},
			{"patch p; L; else; if n same 1; L; else; L; end; end", "patch p to 1 3; L; jump to 7; test same n 1 to 4 6; L; jump to 7; L"},
			{"while n less 1; L; end; L", "test less n 1 to 1 3; L; jump to 0; L"},
			{"while n less 1; if n same 0; L; end; end; L", "test less n 1 to 1 4; test same n 0 to 2 3; L; jump to 0; L"},
		}
		for i := range cases {
			cases[i] = shownCase{strings.ReplaceAll(cases[i].text, "L", leave), strings.ReplaceAll(cases[i].want, "L", leave)}
		}
		runShown(t, cases)
	}
}

func TestWhatFollowsTheLastLineOfABlock(t *testing.T) {
	runShown(t, []shownCase{
		{"while n less 1; if n less 2; sleep 1; end; end; return 1", "test less n 1 to 1 4; test less n 2 to 2 3; sleep 1; jump to 0; return 1"},
		{"while n less 1; patch p; sleep 1; else; sleep 2; end; end; return 1", "test less n 1 to 1 6; patch p to 2 4; sleep 1; jump to 5; sleep 2; jump to 0; return 1"},
		{"while n less 1; both; and; end; end; return 1", "test less n 1 to 1 5; fork to 2 3; join to 4; join to 4; jump to 0; return 1"},
		{"if n less 1; while n less 2; sleep 1; end; else; sleep 3; end; return 1", "test less n 1 to 1 5; test less n 2 to 2 4; sleep 1; jump to 1; jump to 6; sleep 3; return 1"},
		{"if n less 1; if n less 2; sleep 1; end; else; sleep 3; end; return 1", "test less n 1 to 1 4; test less n 2 to 2 3; sleep 1; jump to 5; sleep 3; return 1"},
		{"if n less 1; else; if n less 2; else; end; end; return 1", "test less n 1 to 1 2; jump to 4; test less n 2 to 3 4; jump to 4; return 1"},
		{"both; if n less 1; sleep 1; end; and; while n less 2; sleep 2; end; end; return 1", "fork to 1 4; test less n 1 to 2 3; sleep 1; join to 8; test less n 2 to 5 7; sleep 2; jump to 4; join to 8; return 1"},
		{"both; both; sleep 1; and; end; and; both; and; sleep 2; end; end; return 1", "fork to 1 6; fork to 2 4; sleep 1; join to 5; join to 5; join to 11; fork to 7 8; join to 10; sleep 2; join to 10; join to 11; return 1"},
	})
}

func TestDeepestBlocks(t *testing.T) {
	deep := func(ahead, behind string) string {
		return strings.Repeat(ahead, impl.FlowMaxDeep) + strings.Repeat(behind, impl.FlowMaxDeep) + "return 1"
	}
	runShown(t, []shownCase{
		{deep("while n less 1; ", "end; "), "test less n 1 to 1 10; test less n 1 to 2 9; test less n 1 to 3 8; test less n 1 to 4 7; test less n 1 to 5 6; jump to 4; jump to 3; jump to 2; jump to 1; jump to 0; return 1"},
		{deep("if n less 1; ", "end; "), "test less n 1 to 1 5; test less n 1 to 2 5; test less n 1 to 3 5; test less n 1 to 4 5; test less n 1 to 5 5; return 1"},
		{deep("patch p; ", "else; end; "), "patch p to 1 10; patch p to 2 9; patch p to 3 8; patch p to 4 7; patch p to 5 6; jump to 6; jump to 7; jump to 8; jump to 9; jump to 10; return 1"},
		{deep("both; ", "and; end; "), "fork to 1 14; fork to 2 12; fork to 3 10; fork to 4 8; fork to 5 6; join to 7; join to 7; join to 9; join to 9; join to 11; join to 11; join to 13; join to 13; join to 15; join to 15; return 1"},
		{deep("both; and; ", "end; "), "fork to 1 2; join to 15; fork to 3 4; join to 14; fork to 5 6; join to 13; fork to 7 8; join to 12; fork to 9 10; join to 11; join to 11; join to 12; join to 13; join to 14; join to 15; return 1"},
	})
	for open, end := range map[string]string{"i": "n", "p": "en", "w": "n", "b": "an"} {
		for many := range impl.FlowMaxDeep + 2 {
			lines := append(linesOfShape(strings.Repeat(open, many)+strings.Repeat(end, many)), impl.FlowLine{Kind: impl.FlowNext})
			stepsIfRight(t, lines)
			if _, ok := impl.FlowMake(lines); ok != (many <= impl.FlowMaxDeep) {
				t.Errorf("%d of %s: %v", many, open, ok)
			}
		}
	}
}

func TestStepsOfTheMostLines(t *testing.T) {
	for inner, want := range map[string]int{
		"sleep 1\n":                              59,
		"do a pay 1 undo back\nget a go for a\n": 59,
		"both\nand\nend\n":                       59,
		"both\nsleep 1\nand\nsleep 1\nend\n":     59,
		"while 1 less 2\nend\n":                  59,
		"if 1 less 2\nelse\nend\n":               40,
		"patch p\nend\n":                         30,
	} {
		text := "workflow w\n"
		for strings.Count(text+inner, "\n") < impl.FlowMaxLines {
			text += inner
		}
		text += strings.Repeat("sleep 1\n", impl.FlowMaxLines-1-strings.Count(text, "\n"))
		lines := linesOf(t, text+"return 1")
		steps, ok := impl.FlowMake(lines)
		if len(lines) != impl.FlowMaxLines || !ok || len(steps) != want {
			t.Errorf("%q: %d lines, %d steps, %v", inner, len(lines), len(steps), ok)
		}
		stepsIfRight(t, lines)
		more := append(append(lines[:1:1], impl.FlowLine{Kind: impl.FlowSleep, Args: []string{"1"}}), lines[1:]...)
		if _, ok := impl.FlowMake(more); ok || len(more) != impl.FlowMaxLines+1 {
			t.Errorf("%q: %d lines, %v", inner, len(more), ok)
		}
		stepsIfRight(t, more)
	}
}

func sameStep(a, b impl.FlowStep) bool {
	if len(a.Args) == 0 && len(b.Args) == 0 {
		a.Args, b.Args = nil, nil
	}
	return reflect.DeepEqual(a, b)
}

func sameSteps(a, b []impl.FlowStep) bool {
	return slices.EqualFunc(a, b, sameStep)
}
