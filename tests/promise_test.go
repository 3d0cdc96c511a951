package tests

import (
	"strings"
	"testing"

	"loop.example/dunserv/impl"
)

// P2: what is read is written so that it is read as the same; what is written once more is the same.
func thereAndBack(t *testing.T, text string) bool {
	t.Helper()
	lines, found := impl.FlowParse(text)
	if found.Code != 0 {
		return false
	}
	written := impl.FlowPrint(lines)
	again, found := impl.FlowParse(written)
	if written == "" || found != fault(0, 0) || !sameLines(lines, again) {
		t.Errorf("%q: written as %q, read as %+v %+v", text, written, found, again)
	}
	if more := impl.FlowPrint(again); more != written {
		t.Errorf("%q: written as %q, then as %q", text, written, more)
	}
	if strings.Join(strings.Fields(text), " ") != strings.Join(strings.Fields(written), " ") {
		t.Errorf("%q: has other words as %q", text, written)
	}
	return true
}

// P3: there is a text just for what nothing is wrong with, and it is read as it.
func textIfRight(t *testing.T, lines []impl.FlowLine) {
	t.Helper()
	found := impl.FlowCheck(lines)
	text := impl.FlowPrint(lines)
	if (found.Code == 0) != (text != "") {
		t.Errorf("%+v: %+v, but written as %q", lines, found, text)
	}
	stepsIfRight(t, lines)
	if text == "" {
		return
	}
	if again, found := impl.FlowParse(text); found != fault(0, 0) || !sameLines(lines, again) {
		t.Errorf("%+v: written as %q, read as %+v %+v", lines, text, found, again)
	}
}

// P4: what is wrong is told at a line that is there, or 0; a workflow that is right has two lines at least.
func toldAtALine(t *testing.T, found impl.FlowFault, count int, what any) {
	t.Helper()
	switch {
	case found.Code == 0 && (found.Line != 0 || count < 2):
		t.Errorf("%q: right, but %+v, %d lines", what, found, count)
	case found.Code < 0 || found.Code > impl.FlowTooLong || found.Line < 0 || found.Line > count:
		t.Errorf("%q: %+v, but %d lines", what, found, count)
	}
}

func TestPromisesOfTexts(t *testing.T) {
	right := 0
	for seed := range int64(20000) {
		text := newMaker(seed).text()
		if thereAndBack(t, text) {
			right++
		}
		lines, found := impl.FlowParse(text)
		toldAtALine(t, found, 1+strings.Count(text, "\n"), text)
		if found.Code == 0 && len(lines) < 2 || found.Code != 0 && len(lines) != 0 {
			t.Errorf("%q: %+v, and %d lines", text, found, len(lines))
		}
	}
	if right < 1000 {
		t.Errorf("just %d texts are right", right)
	}
}

func TestPromisesOfWorkflows(t *testing.T) {
	t.Parallel()
	codes := map[int]int{}
	for seed := range int64(20000) {
		m := newMaker(seed)
		lines := m.workflow(3 + m.Intn(25))
		found := impl.FlowCheck(lines)
		codes[found.Code]++
		textIfRight(t, lines)
		toldAtALine(t, found, len(lines), lines)
		if text := impl.FlowPrint(lines); text != "" && !thereAndBack(t, "\n"+strings.ReplaceAll(text, " ", "  ")) {
			t.Errorf("%q: is not read with more spaces", text)
		}
		spoiled := m.spoil(lines)
		textIfRight(t, spoiled)
		found = impl.FlowCheck(spoiled)
		codes[found.Code]++
		toldAtALine(t, found, len(spoiled), spoiled)
	}
	cameUp(t, codes, 0, impl.FlowBadLine, impl.FlowUneven, impl.FlowUnknown, impl.FlowTwice, impl.FlowNoReturn, impl.FlowDead)
}

// cameUp says that what was made was of each kind: each code came up often.
func cameUp(t *testing.T, codes map[int]int, wanted ...int) {
	t.Helper()
	for _, code := range wanted {
		if codes[code] < 50 {
			t.Errorf("code %d came up just %d times", code, codes[code])
		}
	}
}

func TestPromisesAtLimits(t *testing.T) {
	for n := range 5 {
		lines := []impl.FlowLine{{Kind: impl.FlowHead, Name: "w"}}
		for len(lines) < impl.FlowMaxLines-3+n {
			lines = append(lines, impl.FlowLine{Kind: impl.FlowSleep, Args: []string{"1"}})
		}
		lines = append(lines, impl.FlowLine{Kind: impl.FlowReturn, Args: []string{"1"}})
		textIfRight(t, lines)
		toldAtALine(t, impl.FlowCheck(lines), len(lines), lines)
		if right := len(lines) <= impl.FlowMaxLines; right != (impl.FlowPrint(lines) != "") {
			t.Errorf("%d lines: %+v", len(lines), impl.FlowCheck(lines))
		}
	}
	for _, lines := range [][]impl.FlowLine{nil, {}, {{}}, make([]impl.FlowLine, 100)} {
		textIfRight(t, lines)
		toldAtALine(t, impl.FlowCheck(lines), len(lines), lines)
	}
}

func FuzzText(f *testing.F) {
	for seed := range int64(50) {
		m := newMaker(seed)
		f.Add(m.text())
		f.Add(impl.FlowPrint(m.workflow(20)))
	}
	f.Fuzz(func(t *testing.T, text string) {
		thereAndBack(t, text)
		lines, found := impl.FlowParse(text)
		toldAtALine(t, found, 1+strings.Count(text, "\n"), text)
		textIfRight(t, lines)
	})
}

// FuzzLine lays any line, built by hand, into a workflow.
func FuzzLine(f *testing.F) {
	for seed := range int64(200) {
		m := newMaker(seed)
		f.Add(m.Intn(18)-1, m.word(), m.word(), m.Intn(5), m.word(), m.word(), m.word())
	}
	f.Fuzz(func(t *testing.T, kind int, to, name string, count int, one, two, undo string) {
		line := impl.FlowLine{Kind: kind, To: to, Name: name, Undo: undo}
		for i := range count % 5 {
			line.Args = append(line.Args, []string{one, two}[i%2])
		}
		lines := []impl.FlowLine{{Kind: impl.FlowHead, Name: "w", Args: []string{"a", "b", "undo"}}, line, {Kind: impl.FlowReturn, Args: []string{"1"}}}
		textIfRight(t, lines)
		toldAtALine(t, impl.FlowCheck(lines), len(lines), lines)
	})
}
