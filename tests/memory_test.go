package tests

import (
	"testing"

	"loop.example/dunserv/impl"
)

// roomy is a copy of lines in which every list has spare room, filled with what must stay there.
func roomy(lines []impl.FlowLine) []impl.FlowLine {
	list := make([]impl.FlowLine, 0, len(lines)+3)
	for _, line := range lines {
		args := append(make([]string, 0, len(line.Args)+4), line.Args...)
		for i := len(args); i < cap(args); i++ {
			args[:cap(args)][i] = "keep"
		}
		line.Args = args
		list = append(list, line)
	}
	for i := len(list); i < cap(list); i++ {
		list[:cap(list)][i] = impl.FlowLine{Kind: 77, Name: "keep"}
	}
	return list
}

func isRoomyOf(list, lines []impl.FlowLine) bool {
	if !sameLines(list, lines) {
		return false
	}
	for _, line := range list {
		for _, word := range line.Args[len(line.Args):cap(line.Args)] {
			if word != "keep" {
				return false
			}
		}
	}
	for _, line := range list[len(list):cap(list)] {
		if line.Kind != 77 || line.Name != "keep" {
			return false
		}
	}
	return true
}

func TestNothingIsWrittenIntoLines(t *testing.T) {
	for seed := range int64(3000) {
		m := newMaker(seed)
		lines := m.workflow(20)
		if m.Intn(2) == 0 {
			lines = m.spoil(lines)
		}
		list := roomy(lines)
		impl.FlowCheck(list)
		impl.FlowPrint(list)
		impl.FlowMake(list)
		impl.FlowShow(list)
		if !isRoomyOf(list, lines) {
			t.Fatalf("%+v is changed", lines)
		}
	}
}

func TestEveryAnswerIsNewMemory(t *testing.T) {
	text := "workflow w a b c\ndo d pay a b c undo back\nlet e add a b\nget f go for a\nif a less b\nend\nboth\nsleep a\nand\nsleep b\nend\nnext a b c"
	want, found := impl.FlowParse(text)
	if found != fault(0, 0) {
		t.Fatal(found)
	}
	kept := cloneLines(want)
	// Each list is filled, its spare room, too; no other one may be changed by that.
	for i := range want {
		args := want[i].Args[:cap(want[i].Args)]
		for j := range args {
			args[j] = "filled"
		}
		for j := i + 1; j < len(want); j++ {
			if !sameLine(want[j], kept[j]) {
				t.Errorf("lines %d and %d share memory", i+1, j+1)
			}
		}
	}
	clear(want[:cap(want)])
	again, found := impl.FlowParse(text)
	if found != fault(0, 0) || !sameLines(again, kept) {
		t.Errorf("another answer is changed: %+v", again)
	}
}

func TestStepsAreNewMemory(t *testing.T) {
	lines := linesOf(t, "workflow w a b c\ndo d pay a b c undo back\nlet e add a b\nget f go for a\nif a less b\nelse\nend\nwhile a less c\nend\nboth\nsleep a\nand\nsleep b\nend\npatch p\nreturn a\nend\nnext a b c")
	kept := cloneLines(lines)
	want := modelSteps(kept)
	steps, ok := impl.FlowMake(lines)
	if !ok || !sameSteps(steps, want) {
		t.Fatalf("%v %+v", ok, steps)
	}
	// Each list is filled, its spare room, too; no other one, and no line, may be changed by that.
	for i := range steps {
		args := steps[i].Args[:cap(steps[i].Args)]
		for j := range args {
			args[j] = "filled"
		}
		if !sameSteps(steps[i+1:], want[i+1:]) || !sameLines(lines, kept) {
			t.Errorf("step %d shares memory", i)
		}
	}
	clear(steps[:cap(steps)])
	again, ok := impl.FlowMake(lines)
	if !ok || !sameSteps(again, want) {
		t.Errorf("another answer is changed: %+v", again)
	}
	// Nor do steps change when lines do.
	for i := range lines {
		clear(lines[i].Args)
	}
	if !sameSteps(again, want) {
		t.Errorf("steps change with lines: %+v", again)
	}
}
