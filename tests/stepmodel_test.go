package tests

import (
	"slices"
	"strconv"
	"strings"
	"testing"

	"loop.example/dunserv/impl"
)

// A model of FlowMake, worked out another way: first how many steps stand ahead of each line, then what each line's step is.

// stepsAhead are, for each line and behind the last one, how many steps stand ahead of it.
func stepsAhead(lines []impl.FlowLine) []int {
	ahead := []int{0}
	var open []int
	for _, line := range lines {
		many := 1
		switch line.Kind {
		case impl.FlowHead:
			many = 0
		case impl.FlowIf, impl.FlowPatch, impl.FlowWhile, impl.FlowBoth:
			open = append(open, line.Kind)
		case impl.FlowEnd:
			if kind := open[len(open)-1]; kind == impl.FlowIf || kind == impl.FlowPatch {
				many = 0
			}
			open = open[:len(open)-1]
		}
		ahead = append(ahead, ahead[len(ahead)-1]+many)
	}
	return ahead
}

func modelSteps(lines []impl.FlowLine) []impl.FlowStep {
	ahead := stepsAhead(lines)
	steps := make([]impl.FlowStep, ahead[len(lines)])
	w := &ways{lines: lines}
	for i, line := range lines {
		code := map[int]int{impl.FlowLet: impl.StepLet, impl.FlowDo: impl.StepDo, impl.FlowSleep: impl.StepSleep, impl.FlowGet: impl.StepGet,
			impl.FlowIf: impl.StepTest, impl.FlowWhile: impl.StepTest, impl.FlowPatch: impl.StepPatch, impl.FlowBoth: impl.StepFork,
			impl.FlowReturn: impl.StepReturn, impl.FlowFail: impl.StepFail, impl.FlowNext: impl.StepNext}[line.Kind]
		if code == 0 {
			continue
		}
		step := &steps[ahead[i]]
		*step = impl.FlowStep{Code: code, To: line.To, Name: line.Name, Args: line.Args, Undo: line.Undo}
		if code != impl.StepTest && code != impl.StepPatch && code != impl.StepFork {
			continue
		}
		turn, end := w.parts(i)
		behind := ahead[end+1]
		step.A, step.B = ahead[i+1], behind
		if turn > 0 {
			step.B = ahead[turn+1]
		}
		switch {
		case line.Kind == impl.FlowWhile:
			steps[ahead[end]] = impl.FlowStep{Code: impl.StepJump, A: ahead[i]}
		case line.Kind == impl.FlowBoth:
			steps[ahead[turn]] = impl.FlowStep{Code: impl.StepJoin, A: behind}
			steps[ahead[end]] = impl.FlowStep{Code: impl.StepJoin, A: behind}
		case turn > 0:
			steps[ahead[turn]] = impl.FlowStep{Code: impl.StepJump, A: behind}
		}
	}
	return steps
}

func TestStepsByTheirPlaces(t *testing.T) {
	t.Parallel()
	many := 0
	for seed := range int64(20000) {
		m := newMaker(seed)
		lines := m.right(3 + m.Intn(40))
		steps, ok := impl.FlowMake(lines)
		if want := modelSteps(lines); !ok || !sameSteps(steps, want) {
			t.Fatalf("%+v: %v %+v, not %+v", lines, ok, steps, want)
		}
		if len(steps) > 20 {
			many++
		}
	}
	if many < 500 {
		t.Errorf("just %d with many steps", many)
	}
}

// journey goes one way through lines or steps: tests and patches come out as picked, the first part of a FlowBoth is ahead.
type journey struct {
	picks []bool
	told  []string
}

// pick is how the next test comes out; behind all picks none is so, so that the way ends.
func (j *journey) pick() bool {
	if len(j.picks) == 0 {
		return false
	}
	so := j.picks[0]
	j.picks = j.picks[1:]
	return so
}

func (j *journey) tell(words ...string) {
	j.told = append(j.told, strings.Join(words, " "))
}

// throughLines goes from a line up to one ahead of another; false, if it ends there.
func (j *journey) throughLines(w *ways, at, to int) bool {
	for ; at < to; at++ {
		line := w.lines[at]
		switch line.Kind {
		case impl.FlowReturn, impl.FlowFail, impl.FlowNext:
			j.tell("leave", strconv.Itoa(line.Kind), strings.Join(line.Args, " "))
			return false
		case impl.FlowIf, impl.FlowPatch, impl.FlowWhile, impl.FlowBoth:
			turn, end := w.parts(at)
			if !j.throughBlock(w, at, turn, end) {
				return false
			}
			at = end
		default:
			j.tell(line.To, line.Name, strings.Join(line.Args, " "), line.Undo)
		}
	}
	return true
}

func (j *journey) throughBlock(w *ways, open, turn, end int) bool {
	middle := end
	if turn > 0 {
		middle = turn
	}
	line := w.lines[open]
	if line.Kind == impl.FlowBoth {
		return j.throughLines(w, open+1, middle) && j.throughLines(w, middle+1, end)
	}
	j.tell(line.Name, strings.Join(line.Args, " "))
	if j.pick() {
		return j.throughLines(w, open+1, middle) && (line.Kind != impl.FlowWhile || j.throughBlock(w, open, turn, end))
	}
	return middle == end || j.throughLines(w, middle+1, end)
}

// throughSteps goes from a step up to a join, at whose place it answers, or to the end.
func (j *journey) throughSteps(steps []impl.FlowStep, at int) int {
	for {
		step := steps[at]
		at++
		switch step.Code {
		case impl.StepReturn, impl.StepFail, impl.StepNext:
			kind := map[int]int{impl.StepReturn: impl.FlowReturn, impl.StepFail: impl.FlowFail, impl.StepNext: impl.FlowNext}[step.Code]
			j.tell("leave", strconv.Itoa(kind), strings.Join(step.Args, " "))
			return at
		case impl.StepTest, impl.StepPatch:
			j.tell(step.Name, strings.Join(step.Args, " "))
			at = step.B
			if j.pick() {
				at = step.A
			}
		case impl.StepJump:
			at = step.A
		case impl.StepFork:
			j.throughSteps(steps, step.A)
			at = j.throughSteps(steps, step.B)
		case impl.StepJoin:
			return step.A
		default:
			j.tell(step.To, step.Name, strings.Join(step.Args, " "), step.Undo)
		}
	}
}

func TestStepsGoAsTheLines(t *testing.T) {
	told := 0
	for seed := range int64(6000) {
		m := newMaker(seed)
		lines := m.right(3 + m.Intn(40))
		steps, _ := impl.FlowMake(lines)
		for range 8 {
			var picks []bool
			for range m.Intn(25) {
				picks = append(picks, m.Intn(2) == 0)
			}
			byLines, bySteps := journey{picks: picks}, journey{picks: picks}
			byLines.throughLines(&ways{lines: lines}, 1, len(lines))
			bySteps.throughSteps(steps, 0)
			if !slices.Equal(byLines.told, bySteps.told) {
				t.Fatalf("%+v: %q, not %q", lines, bySteps.told, byLines.told)
			}
			told += len(byLines.told)
		}
	}
	if told < 200000 {
		t.Errorf("just %d lines were gone through", told)
	}
}
