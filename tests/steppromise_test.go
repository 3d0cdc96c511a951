package tests

import (
	"slices"
	"strconv"
	"strings"
	"testing"

	"loop.example/dunserv/impl"
)

// P7: there are steps just if FlowCheck finds nothing wrong. P6: FlowShow has a line for each of them.
func stepsIfRight(t *testing.T, lines []impl.FlowLine) {
	t.Helper()
	found := impl.FlowCheck(lines)
	steps, ok := impl.FlowMake(lines)
	shown := impl.FlowShow(lines)
	if ok != (found.Code == 0) || ok != (len(steps) > 0) || ok != (shown != "") {
		t.Errorf("%+v: %+v, but %v, %d steps, shown as %q", lines, found, ok, len(steps), shown)
	}
	if !ok {
		return
	}
	var rows strings.Builder
	for place, step := range steps {
		rows.WriteString(strconv.Itoa(place) + " " + modelShown(step) + "\n")
	}
	if shown != rows.String() || strings.Count(shown, "\n") != len(steps) {
		t.Errorf("%+v: shown as %q, not %q", steps, shown, rows.String())
	}
}

// modelShown is a pattern of a step's code, filled in.
func modelShown(step impl.FlowStep) string {
	pattern := []string{"", "let TO NAME ARGS", "do TO NAME ARGS undo UNDO", "sleep ARGS", "get TO NAME ARGS", "test NAME ARGS to A B", "patch NAME to A B",
		"jump to A", "fork to A B", "join to A", "return ARGS", "fail ARGS", "next ARGS"}[step.Code]
	if step.Undo == "" {
		pattern = strings.TrimSuffix(pattern, " undo UNDO")
	}
	if len(step.Args) == 0 {
		pattern = strings.Replace(pattern, " ARGS", "", 1)
	}
	return strings.NewReplacer("TO", step.To, "NAME", step.Name, "ARGS", strings.Join(step.Args, " "), "UNDO", step.Undo, "A", strconv.Itoa(step.A), "B", strconv.Itoa(step.B)).Replace(pattern)
}

func leaves(step impl.FlowStep) bool {
	return step.Code == impl.StepReturn || step.Code == impl.StepFail || step.Code == impl.StepNext
}

// going is one who goes through steps: at a step, or waiting there for those with a longer path.
type going struct {
	path  string
	at    int
	waits bool
}

// gone is where all are that go through steps, and which names have numbers.
type gone struct {
	all   []going
	known []string
}

func (g gone) text() string {
	var text strings.Builder
	for _, one := range g.all {
		text.WriteString(one.path + ":" + strconv.Itoa(one.at))
		if one.waits {
			text.WriteString("!")
		}
		text.WriteString(" ")
	}
	return text.String() + strings.Join(g.known, ",")
}

// to is g with the one of that place elsewhere, and perhaps a name known.
func (g gone) to(i int, one going, name string) gone {
	g.all, g.known = slices.Clone(g.all), slices.Clone(g.known)
	g.all[i] = one
	if name != "" && !slices.Contains(g.known, name) {
		g.known = append(g.known, name)
		slices.Sort(g.known)
	}
	return g
}

// explorer goes all ways through steps: whichever way tests and patches come out, whoever is ahead.
type explorer struct {
	t     *testing.T
	steps []impl.FlowStep
	seen  map[string]bool
	come  map[int]bool // steps that were come to
	work  []gone
}

func (e *explorer) push(g gone) {
	if !e.seen[g.text()] {
		e.seen[g.text()] = true
		e.work = append(e.work, g)
	}
}

// explore answers false if there are too many ways to go all of them.
func (e *explorer) explore(known []string) bool {
	e.push(gone{all: []going{{}}, known: slices.Sorted(slices.Values(known))})
	for len(e.work) > 0 {
		if len(e.seen) > 20000 {
			return false
		}
		g := e.work[len(e.work)-1]
		e.work = e.work[:len(e.work)-1]
		moved := false
		for i, one := range g.all {
			if !one.waits {
				moved = true
				e.move(g, i)
			}
		}
		if !moved {
			e.t.Errorf("%+v: nobody goes on at %s", e.steps, g.text())
		}
	}
	return true
}

func (e *explorer) move(g gone, i int) {
	one := g.all[i]
	if one.at < 0 || one.at >= len(e.steps) {
		e.t.Errorf("%+v: no step at %d", e.steps, one.at)
		return
	}
	step := e.steps[one.at]
	e.come[one.at] = true
	for _, operand := range step.Args {
		if _, err := strconv.Atoi(operand); err != nil && !slices.Contains(g.known, operand) {
			e.t.Errorf("%+v: %s has no number at %s", e.steps, operand, g.text())
		}
	}
	switch {
	case leaves(step):
		if len(g.all) != 1 {
			e.t.Errorf("%+v: it ends at %s", e.steps, g.text())
		}
	case step.Code == impl.StepTest || step.Code == impl.StepPatch:
		e.push(g.to(i, going{path: one.path, at: step.A}, ""))
		e.push(g.to(i, going{path: one.path, at: step.B}, ""))
	case step.Code == impl.StepJump:
		e.push(g.to(i, going{path: one.path, at: step.A}, ""))
	case step.Code == impl.StepFork:
		forked := g.to(i, going{one.path, one.at, true}, "")
		forked.all = append(forked.all, going{path: one.path + "0", at: step.A}, going{path: one.path + "1", at: step.B})
		e.push(forked)
	case step.Code == impl.StepJoin:
		e.join(g.to(i, going{one.path, one.at, true}, ""), one)
	default:
		e.push(g.to(i, going{path: one.path, at: one.at + 1}, step.To))
	}
}

// join lets both go on behind a fork, if the other one is at its join, too.
func (e *explorer) join(g gone, one going) {
	if one.path == "" {
		e.t.Errorf("%+v: a join outside of all forks: %s", e.steps, g.text())
		return
	}
	fork := one.path[:len(one.path)-1]
	joined := gone{known: g.known}
	behind := e.steps[one.at].A
	for _, who := range g.all {
		switch who.path {
		case fork + "0", fork + "1":
			if !who.waits || e.steps[who.at].Code != impl.StepJoin {
				e.push(g)
				return
			}
			if e.steps[who.at].A != behind {
				e.t.Errorf("%+v: joins lead apart: %s", e.steps, g.text())
			}
		case fork:
			joined.all = append(joined.all, going{path: fork, at: behind})
		default:
			joined.all = append(joined.all, who)
		}
	}
	e.push(joined)
}

// P1 and P8: goes all ways through the steps of a workflow that is right.
func goesAllWays(t *testing.T, lines []impl.FlowLine) bool {
	t.Helper()
	steps, ok := impl.FlowMake(lines)
	if !ok {
		t.Fatalf("%+v has no steps", lines)
	}
	e := &explorer{t: t, steps: steps, seen: map[string]bool{}, come: map[int]bool{}}
	if !e.explore(lines[0].Args) {
		return false
	}
	for place, step := range steps {
		behind := step.Code == impl.StepJump && place > 0 && leaves(steps[place-1])
		if !e.come[place] && !behind {
			t.Errorf("%+v: nobody comes to step %d", steps, place)
		}
	}
	return true
}

// used is what a stretch of steps gives numbers to, uses, and waits for.
type used struct{ given, asked, waits []string }

func usedBy(steps []impl.FlowStep) used {
	var u used
	for _, step := range steps {
		u.asked = append(u.asked, step.Args...)
		if step.To != "" {
			u.given = append(u.given, step.To)
		}
		if step.Code == impl.StepGet {
			u.waits = append(u.waits, step.Name)
		}
	}
	return u
}

func meet(one, other []string) bool {
	return slices.ContainsFunc(one, func(name string) bool { return slices.Contains(other, name) })
}

// P5: tells how many forks have two parts that do something.
func partsAreApart(t *testing.T, steps []impl.FlowStep) int {
	t.Helper()
	count := 0
	for _, step := range steps {
		if step.Code != impl.StepFork {
			continue
		}
		one := steps[step.A : step.B-1]
		other := steps[step.B : steps[step.B-1].A-1]
		a, b := usedBy(one), usedBy(other)
		if meet(a.given, b.given) || meet(a.given, b.asked) || meet(b.given, a.asked) || meet(a.waits, b.waits) {
			t.Errorf("%+v and %+v are not apart", one, other)
		}
		if len(one) > 0 && len(other) > 0 {
			count++
		}
	}
	return count
}

func TestAllWaysThroughSteps(t *testing.T) {
	t.Parallel()
	gone, forks := 0, 0
	for seed := range int64(6000) {
		m := newMaker(seed)
		lines := m.right(3 + m.Intn(25))
		steps, _ := impl.FlowMake(lines)
		stepsIfRight(t, lines)
		forks += partsAreApart(t, steps)
		if goesAllWays(t, lines) {
			gone++
		}
	}
	if gone < 5500 || forks < 250 {
		t.Errorf("gone through: %d, forks with two parts: %d", gone, forks)
	}
}

// All that is made, right or not: where there are steps, parts are apart.
func TestStepsOfWhatIsNotMended(t *testing.T) {
	t.Parallel()
	refused, forks := 0, 0
	for seed := range int64(20000) {
		m := newMaker(seed)
		lines := m.workflow(3 + m.Intn(25))
		if m.Intn(3) == 0 {
			lines = m.spoil(lines)
		}
		stepsIfRight(t, lines)
		steps, ok := impl.FlowMake(lines)
		if !ok {
			refused++
			continue
		}
		forks += partsAreApart(t, steps)
		goesAllWays(t, lines)
	}
	if refused < 5000 || forks < 30 {
		t.Errorf("refused: %d, forks with two parts: %d", refused, forks)
	}
}

func TestAllWaysThroughTheExample(t *testing.T) {
	lines := linesOf(t, trip)
	steps, _ := impl.FlowMake(lines)
	if !goesAllWays(t, lines) || partsAreApart(t, steps) != 1 {
		t.Error("the example is not gone through")
	}
}

func TestNoStepsOfPartsThatMeet(t *testing.T) {
	for _, parts := range [][2]string{
		{"let a is 1", "let a is 2"}, {"do a pay", "get a go"}, {"let a is 1", "sleep a"}, {"if n less 1; end", "let n is 1"},
		{"get a go", "get b go"}, {"while 1 less 2; get a go; end", "patch p; else; get b go for 3; end"}, {"both; let a is 1; and; end", "both; and; do b pay a; end"},
	} {
		one, other := partOf(t, parts[0]), partOf(t, parts[1])
		for _, lines := range [][]impl.FlowLine{bothOf(one, other), bothOf(other, one)} {
			if impl.FlowCheck(lines).Code != impl.FlowTwice {
				t.Errorf("%q: %+v", parts, impl.FlowCheck(lines))
			}
			stepsIfRight(t, lines)
		}
		for _, lines := range [][]impl.FlowLine{bothOf(one, nil), bothOf(nil, other)} {
			steps, ok := impl.FlowMake(lines)
			if !ok {
				t.Errorf("%q: %+v", parts, impl.FlowCheck(lines))
			}
			stepsIfRight(t, lines)
			partsAreApart(t, steps)
		}
	}
}

// partOf reads lines in which a and n have numbers, written in one line with `;` between.
func partOf(t *testing.T, text string) []impl.FlowLine {
	t.Helper()
	lines := linesOf(t, "workflow w a n\n"+strings.ReplaceAll(text, "; ", "\n")+"\nreturn 1")
	return lines[1 : len(lines)-1]
}

func bothOf(one, other []impl.FlowLine) []impl.FlowLine {
	lines := []impl.FlowLine{{Kind: impl.FlowHead, Name: "w", Args: []string{"a", "n"}}, {Kind: impl.FlowBoth}}
	lines = append(append(lines, one...), impl.FlowLine{Kind: impl.FlowAnd})
	return append(append(lines, other...), impl.FlowLine{Kind: impl.FlowEnd}, impl.FlowLine{Kind: impl.FlowReturn, Args: []string{"1"}})
}
