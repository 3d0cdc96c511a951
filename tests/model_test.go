package tests

import (
	"regexp"
	"slices"
	"strings"
	"testing"

	"loop.example/dunserv/impl"
)

// A model of FlowCheck, worked out another way: how lines stand by taking out blocks that are whole, what is known by going all ways.

var shapes = map[byte]impl.FlowLine{
	'i': {Kind: impl.FlowIf, Name: "less", Args: []string{"1", "2"}},
	'p': {Kind: impl.FlowPatch, Name: "p"},
	'w': {Kind: impl.FlowWhile, Name: "less", Args: []string{"1", "2"}},
	'b': {Kind: impl.FlowBoth},
	'e': {Kind: impl.FlowElse},
	'a': {Kind: impl.FlowAnd},
	'n': {Kind: impl.FlowEnd},
	's': {Kind: impl.FlowSleep, Args: []string{"1"}},
}

var (
	whole   = regexp.MustCompile(`s|[ip]e?n|wn|ban`)
	stretch = regexp.MustCompile(`^([ip]e?|w|ba?)*$`)
	opener  = regexp.MustCompile(`[ipwb]`)
)

// forms are the lines that there are, but for the word undo of a do.
var forms = func() *regexp.Regexp {
	all := `workflow N( N){0,3}|let N is A|let N (add|sub|mul) A A|do N N( A){0,3}( undo N)?|sleep A|get N N( for A)?|(if|while) A (less|same|more|other) A|` +
		`else|both|and|end|(return|fail) A|patch N|next( A){0,3}`
	all = strings.NewReplacer("N", `[a-z][a-z0-9]{0,7}`, "A", `(?:[a-z][a-z0-9]{0,7}|0|-?[1-9][0-9]{0,3})`).Replace(all)
	return regexp.MustCompile(`^(` + all + `)$`)
}()

func modelIsLine(line string) bool {
	words := strings.Fields(line)
	if !forms.MatchString(line) {
		return false
	}
	switch n := len(words); words[0] {
	case "do":
		return n <= 4 || words[n-2] != "undo" || forms.MatchString("patch "+words[n-1])
	case "workflow":
		args := slices.Sorted(slices.Values(words[2:]))
		return len(slices.Compact(args)) == n-2
	}
	return true
}

func TestLinesByPatterns(t *testing.T) {
	count := map[bool]int{}
	for seed := range int64(60000) {
		m := newMaker(seed)
		words := []string{m.of("workflow", "let", "do", "do", "sleep", "get", "if", "while", "else", "both", "and", "end", "return", "fail", "patch", "next", m.word())}
		for n := m.Intn(8); len(words) <= n; {
			words = append(words, m.of("a", "b", "c", "undo", "undo", "1", "for", "is", "add", "less", m.word()))
		}
		line := strings.Join(words, " ")
		if strings.Contains(line, "\n") || strings.TrimSpace(line) == "" {
			continue
		}
		line = strings.Join(strings.Fields(line), " ")
		_, found := impl.FlowParse("\n" + line)
		isLine := found != fault(2, impl.FlowBadLine)
		count[isLine]++
		if isLine != modelIsLine(line) {
			t.Errorf("%q: %+v", line, found)
		}
	}
	if count[true] < 5000 || count[false] < 5000 {
		t.Errorf("how often a line was one: %v", count)
	}
}

// rest is what is left of a shape when all that is whole is taken out.
func rest(shape string) string {
	for {
		less := whole.ReplaceAllString(shape, "")
		if less == shape {
			return shape
		}
		shape = less
	}
}

func modelStanding(shape string) impl.FlowFault {
	for i := range shape {
		ahead, here := rest(shape[:i]), rest(shape[:i+1])
		if !stretch.MatchString(here) || i == len(shape)-1 && here != "" {
			return fault(i+2, impl.FlowUneven)
		}
		if opener.MatchString(shape[i:i+1]) && len(opener.FindAllString(ahead, -1)) >= impl.FlowMaxDeep {
			return fault(i+2, impl.FlowTooDeep)
		}
	}
	return fault(len(shape)+1, impl.FlowNoReturn)
}

func linesOfShape(shape string) []impl.FlowLine {
	lines := []impl.FlowLine{{Kind: impl.FlowHead, Name: "w"}}
	for i := range shape {
		lines = append(lines, shapes[shape[i]])
	}
	return lines
}

func checkShape(t *testing.T, shape string) {
	t.Helper()
	lines := linesOfShape(shape)
	if got, want := impl.FlowCheck(lines), modelStanding(shape); got != want {
		t.Errorf("%s: %+v, not %+v", shape, got, want)
	}
}

func TestAllSmallShapes(t *testing.T) {
	all := []string{""}
	for range 5 {
		var longer []string
		for _, shape := range all {
			for _, letter := range "iwbean" {
				longer = append(longer, shape+string(letter))
			}
		}
		for _, shape := range longer {
			checkShape(t, shape)
		}
		all = longer
	}
}

func TestLongShapes(t *testing.T) {
	codes := map[int]int{}
	for seed := range int64(4000) {
		m := newMaker(seed)
		shape := ""
		for range 1 + m.Intn(25) {
			letters := []string{"i", "p", "w", "b", "e", "a", "n", "s", "n", "b"}
			if stretch.MatchString(rest(shape)) && m.Intn(12) > 0 { // mostly one that may stand there
				letters = slices.DeleteFunc(letters, func(s string) bool { return !stretch.MatchString(rest(shape + s)) })
			}
			shape += m.of(letters...)
		}
		checkShape(t, shape)
		codes[modelStanding(shape).Code]++
	}
	cameUp(t, codes, impl.FlowUneven, impl.FlowTooDeep, impl.FlowNoReturn)
}

// states are the sets of names, written in order, with which one comes somewhere.
type states map[string]bool

func (s states) with(name string) states {
	all := states{}
	for known := range s {
		names := strings.Fields(known)
		if name != "" && !slices.Contains(names, name) {
			names = append(names, name)
		}
		slices.Sort(names)
		all[strings.Join(names, " ")] = true
	}
	return all
}

func (s states) or(other states) states {
	all := s.with("")
	for known := range other {
		all[known] = true
	}
	return all
}

func (s states) lack(operand string) bool {
	for known := range s {
		if !slices.Contains(strings.Fields(known), operand) {
			return true
		}
	}
	return false
}

// modelFault is a fault, and where on the way through the lines it is found.
type modelFault struct {
	place, rank int
	told        impl.FlowFault
}

// ways goes all ways through lines that stand well.
type ways struct {
	lines  []impl.FlowLine
	faults []modelFault
}

func (w *ways) find(place, rank int, told impl.FlowFault) {
	w.faults = append(w.faults, modelFault{place, rank, told})
}

// parts are the places at which the block that a line opens turns, if it does, and ends.
func (w *ways) parts(open int) (turn, end int) {
	deep := 0
	for i := open; ; i++ {
		switch w.lines[i].Kind {
		case impl.FlowIf, impl.FlowPatch, impl.FlowWhile, impl.FlowBoth:
			deep++
		case impl.FlowElse, impl.FlowAnd:
			if deep == 1 {
				turn = i
			}
		case impl.FlowEnd:
			deep--
			if deep == 0 {
				return turn, i
			}
		}
	}
}

// from goes from a place up to one ahead of another, as one comes there.
func (w *ways) from(place, end int, here states, both bool) states {
	for place < end {
		line := w.lines[place]
		w.lookAt(place, here, both)
		switch line.Kind {
		case impl.FlowIf, impl.FlowPatch, impl.FlowWhile, impl.FlowBoth:
			turn, last := w.parts(place)
			here = w.block(place, turn, last, here, both || line.Kind == impl.FlowBoth)
			place = last
		case impl.FlowReturn, impl.FlowFail, impl.FlowNext:
			here = states{}
		default:
			here = here.with(line.To)
		}
		place++
	}
	return here
}

func (w *ways) lookAt(place int, here states, both bool) {
	line := w.lines[place]
	if len(here) == 0 {
		w.find(place, 0, fault(place+1, impl.FlowDead))
	}
	for _, operand := range line.Args {
		if operand != "1" && operand != "-9999" && here.lack(operand) {
			w.find(place, 1, fault(place+1, impl.FlowUnknown))
		}
	}
	if both && (line.Kind == impl.FlowReturn || line.Kind == impl.FlowFail || line.Kind == impl.FlowNext) {
		w.find(place, 2, fault(place+1, impl.FlowUneven))
	}
}

func (w *ways) block(open, turn, end int, here states, both bool) states {
	if turn == 0 {
		return here.or(w.from(open+1, end, here, both))
	}
	one := w.from(open+1, turn, here, both)
	other := w.from(turn+1, end, here, both)
	if w.lines[open].Kind != impl.FlowBoth {
		return one.or(other)
	}
	if w.atOnce(open+1, turn, turn+1, end) || w.atOnce(turn+1, end, open+1, turn) {
		w.find(end, 3, fault(turn+1, impl.FlowTwice))
	}
	all := states{}
	for a := range one {
		for b := range other {
			known := states{a: true}
			for _, name := range strings.Fields(b) {
				known = known.with(name)
			}
			all = all.or(known)
		}
	}
	return all
}

// atOnce says whether a part gives a number, or waits for a signal, that the other one uses.
func (w *ways) atOnce(from, to, otherFrom, otherTo int) bool {
	given := map[string]bool{}
	for _, line := range w.lines[from:to] {
		given[line.To] = true
		if line.Kind == impl.FlowGet {
			given["signal "+line.Name] = true
		}
	}
	for _, line := range w.lines[otherFrom:otherTo] {
		used := append([]string{line.To}, line.Args...)
		if line.Kind == impl.FlowGet {
			used = append(used, "signal "+line.Name)
		}
		for _, name := range used {
			if name != "" && given[name] {
				return true
			}
		}
	}
	return false
}

func modelComing(lines []impl.FlowLine) impl.FlowFault {
	w := &ways{lines: lines}
	here := states{"": true}
	for _, name := range lines[0].Args {
		here = here.with(name)
	}
	last := len(lines)
	if len(w.from(1, last, here, false)) > 0 {
		w.find(last-1, 4, fault(last, impl.FlowNoReturn))
	}
	if len(w.faults) == 0 {
		return fault(0, 0)
	}
	return slices.MinFunc(w.faults, func(a, b modelFault) int {
		if a.place != b.place {
			return a.place - b.place
		}
		return a.rank - b.rank
	}).told
}

func TestWhatIsKnownByAllWays(t *testing.T) {
	codes := map[int]int{}
	for seed := range int64(20000) {
		m := newMaker(seed)
		lines := m.workflow(2 + m.Intn(25))
		if len(lines) > impl.FlowMaxLines {
			continue
		}
		got, want := impl.FlowCheck(lines), modelComing(lines)
		if got != want {
			t.Fatalf("%+v: %+v, not %+v", lines, got, want)
		}
		codes[want.Code]++
	}
	cameUp(t, codes, 0, impl.FlowUneven, impl.FlowUnknown, impl.FlowTwice, impl.FlowNoReturn, impl.FlowDead)
}
