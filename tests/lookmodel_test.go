package tests

import (
	"regexp"
	"slices"
	"strings"
	"testing"

	"loop.example/dunserv/impl"
)

// A model of changes: lines are even by a pattern of letters, and histories are looked at by HistOf, HistMore and HistReplay, one behind the other.

var closedBlock = regexp.MustCompile(`o[xt]*c`)

// modelEven takes blocks that are closed for plain lines, as long as there are some.
func modelEven(lines []impl.FlowLine) bool {
	var letters strings.Builder
	for _, line := range lines {
		switch line.Kind {
		case impl.FlowIf, impl.FlowPatch, impl.FlowWhile, impl.FlowBoth:
			letters.WriteString("o")
		case impl.FlowElse, impl.FlowAnd:
			letters.WriteString("t")
		case impl.FlowEnd:
			letters.WriteString("c")
		default:
			letters.WriteString("x")
		}
	}
	shape := letters.String()
	for closedBlock.MatchString(shape) {
		shape = closedBlock.ReplaceAllString(shape, "x")
	}
	return strings.Trim(shape, "x") == ""
}

func modelSwap(lines []impl.FlowLine, from, to int, name string, more []impl.FlowLine) ([]impl.FlowLine, bool) {
	if impl.FlowCheck(lines).Code != 0 || from < 1 || from > len(lines) || to < from || to > len(lines) {
		return nil, false
	}
	if !modelEven(lines[from:to]) || !modelEven(more) {
		return nil, false
	}
	for _, line := range slices.Concat(lines, more) {
		if line.Kind == impl.FlowPatch && line.Name == name {
			return nil, false
		}
	}
	var changed []impl.FlowLine
	for place := range len(lines) + 1 {
		if place == from {
			changed = append(append(changed, impl.FlowLine{Kind: impl.FlowPatch, Name: name}), more...)
			if to > from {
				changed = append(changed, impl.FlowLine{Kind: impl.FlowElse})
			}
		}
		if place == to {
			changed = append(changed, impl.FlowLine{Kind: impl.FlowEnd})
		}
		if place < len(lines) {
			changed = append(changed, lines[place])
		}
	}
	if impl.FlowCheck(changed).Code != 0 {
		return nil, false
	}
	return changed, true
}

// modelBeginnings are the choices of 0 and 1 for so many names, the last changing first.
func modelBeginnings(names int) [][]int {
	if names == 0 {
		return [][]int{nil}
	}
	var all [][]int
	for first := range 2 {
		for _, others := range modelBeginnings(names - 1) {
			all = append(all, append([]int{first}, others...))
		}
	}
	return all
}

// modelComes is what may happen to a run of a workflow, in order.
func modelComes(lines []impl.FlowLine, s impl.RunState) []impl.RunHap {
	var all []impl.RunHap
	if s.Stands != impl.RunLive {
		return all
	}
	for _, ask := range s.Asks {
		if ask.Name == "" {
			all = append(all, fired(ask.Id))
		} else {
			all = append(all, did(ask.Id, 0), did(ask.Id, 1), broke(ask.Id, 1))
		}
	}
	steps, _ := impl.FlowMake(lines)
	for _, thread := range s.Threads {
		if step := steps[thread.At]; thread.Wait == impl.WaitGet {
			all = append(all, came(step.Name, 0), came(step.Name, 1))
		}
	}
	if !s.Ending {
		all = append(all, cancelled())
	}
	return all
}

// modelLook is what VerLook tells, and how many histories were looked at without a fault.
func modelLook(old, next []impl.FlowLine) (code int, list []impl.HistEntry, looked int) {
	if impl.FlowCheck(old).Code != 0 || impl.FlowCheck(next).Code != 0 {
		return 2, nil, 0
	}
	var all [][]impl.HistEntry
	for _, args := range modelBeginnings(len(old[0].Args)) {
		all = append(all, impl.HistOf(old, args, nil, nil, 0))
	}
	for ; looked < len(all); looked++ {
		if looked == impl.VerMaxPairs {
			return 2, nil, looked
		}
		if _, found := impl.HistReplay(next, all[looked]); found.Code != 0 {
			return 1, all[looked], looked
		}
		s, _ := impl.HistReplay(old, all[looked])
		for _, h := range modelComes(old, s) {
			if more, refused := impl.HistMore(old, all[looked], h); len(all) <= impl.VerMaxPairs && refused == 0 {
				all = append(all, more)
			}
		}
	}
	return 0, nil, looked
}

// evenStretch is mostly one that may be swapped: places of a stretch of a workflow.
func (m *maker) evenStretch(lines []impl.FlowLine) (from, to int) {
	from = 1 + m.Intn(len(lines))
	tos := []int{from}
	for end := from + 1; end <= len(lines); end++ {
		if modelEven(lines[from:end]) {
			tos = append(tos, end, end)
		}
	}
	return from, tos[m.Intn(len(tos))]
}

// putIn makes lines that may mostly stand in a patch of a workflow.
func (m *maker) putIn(lines []impl.FlowLine) []impl.FlowLine {
	m.left = m.Intn(8)
	both := m.Intn(2) == 0
	gives := []string{"x", "y", "z", m.of("a", "b", "c", "x", "y")}
	uses := slices.Concat(lines[0].Args, []string{m.of("a", "b", "c", "d")})
	if m.Intn(3) > 0 {
		uses = lines[0].Args
	}
	more := m.runBlock(scope{gives: gives, uses: uses, signals: []string{"off", m.of("off", "go")}, deep: 3, both: both})
	if !both && m.Intn(2) == 0 && (len(more) == 0 || !slices.Contains([]int{impl.FlowReturn, impl.FlowFail, impl.FlowNext}, more[len(more)-1].Kind)) {
		more = append(more, m.runLeaver(scope{uses: lines[0].Args}))
	}
	return cloneLines(more)
}

// swap makes a change of a workflow; false, if none came of many tries.
func (m *maker) swap(lines []impl.FlowLine) (from, to int, more, changed []impl.FlowLine, ok bool) {
	for range 20 {
		from, to = m.evenStretch(lines)
		more = m.putIn(lines)
		if changed, ok = impl.VerSwap(lines, from, to, "fix", more); ok {
			return from, to, more, changed, true
		}
	}
	return 0, 0, nil, nil, false
}

// P21: changes of made workflows, by places and names that may be and that may not.
func TestSwapsAsTheModel(t *testing.T) {
	t.Parallel()
	count := map[bool]int{}
	for seed := range int64(12000) {
		m := newMaker(seed)
		lines := m.runFlow(2 + m.Intn(20))
		from, to := m.evenStretch(lines)
		if m.Intn(4) == 0 {
			from, to = m.Intn(len(lines)+3)-1, m.Intn(len(lines)+3)-1
		}
		more, name := m.putIn(lines), m.of("fix", "fix", "fix", "fix", "p", "q", "off", m.word())
		switch m.Intn(8) {
		case 0:
			more = m.spoil(more)
		case 1:
			lines = m.spoil(lines)
		case 2:
			more = linesOfShape(m.shape())[1:]
		}
		changed, ok := impl.VerSwap(lines, from, to, name, more)
		want, may := modelSwap(lines, from, to, name, more)
		if ok != may || !sameLines(changed, want) {
			t.Fatalf("%+v\nfrom %d to %d %q %+v\n%v %+v, not %v %+v", lines, from, to, name, more, ok, changed, may, want)
		}
		put, ok := impl.VerInsert(lines, from, name, more)
		if want, may := modelSwap(lines, from, from, name, more); ok != may || !sameLines(put, want) {
			t.Fatalf("%+v\nat %d %q %+v\n%v %+v, not %v %+v", lines, from, name, more, ok, put, may, want)
		}
		count[may]++
	}
	if count[true] < 2000 || count[false] < 3000 {
		t.Errorf("how often something was swapped: %v", count)
	}
}

// shape makes letters of lines of blocks, of which about every other one is even.
func (m *maker) shape() string {
	var letters strings.Builder
	for range m.Intn(7) {
		letters.WriteString(m.of("i", "w", "b", "e", "a", "n", "n", "n"))
	}
	return letters.String()
}

// P21: all small shapes of what is put in, and of what it is put in the place of.
func TestAllSmallShapesOfSwaps(t *testing.T) {
	all := []string{""}
	for at := 0; len(all[at]) < 5; at++ {
		for _, letter := range "iwbean" {
			all = append(all, all[at]+string(letter))
		}
	}
	rest := anyRows("return 1")
	even := 0
	for _, shape := range all {
		lines := append(linesOfShape(shape), rest...)
		more := lines[1 : len(lines)-1]
		plain := anyRows("workflow w;sleep 1;return 1")
		for _, to := range []int{1, 2} {
			changed, ok := impl.VerSwap(plain, 1, to, "fix", more)
			want, may := modelSwap(plain, 1, to, "fix", more)
			if ok != may || !sameLines(changed, want) {
				t.Fatalf("%q to %d: %v, not %v", shape, to, ok, may)
			}
		}
		if impl.FlowCheck(lines).Code != 0 {
			continue
		}
		even++
		for from := range len(lines) + 1 {
			for to := range len(lines) + 1 {
				changed, ok := impl.VerSwap(lines, from, to, "fix", plain[1:2])
				want, may := modelSwap(lines, from, to, "fix", plain[1:2])
				if ok != may || !sameLines(changed, want) {
					t.Fatalf("%q from %d to %d: %v, not %v", shape, from, to, ok, may)
				}
			}
		}
	}
	if even < 20 {
		t.Errorf("%d shapes are even", even)
	}
}

// another makes a workflow that is like one, but for something, and has no fault.
func (m *maker) another(lines []impl.FlowLine) []impl.FlowLine {
	for range 50 {
		other := cloneLines(lines)
		line := &other[m.Intn(len(other))]
		switch m.Intn(5) {
		case 0:
			line.Name = m.of("pay", "mail", "go", "on", "p", "q", "less", "same", "more", "other", "add", "sub")
		case 1:
			line.Undo = m.of("", "back", "unpay")
		case 2:
			line.To = m.of("a", "b", "c", "n", "x")
		case 3:
			if m.Intn(4) == 0 {
				line.Kind = m.Intn(15) + 1
			}
		}
		if n := len(line.Args); n > 0 && m.Intn(2) == 0 {
			line.Args[m.Intn(n)] = m.of("0", "1", "2", "-1", "a", "b", "n")
		}
		if impl.FlowCheck(other).Code == 0 && !sameLines(other, lines) {
			return other
		}
	}
	return lines
}

// P22: looks at workflows by changed ones, by ones that are like them but for something, and by others.
func TestLooksAsTheModel(t *testing.T) {
	t.Parallel()
	codes, late := map[int]int{}, 0
	for seed := range int64(1500) {
		m := newMaker(seed)
		old := m.runFlow(1 + m.Intn(9))
		next := m.another(old)
		switch m.Intn(8) {
		case 0:
			_, _, _, next, _ = m.swap(old)
		case 1:
			next = m.runFlow(1 + m.Intn(6))
		case 2:
			next = old
		case 3:
			next = m.another(next)
		}
		code, list := impl.VerLook(old, next)
		want, wanted, looked := modelLook(old, next)
		if code != want || !sameHist(list, wanted) {
			t.Fatalf("%s\nby\n%s\n%d %q, not %d %q", impl.FlowPrint(old), impl.FlowPrint(next), code, histTold(list), want, histTold(wanted))
		}
		codes[code]++
		if code == 1 && looked > 8 {
			late++
		}
	}
	if codes[0] < 200 || codes[1] < 300 || codes[2] < 100 || late < 50 {
		t.Errorf("codes: %v, unlike late: %d", codes, late)
	}
}

// No function panics, whatever it is given, and what it answers is right all the same.
func TestChangesOfWhateverIsGiven(t *testing.T) {
	for seed := range int64(3000) {
		m := newMaker(seed)
		lines, more := m.anyLines(), wildly[[]impl.FlowLine](m)
		if m.Intn(2) == 0 {
			more = m.spoil(m.runFlow(6)[1:])
		}
		from, to, name := wildly[int](m), wildly[int](m), wildly[string](m)
		changed, ok := impl.VerSwap(lines, from, to, name, more)
		if want, may := modelSwap(lines, from, to, name, more); ok != may || !sameLines(changed, want) {
			t.Fatalf("%+v\nfrom %d to %d %q %+v\n%v %+v, not %v %+v", lines, from, to, name, more, ok, changed, may, want)
		}
		put, ok := impl.VerInsert(lines, from, name, more)
		if want, may := modelSwap(lines, from, from, name, more); ok != may || !sameLines(put, want) {
			t.Fatalf("%+v\nat %d %q %+v\n%v %+v, not %v %+v", lines, from, name, more, ok, put, may, want)
		}
		if m.Intn(10) > 0 {
			continue
		}
		code, list := impl.VerLook(lines, more)
		if want, wanted, _ := modelLook(lines, more); code != want || !sameHist(list, wanted) {
			t.Fatalf("%+v\nby\n%+v\n%d %+v, not %d %+v", lines, more, code, list, want, wanted)
		}
		code, list = impl.VerLook(more, lines)
		if want, wanted, _ := modelLook(more, lines); code != want || !sameHist(list, wanted) {
			t.Fatalf("%+v\nby\n%+v\n%d %+v, not %d %+v", more, lines, code, list, want, wanted)
		}
	}
}
