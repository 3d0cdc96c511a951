package tests

import (
	"slices"
	"strconv"

	"loop.example/dunserv/impl"
)

// scope is what lines of a part may give numbers to, use, and wait for.
type scope struct {
	gives   []string
	uses    []string
	signals []string
	deep    int
	both    bool
}

// runFlow makes a workflow that is right, of which many lines are within a FlowBoth, and most loops end.
func (m *maker) runFlow(most int) []impl.FlowLine {
	for {
		m.left = most
		args := [][]string{{"a", "b", "n"}, {"a", "n"}, {"n"}, nil}[m.Intn(4)]
		all := []string{"a", "b", "c", "d", "e", "f", "g", "h", "n"}
		lines := []impl.FlowLine{{Kind: impl.FlowHead, Name: "w", Args: args}}
		lines = append(lines, m.runBlock(scope{gives: all, uses: all, signals: []string{"go", "on", "up", "in"}})...)
		if lines, ok := m.mended(cloneLines(lines)); ok {
			return lines
		}
	}
}

// mended takes out or fills in what is wrong with lines that stand well; false, if they are too many.
func (m *maker) mended(lines []impl.FlowLine) ([]impl.FlowLine, bool) {
	for {
		found := impl.FlowCheck(lines)
		switch found.Code {
		case 0:
			return lines, true
		case impl.FlowTooLong:
			return nil, false
		case impl.FlowNoReturn:
			lines = append(lines, m.runLeaver(scope{uses: []string{"a", "b", "c", "d"}}))
		case impl.FlowUnknown:
			args := lines[found.Line-1].Args
			args[m.Intn(len(args))] = m.of("1", "2", "-9999", "7")
		default:
			lines = withoutLine(lines, found.Line-1)
		}
	}
}

func (m *maker) runBlock(s scope) []impl.FlowLine {
	var lines []impl.FlowLine
	for m.left > 0 && m.Intn(6) > 0 {
		m.left--
		lines = append(lines, m.runLine(s)...)
	}
	if s.deep > 0 && !s.both && m.Intn(8) == 0 {
		lines = append(lines, m.runLeaver(s))
	}
	return lines
}

func (m *maker) runLeaver(s scope) impl.FlowLine {
	switch m.Intn(6) {
	case 0:
		return impl.FlowLine{Kind: impl.FlowFail, Args: []string{m.use(s)}}
	case 1:
		return impl.FlowLine{Kind: impl.FlowNext, Args: m.usesOf(s)}
	}
	return impl.FlowLine{Kind: impl.FlowReturn, Args: []string{m.use(s)}}
}

func (m *maker) use(s scope) string {
	if len(s.uses) == 0 || m.Intn(3) == 0 {
		return m.of("0", "1", "2", "3", "-1", "-9999", "9999")
	}
	return m.of(s.uses...)
}

func (m *maker) usesOf(s scope) []string {
	var list []string
	for m.Intn(3) > 0 && len(list) < impl.FlowMaxArgs {
		list = append(list, m.use(s))
	}
	return list
}

func (m *maker) runLine(s scope) []impl.FlowLine {
	kind := m.Intn(14)
	if s.deep >= impl.FlowMaxDeep {
		kind = m.Intn(8)
	}
	switch kind {
	case 8, 9:
		return m.runChoice(s)
	case 10:
		return m.runLoop(s)
	case 11, 12, 13:
		return m.runBoth(s)
	case 6:
		if len(s.signals) > 0 && len(s.gives) > 0 {
			line := impl.FlowLine{Kind: impl.FlowGet, To: m.of(s.gives...), Name: m.of(s.signals...)}
			if m.Intn(2) == 0 {
				line.Args = []string{m.use(s)}
			}
			return []impl.FlowLine{line}
		}
	case 7:
		return []impl.FlowLine{{Kind: impl.FlowSleep, Args: []string{m.use(s)}}}
	}
	if len(s.gives) == 0 {
		return nil
	}
	switch kind {
	case 0:
		return []impl.FlowLine{{Kind: impl.FlowLet, To: m.of(s.gives...), Name: "is", Args: []string{m.use(s)}}}
	case 1:
		return []impl.FlowLine{{Kind: impl.FlowLet, To: m.of(s.gives...), Name: m.of("add", "sub", "mul"), Args: []string{m.use(s), m.use(s)}}}
	}
	return []impl.FlowLine{{Kind: impl.FlowDo, To: m.of(s.gives...), Name: m.of("pay", "mail", "work"), Args: m.usesOf(s), Undo: m.of("", "back", "unpay")}}
}

// blockOf are lines that open a block, its parts, and what ends it.
func blockOf(open impl.FlowLine, turn int, parts ...[]impl.FlowLine) []impl.FlowLine {
	lines := append([]impl.FlowLine{open}, parts[0]...)
	if len(parts) > 1 {
		lines = append(append(lines, impl.FlowLine{Kind: turn}), parts[1]...)
	}
	return append(lines, impl.FlowLine{Kind: impl.FlowEnd})
}

func (m *maker) runChoice(s scope) []impl.FlowLine {
	open := impl.FlowLine{Kind: impl.FlowPatch, Name: m.of("p", "q", "r")}
	if m.Intn(2) == 0 {
		open = impl.FlowLine{Kind: impl.FlowIf, Name: m.of("less", "same", "more", "other"), Args: []string{m.use(s), m.use(s)}}
	}
	s.deep++
	if m.Intn(3) == 0 {
		return blockOf(open, 0, m.runBlock(s))
	}
	return blockOf(open, impl.FlowElse, m.runBlock(s), m.runBlock(s))
}

// runLoop makes a loop that counts, or one that may go on and on.
func (m *maker) runLoop(s scope) []impl.FlowLine {
	s.deep++
	if len(s.gives) == 0 || m.Intn(8) == 0 {
		open := impl.FlowLine{Kind: impl.FlowWhile, Name: m.of("less", "same", "more", "other"), Args: []string{m.use(s), m.use(s)}}
		return blockOf(open, 0, m.runBlock(s))
	}
	count := m.of(s.gives...)
	inner := s
	inner.gives = slices.DeleteFunc(slices.Clone(s.gives), func(name string) bool { return name == count })
	step := impl.FlowLine{Kind: impl.FlowLet, To: count, Name: "add", Args: []string{count, "1"}}
	open := impl.FlowLine{Kind: impl.FlowWhile, Name: "less", Args: []string{count, strconv.Itoa(1 + m.Intn(6))}}
	lines := []impl.FlowLine{{Kind: impl.FlowLet, To: count, Name: "is", Args: []string{"0"}}}
	return append(lines, blockOf(open, 0, append(m.runBlock(inner), step))...)
}

// runBoth deals out to two parts what may be given numbers, and waited for.
func (m *maker) runBoth(s scope) []impl.FlowLine {
	s.deep++
	s.both = true
	one, other := s, s
	one.gives, other.gives = m.deal(s.gives)
	one.signals, other.signals = m.deal(s.signals)
	one.uses = without(s.uses, other.gives)
	other.uses = without(s.uses, one.gives)
	return blockOf(impl.FlowLine{Kind: impl.FlowBoth}, impl.FlowAnd, m.runBlock(one), m.runBlock(other))
}

func (m *maker) deal(all []string) (one, other []string) {
	for _, name := range all {
		if m.Intn(2) == 0 {
			one = append(one, name)
		} else {
			other = append(other, name)
		}
	}
	return one, other
}

func without(all, less []string) []string {
	return slices.DeleteFunc(slices.Clone(all), func(name string) bool { return slices.Contains(less, name) })
}

func (m *maker) numsFor(lines []impl.FlowLine) []int {
	var nums []int
	for range lines[0].Args {
		nums = append(nums, m.num())
	}
	return nums
}

func (m *maker) num() int {
	return []int{0, 1, 2, 3, -1, 5, 9999, -9999, m.Intn(2*impl.FlowMaxNum+1) - impl.FlowMaxNum}[m.Intn(9)]
}

func (m *maker) signal() impl.RunVar {
	return impl.RunVar{Name: m.of("go", "on", "up", "in", "other"), Num: m.num()}
}

func (m *maker) signalList() []impl.RunVar {
	var list []impl.RunVar
	for m.Intn(4) > 0 {
		list = append(list, m.signal())
	}
	return list
}

func (m *maker) picks() []int {
	var list []int
	for m.Intn(5) > 0 {
		list = append(list, m.Intn(15)-5)
	}
	return list
}

// patches are some of the names of patches, and others.
func (m *maker) patches() []string {
	var list []string
	for m.Intn(2) > 0 {
		list = append(list, m.of("p", "q", "r", "x", "", "q"))
	}
	return list
}

// hap makes what may happen to a run: mostly an answer to an ask.
func (m *maker) hap(s impl.RunState) impl.RunHap {
	kind := m.Intn(24)
	switch {
	case kind == 0:
		return impl.RunHap{Kind: impl.HapCancel}
	case kind < 4 || len(s.Asks) == 0:
		v := m.signal()
		return impl.RunHap{Kind: impl.HapSignal, Name: v.Name, Num: v.Num}
	}
	ask := s.Asks[m.Intn(len(s.Asks))]
	switch {
	case ask.Name == "":
		return impl.RunHap{Kind: impl.HapFired, Id: ask.Id}
	case kind == 4 || s.Ending && kind < 12:
		return impl.RunHap{Kind: impl.HapBroke, Id: ask.Id, Num: m.num()}
	}
	return impl.RunHap{Kind: impl.HapDone, Id: ask.Id, Num: m.num()}
}

// anyHap makes what may happen, or mostly may not.
func (m *maker) anyHap(s impl.RunState) impl.RunHap {
	if m.Intn(3) == 0 {
		return m.hap(s)
	}
	ids := []int{0, -1, 1, 2, 3, s.Next - 1, s.Next, impl.RunMaxId}
	for _, ask := range s.Asks {
		ids = append(ids, ask.Id, ask.Id)
	}
	return impl.RunHap{
		Kind: m.Intn(9) - 1,
		Id:   ids[m.Intn(len(ids))],
		Name: m.of("go", "on", "up", "in", "", "A", "pay", "abcdefghi", "a b"),
		Num:  []int{0, 1, -9999, 9999, -10000, 10000, 1 << 40}[m.Intn(7)],
	}
}
