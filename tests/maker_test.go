package tests

import (
	"math/rand"
	"strings"

	"loop.example/dunserv/impl"
)

// maker makes workflows and texts, the same ones each time.
type maker struct {
	*rand.Rand
	left int // how many lines it may still make
	both int // in how many FlowBoth it is
}

func newMaker(seed int64) *maker {
	return &maker{Rand: rand.New(rand.NewSource(seed))}
}

func (m *maker) of(words ...string) string {
	return words[m.Intn(len(words))]
}

func (m *maker) name() string {
	return m.of("a", "b", "c", "a", "b", "d", "undo")
}

func (m *maker) operand() string {
	return m.of("1", "-9999", m.name(), m.name())
}

func (m *maker) operands(most int) []string {
	var list []string
	for m.Intn(3) > 0 && len(list) < most {
		list = append(list, m.operand())
	}
	return list
}

// workflow makes lines that stand well, of which names and returns may be wrong.
func (m *maker) workflow(most int) []impl.FlowLine {
	m.left, m.both = most, 0
	args := [][]string{{"a", "b"}, {"a", "b", "c"}, {"a", "undo"}, {"a"}, nil}[m.Intn(5)]
	lines := append([]impl.FlowLine{{Kind: impl.FlowHead, Name: "w", Args: args}}, m.block(0)...)
	if m.Intn(6) > 0 {
		lines = append(lines, impl.FlowLine{Kind: impl.FlowReturn, Args: []string{m.of("1", "a")}})
	}
	return lines
}

func (m *maker) block(deep int) []impl.FlowLine {
	var lines []impl.FlowLine
	for m.left > 0 && m.Intn(4) > 0 {
		m.left--
		lines = append(lines, m.line(deep)...)
	}
	if deep > 0 && m.both == 0 && m.Intn(4) == 0 {
		lines = append(lines, m.leaver())
	}
	return lines
}

func (m *maker) leaver() impl.FlowLine {
	switch m.Intn(3) {
	case 0:
		return impl.FlowLine{Kind: impl.FlowReturn, Args: []string{m.operand()}}
	case 1:
		return impl.FlowLine{Kind: impl.FlowFail, Args: []string{m.operand()}}
	}
	return impl.FlowLine{Kind: impl.FlowNext, Args: m.operands(3)}
}

func (m *maker) line(deep int) []impl.FlowLine {
	switch m.Intn(16) {
	case 0, 1, 2:
		return []impl.FlowLine{{Kind: impl.FlowLet, To: m.name(), Name: "is", Args: []string{m.operand()}}}
	case 3, 4:
		return []impl.FlowLine{{Kind: impl.FlowLet, To: m.name(), Name: m.of("add", "sub", "mul"), Args: []string{m.operand(), m.operand()}}}
	case 5, 6:
		return []impl.FlowLine{m.do()}
	case 7:
		return []impl.FlowLine{{Kind: impl.FlowSleep, Args: []string{m.operand()}}}
	case 8, 9:
		return []impl.FlowLine{{Kind: impl.FlowGet, To: m.name(), Name: m.of("go", "on", "undo"), Args: m.operands(1)}}
	case 10:
		if m.Intn(3) == 0 {
			return []impl.FlowLine{m.leaver()}
		}
	}
	if deep >= impl.FlowMaxDeep {
		return nil
	}
	return m.blockLines(deep)
}

func (m *maker) do() impl.FlowLine {
	line := impl.FlowLine{Kind: impl.FlowDo, To: m.name(), Name: m.of("pay", "mail", "undo"), Args: m.operands(3), Undo: m.of("", "", "back", "undo")}
	if n := len(line.Args); line.Undo == "" && n >= 2 && line.Args[n-2] == "undo" {
		line.Args[n-2] = "1"
	}
	return line
}

func (m *maker) blockLines(deep int) []impl.FlowLine {
	open := impl.FlowLine{Kind: m.Intn(4), Name: m.of("less", "same", "more", "other"), Args: []string{m.operand(), m.operand()}}
	turn := impl.FlowElse
	switch open.Kind {
	case 0:
		open.Kind = impl.FlowIf
	case 1:
		open.Kind = impl.FlowWhile
	case 2:
		open = impl.FlowLine{Kind: impl.FlowPatch, Name: m.name()}
	case 3:
		open = impl.FlowLine{Kind: impl.FlowBoth}
		turn = impl.FlowAnd
		m.both++
		defer func() { m.both-- }()
	}
	lines := append([]impl.FlowLine{open}, m.block(deep+1)...)
	if turn == impl.FlowAnd || open.Kind != impl.FlowWhile && m.Intn(3) > 0 {
		lines = append(append(lines, impl.FlowLine{Kind: turn}), m.block(deep+1)...)
	}
	return append(lines, impl.FlowLine{Kind: impl.FlowEnd})
}

// spoil changes a line or two, by hand, so that mostly something is wrong.
func (m *maker) spoil(lines []impl.FlowLine) []impl.FlowLine {
	lines = cloneLines(lines)
	for range 1 + m.Intn(2) {
		if len(lines) == 0 {
			return lines
		}
		i := m.Intn(len(lines))
		line := &lines[i]
		switch m.Intn(8) {
		case 0:
			lines = append(lines[:i], lines[i+1:]...)
		case 1:
			j := m.Intn(len(lines))
			lines[i], lines[j] = lines[j], lines[i]
		case 2:
			line.Kind = m.Intn(18) - 1
		case 3:
			line.To = m.word()
		case 4:
			line.Name = m.word()
		case 5:
			line.Undo = m.word()
		case 6:
			line.Args = append(line.Args, m.word())
		case 7:
			if len(line.Args) > 0 {
				line.Args[m.Intn(len(line.Args))] = m.word()
			}
		}
	}
	return lines
}

// word makes one that may or may not be of a line.
func (m *maker) word() string {
	return m.of("", "a", "b", "undo", "for", "is", "add", "less", "1", "-0", "01", "10000", "-9999", "A", " ", "a b", "a\n", "\xff", "é",
		"abcdefgh", "abcdefghi", "workflow", "let", "do", "sleep", "get", "if", "else", "while", "both", "and", "end", "return", "fail", "patch", "next")
}

// text makes one of words, spaces and newlines, or of any bytes, or one that is mostly a workflow.
func (m *maker) text() string {
	if m.Intn(2) == 0 {
		return m.nearText()
	}
	var text strings.Builder
	anyByte := m.Intn(3) == 0
	for range m.Intn(60) {
		if anyByte && m.Intn(3) == 0 {
			text.WriteByte(byte(m.Intn(256)))
			continue
		}
		text.WriteString(m.word())
		text.WriteString(m.of(" ", " ", "  ", "\n", "\n "))
	}
	return text.String()
}

// nearText makes the text of a workflow, with more spaces and empty lines, and, in every other one, another word or byte.
func (m *maker) nearText() string {
	var text strings.Builder
	for _, r := range impl.FlowPrint(m.workflow(3 + m.Intn(12))) {
		text.WriteRune(r)
		if (r == ' ' || r == '\n') && m.Intn(4) == 0 {
			text.WriteString(m.of(" ", "   ", string(r)))
		}
	}
	all := text.String()
	if all == "" || m.Intn(2) == 0 {
		return all
	}
	i := m.Intn(len(all))
	return all[:i] + m.of(" ", "\n", m.word(), m.word(), string([]byte{byte(m.Intn(256))})) + all[i+m.Intn(2):]
}

func cloneLines(lines []impl.FlowLine) []impl.FlowLine {
	var list []impl.FlowLine
	for _, line := range lines {
		line.Args = append([]string(nil), line.Args...)
		list = append(list, line)
	}
	return list
}

// right makes a workflow of which nothing is wrong: one that stands well, mended as long as FlowCheck tells a fault.
func (m *maker) right(most int) []impl.FlowLine {
	lines := cloneLines(m.workflow(most))
	for {
		found := impl.FlowCheck(lines)
		switch found.Code {
		case 0:
			return lines
		case impl.FlowTooLong:
			lines = cloneLines(m.workflow(most))
		case impl.FlowNoReturn:
			lines = append(lines, m.leaver())
		case impl.FlowUnknown:
			args := lines[found.Line-1].Args
			args[m.Intn(len(args))] = m.of("1", "-9999", "7")
		case impl.FlowTwice:
			lines = withoutLine(lines, found.Line)
		default:
			lines = withoutLine(lines, found.Line-1)
		}
	}
}

// withoutLine takes out a line of lines that stand well, with its block, if it opens one.
func withoutLine(lines []impl.FlowLine, place int) []impl.FlowLine {
	last := place
	switch lines[place].Kind {
	case impl.FlowIf, impl.FlowPatch, impl.FlowWhile, impl.FlowBoth:
		_, last = (&ways{lines: lines}).parts(place)
	}
	return append(lines[:place:place], lines[last+1:]...)
}
