// Package impl: workflows, from texts to steps, runs of them, their histories, changes of workflows while runs live, and a service
// whose workers go on with runs.
package impl

import (
	"slices"
	"strconv"
	"strings"
)

// Limits of workflows.
const (
	FlowMaxText  = 4000
	FlowMaxLines = 60
	FlowMaxName  = 8
	FlowMaxNum   = 9999
	FlowMaxArgs  = 3
	FlowMaxDeep  = 5
)

// Kinds of lines.
const (
	FlowHead   = 1
	FlowLet    = 2
	FlowDo     = 3
	FlowSleep  = 4
	FlowGet    = 5
	FlowIf     = 6
	FlowElse   = 7
	FlowWhile  = 8
	FlowBoth   = 9
	FlowAnd    = 10
	FlowEnd    = 11
	FlowReturn = 12
	FlowFail   = 13
	FlowPatch  = 14
	FlowNext   = 15
)

// Words within lines.
const (
	forWord  = "for"
	isWord   = "is"
	undoWord = "undo"
)

// FlowLine is a line of a workflow.
type FlowLine struct {
	Kind int
	To   string
	Name string
	Args []string
	Undo string
}

// FlowFault is what is wrong, and in which line, from 1 on.
type FlowFault struct {
	Line int
	Code int
}

// lineForm is how a kind of line begins, and how the words behind that are read.
type lineForm struct {
	word string
	read func(words []string) (FlowLine, bool)
}

// lineForms has the form of each kind of line at its place; answers are worked out by wordOf and readBehind, not by it.
var lineForms [FlowNext + 1]lineForm

func init() {
	for kind := range lineForms {
		lineForms[kind] = lineForm{
			word: wordOf(kind),
			read: func(words []string) (FlowLine, bool) { return readBehind(kind, words) },
		}
	}
}

// FlowParse reads a workflow.
func FlowParse(text string) ([]FlowLine, FlowFault) {
	if len(text) > FlowMaxText {
		return nil, FlowFault{Code: FlowTooLong}
	}
	lines, places, fault := readLines(text)
	if fault.Code != 0 {
		return nil, fault
	}
	fault = FlowCheck(lines)
	if fault.Code == 0 {
		return lines, FlowFault{}
	}
	if fault.Line > 0 {
		fault.Line = places[fault.Line-1]
	}
	return nil, fault
}

// FlowPrint writes a workflow.
func FlowPrint(lines []FlowLine) string {
	if FlowCheck(lines).Code != 0 {
		return ""
	}
	// The forms tell how much room the text takes at least; nothing that is written hangs on them.
	room := 0
	for _, line := range lines {
		room += len(lineForms[line.Kind].word) + 1
	}
	var text strings.Builder
	text.Grow(room)
	for _, line := range lines {
		text.WriteString(writeLine(line))
		text.WriteByte('\n')
	}
	return text.String()
}

// readLines reads the lines that have words, and tells at which line of the text each stands.
func readLines(text string) (lines []FlowLine, places []int, fault FlowFault) {
	for i, row := range strings.Split(text, "\n") {
		words := splitWords(row)
		if len(words) == 0 {
			continue
		}
		line, ok := readLine(words)
		if !ok {
			return nil, nil, FlowFault{Line: i + 1, Code: FlowBadLine}
		}
		if len(lines) == FlowMaxLines {
			return nil, nil, FlowFault{Line: i + 1, Code: FlowTooLong}
		}
		lines = append(lines, line)
		places = append(places, i+1)
	}
	return lines, places, FlowFault{}
}

func splitWords(row string) []string {
	var words []string
	start := -1
	for i, r := range row {
		if r != ' ' && start < 0 {
			start = i
		}
		if r == ' ' && start >= 0 {
			words = append(words, row[start:i])
			start = -1
		}
	}
	if start >= 0 {
		words = append(words, row[start:])
	}
	return words
}

// wordOf is the word that lines of a kind begin with, empty if there is no such kind.
func wordOf(kind int) string {
	switch kind {
	case FlowHead:
		return "workflow"
	case FlowLet:
		return "let"
	case FlowDo:
		return "do"
	case FlowSleep:
		return "sleep"
	case FlowGet:
		return "get"
	case FlowIf:
		return "if"
	case FlowElse:
		return "else"
	case FlowWhile:
		return "while"
	case FlowBoth:
		return "both"
	case FlowAnd:
		return "and"
	case FlowEnd:
		return "end"
	case FlowReturn:
		return "return"
	case FlowFail:
		return "fail"
	case FlowPatch:
		return "patch"
	case FlowNext:
		return "next"
	}
	return ""
}

// kindOfWord is the kind, from 1 up to the last, that has a word, 0 if there is none.
func kindOfWord(word string, last int, wordOf func(kind int) string) int {
	for kind := 1; kind <= last; kind++ {
		if wordOf(kind) == word {
			return kind
		}
	}
	return 0
}

// readBehind reads the words behind the first one of a line of a kind.
func readBehind(kind int, words []string) (FlowLine, bool) {
	switch kind {
	case FlowHead:
		return readHead(words)
	case FlowLet:
		return readLet(words)
	case FlowDo:
		return readDo(words)
	case FlowGet:
		return readGet(words)
	case FlowIf, FlowWhile:
		return readTest(words)
	case FlowElse, FlowBoth, FlowAnd, FlowEnd:
		return readNothing(words)
	case FlowSleep, FlowReturn, FlowFail:
		return readOperand(words)
	case FlowPatch:
		return readPatch(words)
	case FlowNext:
		return readNext(words)
	}
	return FlowLine{}, false
}

// readLine reads one word or more as a line.
func readLine(words []string) (FlowLine, bool) {
	kind := kindOfWord(words[0], FlowNext, wordOf)
	line, ok := readBehind(kind, words[1:])
	line.Kind = kind
	return line, ok
}

func readHead(words []string) (FlowLine, bool) {
	if len(words) < 1 || len(words) > 1+FlowMaxArgs || !allAre(words, isName) || repeats(words[1:]) {
		return FlowLine{}, false
	}
	return FlowLine{Name: words[0], Args: newWords(words[1:])}, true
}

func readLet(words []string) (FlowLine, bool) {
	if len(words) < 3 || !isName(words[0]) || !allAre(words[2:], isOperand) {
		return FlowLine{}, false
	}
	if len(words)-2 != letTakes(words[1]) {
		return FlowLine{}, false
	}
	return FlowLine{To: words[0], Name: words[1], Args: newWords(words[2:])}, true
}

// letTakes is how many operands a word of let has behind it, 0 if it is none.
func letTakes(word string) int {
	switch word {
	case isWord:
		return 1
	case "add", "sub", "mul":
		return 2
	}
	return 0
}

func readDo(words []string) (FlowLine, bool) {
	var line FlowLine
	// The document says that undo is the word undo there whatever is behind it: do a b undo 5 is no line.
	if last := len(words) - 1; len(words) > 3 && words[last-1] == undoWord {
		if !isName(words[last]) {
			return FlowLine{}, false
		}
		line.Undo = words[last]
		words = words[:last-1]
	}
	if len(words) < 2 || len(words) > 2+FlowMaxArgs || !allAre(words[:2], isName) || !allAre(words[2:], isOperand) {
		return FlowLine{}, false
	}
	line.To, line.Name, line.Args = words[0], words[1], newWords(words[2:])
	return line, true
}

func readGet(words []string) (FlowLine, bool) {
	if len(words) < 2 || !allAre(words[:2], isName) {
		return FlowLine{}, false
	}
	line := FlowLine{To: words[0], Name: words[1]}
	if len(words) == 2 {
		return line, true
	}
	if len(words) != 4 || words[2] != forWord || !isOperand(words[3]) {
		return FlowLine{}, false
	}
	line.Args = newWords(words[3:])
	return line, true
}

func readTest(words []string) (FlowLine, bool) {
	if len(words) != 3 || !isOperand(words[0]) || !isTest(words[1]) || !isOperand(words[2]) {
		return FlowLine{}, false
	}
	return FlowLine{Name: words[1], Args: []string{words[0], words[2]}}, true
}

func readNothing(words []string) (FlowLine, bool) {
	return FlowLine{}, len(words) == 0
}

func readOperand(words []string) (FlowLine, bool) {
	if len(words) != 1 {
		return FlowLine{}, false
	}
	return readNext(words)
}

func readPatch(words []string) (FlowLine, bool) {
	if len(words) != 1 || !isName(words[0]) {
		return FlowLine{}, false
	}
	return FlowLine{Name: words[0]}, true
}

func readNext(words []string) (FlowLine, bool) {
	if len(words) > FlowMaxArgs || !allAre(words, isOperand) {
		return FlowLine{}, false
	}
	return FlowLine{Args: newWords(words)}, true
}

func isTest(word string) bool {
	switch word {
	case "less", "same", "more", "other":
		return true
	}
	return false
}

func isOperand(word string) bool {
	return isName(word) || isNumber(word)
}

func isName(word string) bool {
	for i, r := range word {
		letter := 'a' <= r && r <= 'z'
		digit := '0' <= r && r <= '9'
		if !letter && (!digit || i == 0) {
			return false
		}
	}
	return word != "" && len(word) <= FlowMaxName
}

// isNumber writes the number again, as one with a nought or a plus ahead is none.
func isNumber(word string) bool {
	n, err := strconv.Atoi(word)
	return err == nil && -FlowMaxNum <= n && n <= FlowMaxNum && strconv.Itoa(n) == word
}

func allAre[T any](items []T, is func(item T) bool) bool {
	for _, item := range items {
		if !is(item) {
			return false
		}
	}
	return true
}

func repeats(words []string) bool {
	for i, word := range words {
		if slices.Contains(words[:i], word) {
			return true
		}
	}
	return false
}

// newWords are words in memory of their own, nil if there are none.
func newWords(words []string) []string {
	return append([]string(nil), words...)
}

func copyLine(line FlowLine) FlowLine {
	line.Args = newWords(line.Args)
	return line
}

// readsBack says whether a line, written, is read as it.
func readsBack(line FlowLine) bool {
	if line.Kind < FlowHead || line.Kind > FlowNext {
		return false
	}
	if isBranch(line) && len(line.Args) != 2 {
		return false
	}
	again, ok := readLine(splitWords(writeLine(line)))
	return ok && sameLine(line, again)
}

// isBranch says whether a line is one with a test between two operands.
func isBranch(line FlowLine) bool {
	return line.Kind == FlowIf || line.Kind == FlowWhile
}

// writeLine writes a line of a kind that is there, of FlowIf and FlowWhile with two of Args.
func writeLine(line FlowLine) string {
	words := []string{wordOf(line.Kind)}
	if isBranch(line) {
		words = append(words, line.Args[0], line.Name, line.Args[1])
		return strings.Join(words, " ")
	}
	words = addFilled(words, line.To, line.Name)
	if line.Kind == FlowGet && len(line.Args) > 0 {
		words = append(words, forWord)
	}
	words = append(words, line.Args...)
	return strings.Join(addUndo(words, line.Undo), " ")
}

// addFilled adds those of more that are not empty.
func addFilled(words []string, more ...string) []string {
	for _, word := range more {
		if word != "" {
			words = append(words, word)
		}
	}
	return words
}

func addUndo(words []string, undo string) []string {
	if undo == "" {
		return words
	}
	return append(words, undoWord, undo)
}

func sameLine(a, b FlowLine) bool {
	return a.Kind == b.Kind && a.To == b.To && a.Name == b.Name && a.Undo == b.Undo && slices.Equal(a.Args, b.Args)
}
