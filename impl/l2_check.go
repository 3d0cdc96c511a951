package impl

import (
	"errors"
	"slices"
	"strconv"
)

// Faults of workflows.
const (
	FlowBadLine  = 1
	FlowUneven   = 2
	FlowTooDeep  = 3
	FlowUnknown  = 4
	FlowTwice    = 5
	FlowNoReturn = 6
	FlowDead     = 7
	FlowTooLong  = 8
)

// lineError is a fault on its way out of the blocks in which it was found.
type lineError struct {
	fault FlowFault
}

func (e lineError) Error() string {
	return "line " + strconv.Itoa(e.fault.Line) + " has fault " + strconv.Itoa(e.fault.Code)
}

// withinError is an error within a part of what is looked at: which one, and the place where that begins.
type withinError struct {
	part  string
	place int
	err   error
}

func (e withinError) Error() string {
	return "in " + e.part + " " + strconv.Itoa(e.place) + ": " + e.err.Error()
}

func (e withinError) Unwrap() error {
	return e.err
}

// FlowCheck says what is wrong with lines first, each counted from 1 on.
func FlowCheck(lines []FlowLine) FlowFault {
	if len(lines) > FlowMaxLines {
		return FlowFault{Code: FlowTooLong}
	}
	err := checkStanding(lines)
	if err == nil {
		err = checkComing(lines)
	}
	var wrong lineError
	if errors.As(err, &wrong) {
		return wrong.fault
	}
	return FlowFault{}
}

// openBlock is a block that has no end yet, and whether its FlowElse or FlowAnd was there.
type openBlock struct {
	kind   int
	turned bool
}

// checkStanding says whether each line is one, and stands where it may.
func checkStanding(lines []FlowLine) error {
	if len(lines) == 0 {
		return lineError{FlowFault{Code: FlowUneven}}
	}
	var open []openBlock
	for i, line := range lines {
		deep := len(open)
		var fits bool
		open, fits = standLine(open, line.Kind, i == 0)
		left := i == len(lines)-1 && len(open) > 0
		switch {
		case !readsBack(line):
			return lineError{FlowFault{Line: i + 1, Code: FlowBadLine}}
		case !fits || left:
			return lineError{FlowFault{Line: i + 1, Code: FlowUneven}}
		case opens(line.Kind) && deep >= FlowMaxDeep:
			return lineError{FlowFault{Line: i + 1, Code: FlowTooDeep}}
		}
	}
	return nil
}

// standLine tells which blocks are open behind a line, and whether it may stand there.
func standLine(open []openBlock, kind int, first bool) ([]openBlock, bool) {
	if (kind == FlowHead) != first {
		return open, false
	}
	if opens(kind) {
		return append(open, openBlock{kind: kind}), true
	}
	if !closes(kind) {
		return open, true
	}
	if len(open) == 0 {
		return open, false
	}
	inner := &open[len(open)-1]
	switch kind {
	case FlowElse:
		fits := isChoice(inner.kind) && !inner.turned
		inner.turned = true
		return open, fits
	case FlowAnd:
		fits := inner.kind == FlowBoth && !inner.turned
		inner.turned = true
		return open, fits
	}
	return open[:len(open)-1], inner.kind != FlowBoth || inner.turned
}

func opens(kind int) bool {
	return isChoice(kind) || kind == FlowWhile || kind == FlowBoth
}

func isChoice(kind int) bool {
	return kind == FlowIf || kind == FlowPatch
}

// closes says whether a line of this kind ends a part of a block.
func closes(kind int) bool {
	return kind == FlowElse || kind == FlowAnd || kind == FlowEnd
}

// leaves says whether no one comes behind a line of this kind.
func leaves(kind int) bool {
	return kind == FlowReturn || kind == FlowFail || kind == FlowNext
}

// trail is a set that keeps the order in which things came, so that the last ones can be taken back.
type trail[T comparable] struct {
	items []T
}

func (t *trail[T]) has(item T) bool {
	return slices.Contains(t.items, item)
}

func (t *trail[T]) add(items ...T) {
	for _, item := range items {
		if !t.has(item) {
			t.items = append(t.items, item)
		}
	}
}

func (t *trail[T]) size() int {
	return len(t.items)
}

// since is a copy of what came behind the first ones.
func (t *trail[T]) since(size int) []T {
	return slices.Clone(t.items[size:])
}

func (t *trail[T]) undo(size int) {
	t.items = t.items[:size]
}

// common are the items of one list that the other one has, too.
func common[T comparable](one, other []T) []T {
	var items []T
	for _, item := range one {
		if slices.Contains(other, item) {
			items = append(items, item)
		}
	}
	return items
}

// walk goes through lines that stand well, block by block.
type walk struct {
	lines []FlowLine
	at    int           // the place of the line that is looked at
	known trail[string] // the names that have a number ahead of it
	boths int           // in how many FlowBoth it is
}

// part is what lines come to: the names that they give a number, and whether one comes behind them.
type part struct {
	gained []string
	comes  bool
}

// checkComing says whether names have numbers where they are used, and whether one can come to each line.
func checkComing(lines []FlowLine) error {
	w := &walk{lines: lines, at: 1}
	w.known.add(lines[0].Args...)
	all, err := w.block()
	if err == nil && all.comes {
		err = lineError{FlowFault{Line: len(lines), Code: FlowNoReturn}}
	}
	return err
}

// block walks up to the line that ends the part of a block; what became known is taken back behind it.
func (w *walk) block() (part, error) {
	ahead := w.known.size()
	defer w.known.undo(ahead)
	comes := true
	for w.at < len(w.lines) && !closes(w.lines[w.at].Kind) {
		if err := w.checkLine(comes); err != nil {
			return part{}, err
		}
		done, err := w.line()
		if err != nil {
			return part{}, err
		}
		w.known.add(done.gained...)
		comes = done.comes
	}
	return part{w.known.since(ahead), comes}, nil
}

// checkLine says what is wrong with a line where it stands, its block left aside.
func (w *walk) checkLine(comes bool) error {
	line := w.lines[w.at]
	switch {
	case !comes:
		return w.wrong(FlowDead)
	case !allAre(line.Args, w.hasNumber):
		return w.wrong(FlowUnknown)
	case leaves(line.Kind) && w.boths > 0:
		return w.wrong(FlowUneven)
	}
	return nil
}

func (w *walk) wrong(code int) error {
	return lineError{FlowFault{Line: w.at + 1, Code: code}}
}

func (w *walk) hasNumber(operand string) bool {
	return isNumber(operand) || w.known.has(operand)
}

// line walks over a line, with its block if it opens one.
func (w *walk) line() (part, error) {
	line := w.lines[w.at]
	switch {
	case isChoice(line.Kind):
		return w.choice()
	case line.Kind == FlowWhile:
		return w.loop()
	case line.Kind == FlowBoth:
		return w.fork()
	}
	w.at++
	done := part{comes: !leaves(line.Kind)}
	if line.To != "" {
		done.gained = []string{line.To}
	}
	return done, nil
}

// inner walks over the line that begins the part of a block, and the part.
func (w *walk) inner() (part, error) {
	w.at++
	first := w.at
	done, err := w.block()
	if err != nil {
		return part{}, withinError{"the block of line", first, err}
	}
	return done, nil
}

func (w *walk) choice() (part, error) {
	one, err := w.inner()
	if err != nil {
		return part{}, err
	}
	other := part{comes: true}
	if w.lines[w.at].Kind == FlowElse {
		other, err = w.inner()
		if err != nil {
			return part{}, err
		}
	}
	w.at++
	switch {
	case !one.comes:
		return other, nil
	case !other.comes:
		return one, nil
	}
	return part{common(one.gained, other.gained), true}, nil
}

func (w *walk) loop() (part, error) {
	if _, err := w.inner(); err != nil {
		return part{}, err
	}
	w.at++
	return part{comes: true}, nil
}

func (w *walk) fork() (part, error) {
	w.boths++
	defer func() { w.boths-- }()
	begin := w.at
	one, err := w.inner()
	if err != nil {
		return part{}, err
	}
	turn := w.at
	other, err := w.inner()
	if err != nil {
		return part{}, err
	}
	if clash(w.lines[begin+1:turn], w.lines[turn+1:w.at]) {
		return part{}, lineError{FlowFault{Line: turn + 1, Code: FlowTwice}}
	}
	w.at++
	return part{append(one.gained, other.gained...), true}, nil
}

// clash says whether two parts that go on at once are in each other's way.
func clash(one, other []FlowLine) bool {
	for _, a := range one {
		for _, b := range other {
			if meddles(a, b) || meddles(b, a) || sameSignal(a, b) {
				return true
			}
		}
	}
	return false
}

// meddles says whether a line gives a number to a name that the other one gives one, or uses.
func meddles(line, other FlowLine) bool {
	return line.To != "" && (line.To == other.To || slices.Contains(other.Args, line.To))
}

func sameSignal(a, b FlowLine) bool {
	return a.Kind == FlowGet && b.Kind == FlowGet && a.Name == b.Name
}
