package tests

import (
	"cmp"
	"iter"
	"reflect"
	"slices"
	"strconv"
	"testing"

	"loop.example/dunserv/impl"
)

// A model of runs, worked out another way: a thread is a coroutine that goes through lines, block by block, and knows no steps.

// unwinds is raised within a coroutine whose run goes on without it.
type unwinds struct{}

type modelThread struct {
	impl.RunThread
	run    *modelRun
	line   impl.FlowLine
	cost   int  // what the step counts for that it is about to do
	joins  bool // it waits for the other part
	yield  func(struct{}) bool
	resume func() (struct{}, bool)
	stop   func()
}

type modelRun struct {
	lines   []impl.FlowLine
	ways    *ways
	ahead   []int
	patches []string
	live    bool
	vars    map[string]int
	marks   map[string]int
	threads []*modelThread
	gone    []*modelThread
	rest    impl.RunState // all but Vars, Marks and Threads
}

func newModelRun(lines []impl.FlowLine, args []int, patches []string, live bool) *modelRun {
	m := &modelRun{lines: lines, ways: &ways{lines: lines}, ahead: stepsAhead(lines), patches: patches, live: live, vars: map[string]int{}, marks: map[string]int{}}
	for i, name := range lines[0].Args {
		m.vars[name] = args[i]
	}
	m.rest.Next = 1
	m.spawn("", 0, func(t *modelThread) { t.block(1, len(lines)) })
	m.goOn()
	return m
}

// spawn adds a thread, which is about to do its first step.
func (m *modelRun) spawn(path string, made int, through func(t *modelThread)) {
	t := &modelThread{RunThread: impl.RunThread{Path: path, Made: made}, run: m}
	m.threads = append(m.threads, t)
	slices.SortFunc(m.threads, func(a, b *modelThread) int { return cmp.Compare(a.Path, b.Path) })
	t.resume, t.stop = iter.Pull(func(yield func(struct{}) bool) {
		defer func() {
			if raised := recover(); raised != nil && raised != (unwinds{}) {
				panic(raised)
			}
		}()
		t.yield = yield
		through(t)
	})
	t.resume()
}

// pause gives back the turn.
func (t *modelThread) pause() {
	if !slices.Contains(t.run.threads, t) || !t.yield(struct{}{}) {
		panic(unwinds{})
	}
}

func (t *modelThread) about(at, cost int) {
	t.At, t.cost = at, cost
	t.pause()
}

func (t *modelThread) park(wait int) {
	t.Wait = wait
	t.pause()
}

func (m *modelRun) wake(t *modelThread) {
	t.Wait, t.Ask = impl.WaitNone, 0
	t.resume()
}

func (m *modelRun) goOn() {
	for done := 0; ; {
		i := slices.IndexFunc(m.threads, func(t *modelThread) bool { return t.Wait == impl.WaitNone })
		if i < 0 {
			break
		}
		if done >= impl.RunMaxSteps {
			m.end(impl.RunBusy)
			break
		}
		done += m.threads[i].cost
		m.threads[i].resume()
	}
	for _, t := range m.gone {
		t.stop()
	}
	m.gone = nil
}

func (m *modelRun) drop() {
	m.gone = append(m.gone, m.threads...)
	m.threads, m.rest.Asks = nil, nil
}

func (m *modelRun) stand(stands, result int, args []int) {
	m.drop()
	m.rest.Stands, m.rest.Result, m.rest.Args, m.rest.Ending = stands, result, args, false
}

func (m *modelRun) end(num int) {
	m.drop()
	m.rest.Ending, m.rest.Result = true, num
	m.undo()
}

func (m *modelRun) undo() {
	n := len(m.rest.Undo)
	if n == 0 {
		stands := impl.RunFailed
		if m.rest.Result == impl.RunCancel {
			stands = impl.RunStopped
		}
		m.stand(stands, m.rest.Result, nil)
		return
	}
	last := m.rest.Undo[n-1]
	m.rest.Undo = m.rest.Undo[:n-1]
	m.ask(last.Key+"-", last.Name, last.Args)
}

// ask answers 0 if the run has no Id for it.
func (m *modelRun) ask(key, name string, args []int) int {
	id := m.rest.Next
	if id > impl.RunMaxId {
		m.stand(impl.RunFailed, impl.RunBusy, nil)
		return 0
	}
	m.rest.Next++
	m.rest.Asks = append(m.rest.Asks, impl.RunAsk{Id: id, Key: key, Name: name, Args: slices.Clone(args)})
	return id
}

func (t *modelThread) ask(name string, wait int) {
	key := strconv.Itoa(t.Made)
	if t.Path != "" {
		key = t.Path + "." + key
	}
	t.Ask = t.run.ask(key, name, t.run.nums(t.line.Args))
	t.Made++
	t.park(wait)
}

func (m *modelRun) num(operand string) int {
	if n, err := strconv.Atoi(operand); err == nil {
		return n
	}
	return m.vars[operand]
}

func (m *modelRun) nums(operands []string) []int {
	var list []int
	for _, operand := range operands {
		list = append(list, m.num(operand))
	}
	return list
}

func (m *modelRun) give(name string, num int) {
	if num*num > impl.FlowMaxNum*impl.FlowMaxNum {
		m.end(impl.RunBad)
		return
	}
	m.vars[name] = num
}

func (t *modelThread) block(from, to int) {
	for i := from; i < to; i++ {
		t.line = t.run.lines[i]
		switch t.line.Kind {
		case impl.FlowIf, impl.FlowPatch, impl.FlowWhile, impl.FlowBoth:
			turn, end := t.run.ways.parts(i)
			t.inner(i, turn, end)
			i = end
		default:
			t.about(t.run.ahead[i], 1)
			t.do()
		}
	}
}

func (t *modelThread) do() {
	m, line := t.run, t.line
	nums := m.nums(line.Args)
	switch line.Kind {
	case impl.FlowLet:
		num := nums[0]
		switch line.Name {
		case "add":
			num += nums[1]
		case "sub":
			num -= nums[1]
		case "mul":
			num *= nums[1]
		}
		m.give(line.To, num)
	case impl.FlowDo:
		t.ask(line.Name, impl.WaitDo)
	case impl.FlowSleep:
		t.ask("", impl.WaitSleep)
	case impl.FlowGet:
		t.get()
	case impl.FlowReturn:
		m.stand(impl.RunDone, nums[0], nil)
	case impl.FlowFail:
		m.end(nums[0])
	case impl.FlowNext:
		m.stand(impl.RunAnew, 0, nums)
	}
}

func (t *modelThread) get() {
	m := t.run
	for i, signal := range m.rest.Box {
		if signal.Name == t.line.Name {
			m.rest.Box = slices.Concat(m.rest.Box[:i], m.rest.Box[i+1:])
			m.give(t.line.To, signal.Num)
			return
		}
	}
	if len(t.line.Args) > 0 {
		t.ask("", impl.WaitGet)
	} else {
		t.park(impl.WaitGet)
	}
}

// inner goes through the block that a line opens.
func (t *modelThread) inner(open, turn, end int) {
	m, line := t.run, t.line
	at := m.ahead[open]
	switch line.Kind {
	case impl.FlowWhile:
		for t.about(at, 1); m.isSo(line); t.about(at, 1) {
			t.block(open+1, end)
			t.about(m.ahead[end], 0)
		}
	case impl.FlowBoth:
		t.about(at, 1)
		t.fork(open, turn, end)
	default:
		cost, so := 1, m.isSo
		if line.Kind == impl.FlowPatch {
			cost, so = 0, m.isThere
		}
		t.about(at, cost)
		middle := max(turn, end*(1-min(turn, 1)))
		if !so(line) {
			t.block(middle+1, end)
			return
		}
		t.block(open+1, middle)
		if middle < end {
			t.about(m.ahead[middle], 0)
		}
	}
}

func (m *modelRun) isSo(line impl.FlowLine) bool {
	a, b := m.num(line.Args[0]), m.num(line.Args[1])
	return map[string]bool{"less": a < b, "same": a == b, "more": a > b, "other": a != b}[line.Name]
}

func (m *modelRun) isThere(line impl.FlowLine) bool {
	if _, known := m.marks[line.Name]; !known {
		m.marks[line.Name] = 0
		if m.live || slices.Contains(m.patches, line.Name) {
			m.marks[line.Name] = 1
		}
	}
	return m.marks[line.Name] == 1
}

func (t *modelThread) fork(open, turn, end int) {
	m := t.run
	if len(m.threads)+2 > impl.RunMaxThreads {
		m.end(impl.RunBusy)
		return
	}
	for i, part := range [][2]int{{open + 1, turn}, {turn + 1, end}} {
		m.spawn(t.Path+strconv.Itoa(i), t.Made, func(child *modelThread) {
			child.block(part[0], part[1])
			child.about(m.ahead[part[1]], 1)
			child.join()
		})
	}
	t.park(impl.WaitJoin)
}

func (m *modelRun) thread(path string) *modelThread {
	i := slices.IndexFunc(m.threads, func(t *modelThread) bool { return t.Path == path })
	return m.threads[i]
}

func (t *modelThread) join() {
	m := t.run
	above := t.Path[:len(t.Path)-1]
	one, other := m.thread(above+"0"), m.thread(above+"1")
	t.joins = true
	if !one.joins || !other.joins {
		t.park(impl.WaitJoin)
	}
	m.threads = slices.DeleteFunc(m.threads, func(t *modelThread) bool { return t == one || t == other })
	m.gone = append(m.gone, one, other)
	parent := m.thread(above)
	parent.Made = max(one.Made, other.Made)
	m.wake(parent)
}

// state is how far the model has come.
func (m *modelRun) state() impl.RunState {
	s := m.rest
	s.Vars, s.Marks, s.Threads = sortedVars(m.vars), sortedVars(m.marks), nil
	for _, t := range m.threads {
		s.Threads = append(s.Threads, t.RunThread)
	}
	return cloneState(s)
}

func sortedVars(from map[string]int) []impl.RunVar {
	var list []impl.RunVar
	for name, num := range from {
		list = append(list, impl.RunVar{Name: name, Num: num})
	}
	slices.SortFunc(list, func(a, b impl.RunVar) int { return cmp.Compare(a.Name, b.Name) })
	return list
}

// load takes over a state made by hand, in which threads are where they were.
func (m *modelRun) load(s impl.RunState) {
	s = cloneState(s)
	m.rest, m.vars, m.marks = s, map[string]int{}, map[string]int{}
	for _, v := range s.Vars {
		m.vars[v.Name] = v.Num
	}
	for _, v := range s.Marks {
		m.marks[v.Name] = v.Num
	}
	for i, t := range m.threads {
		t.RunThread = s.Threads[i]
	}
}

func (m *modelRun) codeOf(h impl.RunHap) int {
	named, timed := false, false
	for _, ask := range m.rest.Asks {
		named = named || ask.Id == h.Id && ask.Name != ""
		timed = timed || ask.Id == h.Id && ask.Name == ""
	}
	far := h.Num < -9999 || h.Num > 9999
	if m.rest.Stands != impl.RunLive {
		return 2
	}
	switch h.Kind {
	case impl.HapDone, impl.HapBroke:
		if !named {
			return 3
		} else if far {
			return 5
		}
	case impl.HapFired:
		if !timed {
			return 3
		}
	case impl.HapSignal:
		if far || !nameForm.MatchString(h.Name) {
			return 5
		} else if len(m.rest.Box) >= 20 {
			return 4
		}
	case impl.HapCancel:
	default:
		return 5
	}
	return 0
}

func (m *modelRun) happen(h impl.RunHap) int {
	if code := m.codeOf(h); code != 0 {
		return code
	}
	switch {
	case h.Kind == impl.HapSignal:
		m.signal(h)
	case m.rest.Ending && h.Kind != impl.HapCancel:
		m.rest.Asks = nil
		m.undo()
	case h.Kind == impl.HapCancel && !m.rest.Ending:
		m.end(impl.RunCancel)
	case h.Kind == impl.HapBroke:
		m.end(h.Num)
	case h.Kind == impl.HapDone || h.Kind == impl.HapFired:
		i := slices.IndexFunc(m.threads, func(t *modelThread) bool { return t.Ask == h.Id })
		m.answer(m.threads[i], h)
	}
	m.goOn()
	return 0
}

func (m *modelRun) signal(h impl.RunHap) {
	for _, t := range m.threads {
		if t.Wait == impl.WaitGet && t.line.Name == h.Name {
			m.answer(t, h)
			return
		}
	}
	m.rest.Box = append(m.rest.Box, impl.RunVar{Name: h.Name, Num: h.Num})
}

func (m *modelRun) answer(t *modelThread, h impl.RunHap) {
	var asked impl.RunAsk
	m.rest.Asks = slices.DeleteFunc(m.rest.Asks, func(ask impl.RunAsk) bool {
		if ask.Id == t.Ask {
			asked = ask
		}
		return ask.Id == t.Ask
	})
	if h.Kind == impl.HapFired {
		h.Num = -1
	}
	if t.line.Undo != "" && len(m.rest.Undo) == impl.RunMaxUndo {
		m.end(impl.RunBusy)
		return
	}
	if t.line.Undo != "" {
		m.rest.Undo = append(m.rest.Undo, impl.RunAsk{Id: asked.Id, Key: asked.Key, Name: t.line.Undo, Args: []int{h.Num}})
	}
	if t.line.To != "" {
		m.vars[t.line.To] = h.Num
	}
	m.wake(t)
}

// finish stops all coroutines.
func (m *modelRun) finish() {
	m.drop()
	m.goOn()
}

// runsAsModel goes on with a run and its model for so many things that happen, some of which may not; edits change the state by hand.
func runsAsModel(t *testing.T, m *maker, lines []impl.FlowLine, many int, edits bool) (impl.RunState, int) {
	t.Helper()
	args, patches, live := m.numsFor(lines), m.patches(), m.Intn(2) == 0
	model := newModelRun(lines, args, patches, live)
	defer model.finish()
	s, ok := impl.RunStart(lines, args, patches, live)
	if !ok || !sameState(s, model.state()) {
		t.Fatalf("%s\nstarted with %v %v %v: %+v, not %+v", impl.FlowPrint(lines), args, patches, live, s, model.state())
	}
	happened := 0
	for range many {
		if edits && m.Intn(4) == 0 {
			s = m.edited(s)
			model.load(s)
		}
		if !impl.RunOk(lines, s) {
			t.Fatalf("%s\n%+v is not ok", impl.FlowPrint(lines), s)
		}
		h := m.hap(s)
		if m.Intn(4) == 0 {
			h = m.anyHap(s)
		}
		next, code := impl.RunDo(lines, s, h, patches, live)
		if want := model.happen(h); code != want || !sameState(next, model.state()) {
			t.Fatalf("%s\n%+v, then %+v: %d %+v, not %d %+v", impl.FlowPrint(lines), s, h, code, next, want, model.state())
		}
		if code == 0 {
			happened++
		}
		s = next
	}
	return s, happened
}

func TestRunsAsTheModel(t *testing.T) {
	t.Parallel()
	stands, happened := map[int]int{}, 0
	for seed := range int64(12000) {
		m := newMaker(seed)
		lines := m.runFlow(4 + m.Intn(26))
		s, many := runsAsModel(t, m, lines, 4+m.Intn(30), seed%2 == 0)
		stands[s.Stands]++
		happened += many
	}
	for _, how := range []int{impl.RunLive, impl.RunDone, impl.RunFailed, impl.RunAnew, impl.RunStopped} {
		if stands[how] < 300 {
			t.Errorf("how runs stand: %v", stands)
		}
	}
	if happened < 20000 {
		t.Errorf("just %d things happened", happened)
	}
}

// edited is a state changed by hand, that is ok as it was; threads are where they were.
func (m *maker) edited(s impl.RunState) impl.RunState {
	s = cloneState(s)
	for range 1 + m.Intn(2) {
		switch m.Intn(8) {
		case 0:
			s.Next = max(s.Next, []int{0, min(s.Next+7, 10000), 9998, 9999, 10000}[m.Intn(5)])
		case 1:
			if len(s.Vars) > 0 {
				i := m.Intn(len(s.Vars))
				s.Vars = slices.Delete(s.Vars, i, i+1)
			}
		case 2:
			if s.Next > 1 && len(s.Undo) < impl.RunMaxUndo {
				entry := impl.RunAsk{Id: 1 + m.Intn(s.Next-1), Key: m.of("1", "-", ".", "01.2345678901234567890-1"[:23]), Name: m.of("a", "unpay"), Args: []int{m.num()}}
				s.Undo = slices.Repeat([]impl.RunAsk{entry}, []int{1, 2, 39, 40}[m.Intn(4)])
			}
		case 3:
			s.Box = nil
			for range []int{0, 1, 3, 19, 20}[m.Intn(5)] {
				s.Box = append(s.Box, m.signal())
			}
		case 4:
			for i := range s.Threads {
				s.Threads[i].Made = m.Intn(s.Next)
			}
		case 5:
			for i := range s.Asks {
				s.Asks[i].Key = m.of("9", "0.0", "00000000000000000000000", "-.-")
				for j := range s.Asks[i].Args {
					s.Asks[i].Args[j] = m.num()
				}
			}
		case 6:
			s.Marks = nil
			for _, name := range []string{"p", "q", "r"} {
				if m.Intn(2) == 0 {
					s.Marks = append(s.Marks, impl.RunVar{Name: name, Num: m.Intn(2)})
				}
			}
		case 7:
			if s.Ending {
				s.Result = []int{m.num(), impl.RunCancel}[m.Intn(2)]
			}
		}
	}
	return cloneState(s)
}

// sameState holds states against each other; the empty list and nil are the same.
func sameState(a, b impl.RunState) bool {
	return reflect.DeepEqual(cloneState(a), cloneState(b))
}

// cloneState is a copy in memory of its own, nil for each empty list.
func cloneState(s impl.RunState) impl.RunState {
	s.Vars = append([]impl.RunVar(nil), s.Vars...)
	s.Threads = append([]impl.RunThread(nil), s.Threads...)
	s.Asks = cloneAsks(s.Asks)
	s.Undo = cloneAsks(s.Undo)
	s.Box = append([]impl.RunVar(nil), s.Box...)
	s.Marks = append([]impl.RunVar(nil), s.Marks...)
	s.Args = append([]int(nil), s.Args...)
	return s
}

func cloneAsks(asks []impl.RunAsk) []impl.RunAsk {
	var list []impl.RunAsk
	for _, ask := range asks {
		ask.Args = append([]int(nil), ask.Args...)
		list = append(list, ask)
	}
	return list
}
