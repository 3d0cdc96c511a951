package tests

import (
	"cmp"
	"math"
	"reflect"
	"regexp"
	"slices"
	"strconv"
	"strings"
	"testing"

	"loop.example/dunserv/impl"
)

// A model of RunOk, worked out another way: the path of a thread is that of all parts in which its line is, from the outermost on.

var (
	nameForm = regexp.MustCompile(`^[a-z][a-z0-9]{0,7}$`)
	keyForm  = regexp.MustCompile(`^[0-9.-]{1,23}$`)
	longForm = regexp.MustCompile(`^[0-9.-]{1,24}$`)
	pathForm = regexp.MustCompile(`^[01]{0,5}$`)
)

// chains tells, for each step, the forks in whose parts it is, each with the side of the part.
func chains(lines []impl.FlowLine) [][]forkSide {
	var list [][]forkSide
	var open []*forkSide
	ahead := stepsAhead(lines)
	for i, line := range lines {
		switch line.Kind {
		case impl.FlowBoth:
			list = append(list, forksOf(open))
			open = append(open, &forkSide{ahead[i], "0"})
			continue
		case impl.FlowAnd:
			list = append(list, forksOf(open))
			open[len(open)-1] = &forkSide{open[len(open)-1].fork, "1"}
			continue
		}
		for range ahead[i+1] - ahead[i] {
			list = append(list, forksOf(open))
		}
		switch line.Kind {
		case impl.FlowIf, impl.FlowPatch, impl.FlowWhile:
			open = append(open, nil)
		case impl.FlowEnd:
			open = open[:len(open)-1]
		}
	}
	return list
}

type forkSide struct {
	fork int
	side string
}

func forksOf(open []*forkSide) []forkSide {
	var list []forkSide
	for _, one := range open {
		if one != nil {
			list = append(list, *one)
		}
	}
	return list
}

func near(nums ...int) bool {
	for _, num := range nums {
		if num < -9999 || num > 9999 {
			return false
		}
	}
	return true
}

func isSet(list []impl.RunVar) bool {
	names := map[string]int{}
	for _, v := range list {
		names[v.Name]++
	}
	inOrder := slices.IsSortedFunc(list, func(a, b impl.RunVar) int { return cmp.Compare(a.Name, b.Name) })
	return isList(list) && inOrder && len(names) == len(list)
}

func isList(list []impl.RunVar) bool {
	return !slices.ContainsFunc(list, func(v impl.RunVar) bool { return !nameForm.MatchString(v.Name) || !near(v.Num) })
}

func modelOk(lines []impl.FlowLine, s impl.RunState) bool {
	if impl.FlowCheck(lines).Code != 0 || !isSet(s.Vars) || !isSet(s.Marks) || !isList(s.Box) || len(s.Box) > 20 || !near(s.Result) || !near(s.Args...) || len(s.Args) > 3 {
		return false
	}
	if slices.ContainsFunc(s.Marks, func(v impl.RunVar) bool { return v.Num*v.Num != v.Num }) || s.Next < 1 || s.Next > 10000 || len(s.Undo) > 40 {
		return false
	}
	last := 0
	for _, ask := range s.Asks {
		form := map[bool]*regexp.Regexp{false: keyForm, true: longForm}[s.Ending]
		if ask.Id <= last || ask.Id >= s.Next || !form.MatchString(ask.Key) || !near(ask.Args...) || len(ask.Args) > 3 || !nameForm.MatchString(ask.Name) && ask.Name != "" {
			return false
		}
		last = ask.Id
	}
	for _, ask := range s.Undo {
		if ask.Id <= 0 || ask.Id >= s.Next || !keyForm.MatchString(ask.Key) || !near(ask.Args...) || len(ask.Args) != 1 || !nameForm.MatchString(ask.Name) {
			return false
		}
	}
	threads, asks, args := len(s.Threads), len(s.Asks), len(s.Args)
	switch s.Stands {
	case impl.RunDone, impl.RunFailed, impl.RunStopped:
		return threads+asks+args == 0 && !s.Ending
	case impl.RunAnew:
		return threads+asks == 0 && !s.Ending
	case impl.RunLive:
		if s.Ending {
			return threads+args == 0 && asks == 1 && s.Asks[0].Name != ""
		}
		return args == 0 && s.Result == 0 && modelThreadsOk(lines, s)
	}
	return false
}

func modelThreadsOk(lines []impl.FlowLine, s impl.RunState) bool {
	steps, all := modelSteps(lines), chains(lines)
	byPath, byAsk := map[string]impl.RunThread{}, map[int]int{}
	if len(s.Threads) < 1 || len(s.Threads) > 16 {
		return false
	}
	for i, thread := range s.Threads {
		if i > 0 && s.Threads[i-1].Path >= thread.Path || !pathForm.MatchString(thread.Path) || thread.Made < 0 || thread.Made >= s.Next {
			return false
		}
		if thread.At < 0 || thread.At >= len(steps) || !modelWaits(s, thread, steps[thread.At]) {
			return false
		}
		byPath[thread.Path] = thread
		byAsk[thread.Ask]++
	}
	for _, ask := range s.Asks {
		if byAsk[ask.Id] != 1 {
			return false
		}
	}
	for path, thread := range byPath {
		told := ""
		for _, one := range all[thread.At] {
			above, there := byPath[told]
			_, first := byPath[told+"0"]
			_, second := byPath[told+"1"]
			if !there || above.At != one.fork || above.Wait != impl.WaitJoin || !first || !second {
				return false
			}
			told += one.side
		}
		if told != path {
			return false
		}
		one, other := byPath[path+"0"], byPath[path+"1"]
		if forks := steps[thread.At].Code == impl.StepFork; forks && (one.Wait == 0 || other.Wait == 0) {
			return false
		}
		if isJoining(steps, one) && isJoining(steps, other) {
			return false
		}
	}
	return true
}

func isJoining(steps []impl.FlowStep, thread impl.RunThread) bool {
	return thread.Wait == impl.WaitJoin && steps[thread.At].Code == impl.StepJoin
}

// modelWaits holds what a thread waits for against what its step may wait for, in words.
func modelWaits(s impl.RunState, thread impl.RunThread, step impl.FlowStep) bool {
	asked := "none"
	for _, ask := range s.Asks {
		if ask.Id == thread.Ask {
			asked = ask.Name + "/" + strconv.Itoa(len(ask.Args))
		}
	}
	if thread.Ask == 0 {
		asked = "0"
	}
	told := strings.Join([]string{strconv.Itoa(step.Code), strconv.Itoa(thread.Wait), asked}, " ")
	var may []string
	switch step.Code {
	case impl.StepDo:
		may = []string{"2 1 " + step.Name + "/" + strconv.Itoa(len(step.Args))}
	case impl.StepSleep:
		may = []string{"3 2 /1"}
	case impl.StepGet:
		may = []string{[]string{"4 3 0", "4 3 /1"}[len(step.Args)]}
	case impl.StepFork, impl.StepJoin:
		may = []string{"8 4 0", "9 4 0"}
	}
	return slices.Contains(may, told)
}

// handState makes a state by hand that is ok, live and not ending: who is where a thread may wait, whether one comes there so or not.
func (m *maker) handState(lines []impl.FlowLine) (impl.RunState, bool) {
	h := &hands{maker: m, steps: modelSteps(lines), all: chains(lines)}
	h.s.Next = []int{1000, 10000, 9999, 200}[m.Intn(4)]
	if !h.place("", nil) || len(h.s.Threads) > impl.RunMaxThreads {
		return impl.RunState{}, false
	}
	ids := m.Perm(h.s.Next - 1)[:len(h.s.Asks)]
	slices.Sort(ids)
	for i, at := range m.Perm(len(ids)) {
		h.s.Asks[i].Id = ids[at] + 1
	}
	for i := range h.s.Threads {
		if n := h.s.Threads[i].Ask; n > 0 {
			h.s.Threads[i].Ask = h.s.Asks[n-1].Id
		}
	}
	slices.SortFunc(h.s.Asks, func(a, b impl.RunAsk) int { return a.Id - b.Id })
	slices.SortFunc(h.s.Threads, func(a, b impl.RunThread) int { return cmp.Compare(a.Path, b.Path) })
	for _, name := range []string{"a", "b", "n", "zz9"} {
		if m.Intn(2) == 0 {
			h.s.Vars = append(h.s.Vars, impl.RunVar{Name: name, Num: m.num()})
		}
	}
	h.s = m.edited(h.s)
	return h.s, true
}

type hands struct {
	*maker
	steps []impl.FlowStep
	all   [][]forkSide
	s     impl.RunState
}

// place puts a thread somewhere into a part, and, at a fork, those of its parts.
func (h *hands) place(path string, chain []forkSide) bool {
	var may []int
	for at, step := range h.steps {
		waits := step.Code == impl.StepDo || step.Code == impl.StepSleep || step.Code == impl.StepGet || step.Code == impl.StepFork || step.Code == impl.StepJoin
		if waits && slices.Equal(h.all[at], chain) {
			may = append(may, at)
			if step.Code == impl.StepFork {
				may = append(may, at, at)
			}
		}
	}
	if len(may) == 0 {
		return false
	}
	thread := impl.RunThread{Path: path, At: may[h.Intn(len(may))], Made: h.Intn(h.s.Next)}
	step := h.steps[thread.At]
	switch step.Code {
	case impl.StepDo:
		thread.Wait, thread.Ask = impl.WaitDo, h.ask(step.Name, len(step.Args))
	case impl.StepSleep:
		thread.Wait, thread.Ask = impl.WaitSleep, h.ask("", 1)
	case impl.StepGet:
		thread.Wait = impl.WaitGet
		if len(step.Args) > 0 {
			thread.Ask = h.ask("", 1)
		}
	default:
		thread.Wait = impl.WaitJoin
	}
	h.s.Threads = append(h.s.Threads, thread)
	if step.Code != impl.StepFork {
		return true
	}
	first := len(h.s.Threads)
	for _, side := range []string{"0", "1"} {
		if !h.place(path+side, append(slices.Clone(chain), forkSide{thread.At, side})) {
			return false
		}
	}
	joins := 0
	for _, one := range h.s.Threads[first:] {
		if len(one.Path) == len(path)+1 && h.steps[one.At].Code == impl.StepJoin {
			joins++
		}
	}
	return joins < 2
}

// ask answers how many asks there are then.
func (h *hands) ask(name string, many int) int {
	ask := impl.RunAsk{Key: h.of("0", "1.1", "00.0"), Name: name}
	for range many {
		ask.Args = append(ask.Args, h.num())
	}
	h.s.Asks = append(h.s.Asks, ask)
	return len(h.s.Asks)
}

// spoilState changes one number, text or list somewhere in a state.
func (m *maker) spoilState(s impl.RunState) impl.RunState {
	s = cloneState(s)
	m.spoilSomewhere(reflect.ValueOf(&s).Elem())
	return s
}

// spoilSomewhere changes one number, text or list in what is there.
func (m *maker) spoilSomewhere(at reflect.Value) {
	switch at.Kind() {
	case reflect.Struct:
		m.spoilSomewhere(at.Field(m.Intn(at.NumField())))
	case reflect.Slice:
		if n := at.Len(); n > 0 && m.Intn(4) > 0 {
			m.spoilSomewhere(at.Index(m.Intn(n)))
			return
		}
		m.spoilList(at)
	case reflect.Int:
		at.SetInt(int64([]int{int(at.Int()) + 1, int(at.Int()) - 1, m.Intn(30), -1, 0, 1, 2, 4, 9999, -9999, 10000, -10000, 10001}[m.Intn(13)]))
	case reflect.String:
		at.SetString(m.of("", "0", "1", "00", "01", "000000", at.String()+"0", at.String()+"1", "a", "go", "pay", "-", "A", "2", "0 1", "abcdefgh", "abcdefghi", strings.Repeat("1", 23), strings.Repeat("-", 24), strings.Repeat(".", 25)))
	case reflect.Bool:
		at.SetBool(!at.Bool())
	}
}

func (m *maker) spoilList(list reflect.Value) {
	n := list.Len()
	switch {
	case n == 0 || m.Intn(4) == 0:
		list.Set(reflect.Append(list, reflect.Zero(list.Type().Elem())))
	case m.Intn(3) == 0:
		list.Set(reflect.Append(list, list.Index(m.Intn(n))))
	case m.Intn(2) == 0:
		list.Set(list.Slice(0, n-1))
	default:
		swap := reflect.Swapper(list.Interface())
		swap(m.Intn(n), m.Intn(n))
	}
}

// looksAsModel holds RunOk against its model, and all that hangs on it, and lets something happen.
func looksAsModel(t *testing.T, m *maker, lines []impl.FlowLine, s impl.RunState) bool {
	t.Helper()
	ok := modelOk(lines, s)
	if impl.RunOk(lines, s) != ok {
		t.Fatalf("%s\n%s\n%+v: ok is %v", impl.FlowPrint(lines), impl.FlowShow(lines), s, !ok)
	}
	if (impl.RunBoard(lines, s) != "") != ok {
		t.Fatalf("%s\n%+v: ok is %v, board is %q", impl.FlowPrint(lines), s, ok, impl.RunBoard(lines, s))
	}
	h := m.anyHap(s)
	patches, live := m.patches(), m.Intn(2) == 0
	next, code := impl.RunDo(lines, s, h, patches, live)
	switch {
	case (code == 1) == ok:
		t.Fatalf("%s\n%+v: ok is %v, code is %d", impl.FlowPrint(lines), s, ok, code)
	case code == 1 && !sameState(next, impl.RunState{}), code > 1 && !sameState(next, s):
		t.Fatalf("%s\n%+v, then %+v: %d, but %+v", impl.FlowPrint(lines), s, h, code, next)
	case code == 0 && !modelOk(lines, next):
		t.Fatalf("%s\n%+v, then %+v: %+v", impl.FlowPrint(lines), s, h, next)
	}
	return ok
}

func TestStatesByHandAsTheModel(t *testing.T) {
	t.Parallel()
	whole, spoiled, forks := 0, map[bool]int{}, 0
	for seed := range int64(12000) {
		m := newMaker(seed)
		lines := m.runFlow(4 + m.Intn(26))
		s, ok := m.handState(lines)
		if !ok {
			continue
		}
		whole++
		if len(s.Threads) > 3 {
			forks++
		}
		if !looksAsModel(t, m, lines, s) {
			t.Fatalf("%s\n%s\n%+v is not ok", impl.FlowPrint(lines), impl.FlowShow(lines), s)
		}
		for range 12 {
			spoiled[looksAsModel(t, m, lines, m.spoilState(s))]++
		}
	}
	if whole < 4000 || forks < 300 || spoiled[true] < 5000 || spoiled[false] < 10000 {
		t.Errorf("whole: %d, with many threads: %d, spoiled: %v", whole, forks, spoiled)
	}
}

func TestStatesOfRunsAsTheModel(t *testing.T) {
	t.Parallel()
	stands, spoiled := map[int]int{}, map[bool]int{}
	for seed := range int64(4000) {
		m := newMaker(seed)
		lines := m.runFlow(4 + m.Intn(26))
		s, _ := impl.RunStart(lines, m.numsFor(lines), nil, true)
		for range m.Intn(12) {
			s, _ = impl.RunDo(lines, s, m.hap(s), nil, true)
		}
		stands[s.Stands]++
		if !looksAsModel(t, m, lines, s) {
			t.Fatalf("%s\n%+v is not ok", impl.FlowPrint(lines), s)
		}
		for range 12 {
			spoiled[looksAsModel(t, m, lines, m.spoilState(s))]++
		}
		other := m.runFlow(4 + m.Intn(26))
		looksAsModel(t, m, other, s)
		looksAsModel(t, m, m.spoil(lines), s)
	}
	for _, how := range []int{impl.RunLive, impl.RunDone, impl.RunFailed, impl.RunAnew, impl.RunStopped} {
		if stands[how] < 100 {
			t.Errorf("how runs stand: %v", stands)
		}
	}
	if spoiled[true] < 5000 || spoiled[false] < 5000 {
		t.Errorf("how often a spoiled state was ok: %v", spoiled)
	}
}

// wild fills a value with anything, near to what may be there and far from it.
func (m *maker) wild(v reflect.Value) {
	switch v.Kind() {
	case reflect.Struct:
		for i := range v.NumField() {
			m.wild(v.Field(i))
		}
	case reflect.Slice:
		many := []int{0, 0, 1, 1, 2, 3, 50}[m.Intn(7)]
		v.Set(reflect.MakeSlice(v.Type(), many, many))
		for i := range many {
			m.wild(v.Index(i))
		}
	case reflect.Int:
		v.SetInt(int64([]int{0, 0, 1, 1, 2, 3, 4, -1, 5, m.Intn(40), 9999, 10000, -9999, -10000, math.MaxInt, math.MinInt}[m.Intn(16)]))
	case reflect.String:
		v.SetString(m.of("", "", "0", "1", "01", "a", "go", "p", "pay", "\xff", "a b", strings.Repeat("0", 200), m.word()))
	case reflect.Bool:
		v.SetBool(m.Intn(2) == 0)
	}
}

// wildly is a value filled with anything.
func wildly[T any](m *maker) T {
	var value T
	m.wild(reflect.ValueOf(&value).Elem())
	return value
}

// anyLines are mostly a workflow, or one that is spoiled, or anything.
func (m *maker) anyLines() []impl.FlowLine {
	lines := m.runFlow(4 + m.Intn(26))
	switch m.Intn(4) {
	case 0:
		return m.spoil(lines)
	case 1:
		return wildly[[]impl.FlowLine](m)
	}
	return lines
}

// No function panics, whatever it is given, and what it answers is right all the same.
func TestWhateverIsGiven(t *testing.T) {
	t.Parallel()
	count := map[bool]int{}
	for seed := range int64(8000) {
		m := newMaker(seed)
		lines := m.anyLines()
		s, h := wildly[impl.RunState](m), wildly[impl.RunHap](m)
		ok := modelOk(lines, s)
		count[ok]++
		next, code := impl.RunDo(lines, s, h, wildly[[]string](m), m.Intn(2) == 0)
		if impl.RunOk(lines, s) != ok || (code == 1) == ok || code == 1 && !sameState(next, impl.RunState{}) || (impl.RunBoard(lines, s) != "") != ok {
			t.Fatalf("%+v\n%+v, then %+v: ok is %v, but %d %+v", lines, s, h, ok, code, next)
		}
		args := wildly[[]int](m)
		started, can := impl.RunStart(lines, args, wildly[[]string](m), m.Intn(2) == 0)
		played, haps := impl.RunPlay(lines, args, wildly[[]impl.RunVar](m), wildly[[]int](m), wildly[int](m))
		folded, may := impl.RunFold(lines, args, wildly[[]impl.RunHap](m))
		if can != modelOk(lines, started) || can != modelOk(lines, played) || !can && len(haps) > 0 || may != modelOk(lines, folded) {
			t.Fatalf("%+v\n%v: %v %+v %+v %+v", lines, args, can, started, played, folded)
		}
		if answer := impl.RunAnswer(wildly[impl.RunAsk](m)); answer < -2 || answer > 4 {
			t.Fatalf("an answer is %d", answer)
		}
	}
	if count[false] < 5000 {
		t.Errorf("how often a state was ok: %v", count)
	}
}
