package tests

import (
	"fmt"
	"reflect"
	"slices"
	"testing"

	"loop.example/dunserv/impl"
)

// orderFlow is the workflow of the document's example of a service.
const orderFlow = "workflow order n\ndo a pay n undo back\nget b go\ndo c mail b\nreturn c"

// anewFlow begins anew at a signal 7, by one number that is one more, and would by none at 8, and by two at 9.
const anewFlow = "workflow w n\nget a go\nif a same 7\nlet n add n 1\nnext n\nend\nif a same 8\nnext\nend\nif a same 9\nnext n n\nend\nreturn n"

// againFlow begins anew again and again.
const againFlow = "workflow w n\nboth\ndo a x n undo y\nand\nget b up for 2\nend\nlet n add n a\nnext n"

// opened is a service of these flows.
func opened(t *testing.T, shards, workers int, texts ...string) impl.ServWorld {
	t.Helper()
	var flows [][]impl.FlowLine
	for _, text := range texts {
		flows = append(flows, linesOf(t, text))
	}
	w, ok := impl.ServOpen(flows, shards, workers)
	if !ok {
		t.Fatalf("%q does not open", texts)
	}
	return w
}

// begun is a service of one flow, with a run of each name, all with these Args.
func begun(t *testing.T, shards, workers int, text string, args []int, names ...string) impl.ServWorld {
	t.Helper()
	w := opened(t, shards, workers, text)
	for _, name := range names {
		w = after(t, w, impl.ServEvent{Kind: impl.ServBegins, Name: name, Nums: args})
	}
	return w
}

// after is a world behind events that have no code.
func after(t *testing.T, w impl.ServWorld, events ...impl.ServEvent) impl.ServWorld {
	t.Helper()
	for _, e := range events {
		next, code := impl.ServDo(w, e)
		if code != 0 {
			t.Fatalf("%+v: %d\n%s", e, code, impl.ServBoard(w))
		}
		w = next
	}
	return w
}

func ticks(many int) []impl.ServEvent {
	list := make([]impl.ServEvent, many)
	for i := range list {
		list[i].Kind = impl.ServTicks
	}
	return list
}

func leases(who, shard int) impl.ServEvent {
	return impl.ServEvent{Kind: impl.ServLeases, Who: who, Id: shard}
}

func takes(who, run int) impl.ServEvent {
	return impl.ServEvent{Kind: impl.ServTakes, Who: who, Run: run}
}

func writes(who int) impl.ServEvent {
	return impl.ServEvent{Kind: impl.ServWrites, Who: who}
}

func falls(who int) impl.ServEvent {
	return impl.ServEvent{Kind: impl.ServFalls, Who: who}
}

func rises(who int) impl.ServEvent {
	return impl.ServEvent{Kind: impl.ServRises, Who: who}
}

func tries(run, id int) impl.ServEvent {
	return impl.ServEvent{Kind: impl.ServTries, Run: run, Id: id}
}

func fires(run, id int) impl.ServEvent {
	return impl.ServEvent{Kind: impl.ServFires, Run: run, Id: id}
}

func cancels(run int) impl.ServEvent {
	return impl.ServEvent{Kind: impl.ServCancels, Run: run}
}

func signals(run, token int, name string, nums ...int) impl.ServEvent {
	return impl.ServEvent{Kind: impl.ServSignals, Run: run, Id: token, Name: name, Nums: nums}
}

func deploys(flow int, lines []impl.FlowLine) impl.ServEvent {
	return impl.ServEvent{Kind: impl.ServDeploys, Id: flow, Lines: lines}
}

// clonedValue is a copy of a value that shares no memory with it.
func clonedValue(v reflect.Value) reflect.Value {
	made := reflect.New(v.Type()).Elem()
	made.Set(v)
	switch v.Kind() {
	case reflect.Struct:
		for i := range v.NumField() {
			made.Field(i).Set(clonedValue(v.Field(i)))
		}
	case reflect.Slice:
		list := reflect.MakeSlice(v.Type(), v.Len(), v.Len())
		for i := range v.Len() {
			list.Index(i).Set(clonedValue(v.Index(i)))
		}
		made.Set(list)
	}
	return made
}

func clone[T any](value T) T {
	return clonedValue(reflect.ValueOf(&value).Elem()).Interface().(T)
}

// same says whether two values are alike; the empty list and none are.
func same[T any](one, other T) bool {
	return sameValues(reflect.ValueOf(&one).Elem(), reflect.ValueOf(&other).Elem())
}

func sameValues(one, other reflect.Value) bool {
	switch one.Kind() {
	case reflect.Struct:
		for i := range one.NumField() {
			if !sameValues(one.Field(i), other.Field(i)) {
				return false
			}
		}
		return true
	case reflect.Slice:
		if one.Len() != other.Len() {
			return false
		}
		for i := range one.Len() {
			if !sameValues(one.Index(i), other.Index(i)) {
				return false
			}
		}
		return true
	}
	return one.Equal(other)
}

// service makes one that has just opened.
func (m *maker) service(t *testing.T) impl.ServWorld {
	t.Helper()
	var flows [][]impl.FlowLine
	for range 1 + m.Intn(impl.ServMaxFlows) {
		lines := m.runFlow(4 + m.Intn(22))
		if m.Intn(3) == 0 {
			lines = linesOf(t, m.of(orderFlow, anewFlow, againFlow, trip))
		}
		flows = append(flows, lines)
	}
	w, ok := impl.ServOpen(flows, 1+m.Intn(impl.ServMaxShards), 1+m.Intn(impl.ServMaxWorkers))
	if !ok {
		t.Fatalf("%+v does not open", flows)
	}
	return w
}

// served makes a service to which so many things happened.
func (m *maker) served(t *testing.T, most int) impl.ServWorld {
	t.Helper()
	w := m.service(t)
	for range most {
		next, code := impl.ServDo(w, m.event(w))
		if code == 1 {
			t.Fatalf("%+v is not ok", w)
		}
		w = next
	}
	return w
}

// place makes one of a list of so many, now and then one that is none.
func (m *maker) place(many int) int {
	if many == 0 || m.Intn(40) == 0 {
		return []int{-1, many, many + 1, 1 << 40}[m.Intn(4)]
	}
	return m.Intn(many)
}

// event makes what may happen to a service, mostly without a code.
func (m *maker) event(w impl.ServWorld) impl.ServEvent {
	who, run := m.place(len(w.Workers)), m.place(len(w.Runs))
	switch kind := m.Intn(40); {
	case kind < 4:
		return impl.ServEvent{Kind: impl.ServTicks}
	case kind < 6 || len(w.Runs) == 0:
		return m.beginning(w)
	case kind < 9:
		v := m.signal()
		return signals(run, m.Intn(60), v.Name, v.Num)
	case kind < 10:
		if m.Intn(3) == 0 {
			return cancels(run)
		}
		return falls(who)
	case kind < 15:
		return m.mostly(leasesOf(w), leases(who, m.place(len(w.Shards))))
	case kind < 22:
		return m.mostly(takesOf(w), takes(who, run))
	case kind < 29:
		return m.mostly(writesOf(w), writes(who))
	case kind < 35:
		e := m.mostly(triesOf(w), tries(run, m.Intn(4)))
		e.Lost = m.Intn(4) == 0
		return e
	case kind < 37:
		return m.mostly(firesOf(w), fires(run, m.Intn(3)))
	case kind < 39:
		return rises(who)
	}
	return m.deployment(w)
}

// mostly makes one of the events that may be, if there are any, or now and then the other one.
func (m *maker) mostly(list []impl.ServEvent, other impl.ServEvent) impl.ServEvent {
	if len(list) == 0 || m.Intn(5) == 0 {
		return other
	}
	return list[m.Intn(len(list))]
}

// leasesOf lets each who is up have each shard that nobody has.
func leasesOf(w impl.ServWorld) []impl.ServEvent {
	var list []impl.ServEvent
	for who, worker := range w.Workers {
		for shard, s := range w.Shards {
			if worker.Up && (s.Owner < 0 || w.Now > s.Until || w.Workers[s.Owner].Terms[shard] < s.Term) {
				list = append(list, leases(who, shard))
			}
		}
	}
	return list
}

func takesOf(w impl.ServWorld) []impl.ServEvent {
	var list []impl.ServEvent
	for who, worker := range w.Workers {
		for run, r := range w.Runs {
			if worker.Terms[modelShard(w, r.Name)] > 0 && !r.Closed && (len(r.Hist) == 0 || len(r.Inbox) > 0) {
				list = append(list, takes(who, run))
			}
		}
	}
	return list
}

func writesOf(w impl.ServWorld) []impl.ServEvent {
	var list []impl.ServEvent
	for who, worker := range w.Workers {
		if len(worker.Tasks) > 0 {
			list = append(list, writes(who))
		}
	}
	return list
}

func triesOf(w impl.ServWorld) []impl.ServEvent {
	var list []impl.ServEvent
	for run := range w.Runs {
		for _, ask := range modelState(w, run).Asks {
			if ask.Name != "" {
				list = append(list, tries(run, ask.Id))
			}
		}
	}
	return list
}

func firesOf(w impl.ServWorld) []impl.ServEvent {
	var list []impl.ServEvent
	for run, r := range w.Runs {
		for _, due := range r.Dues {
			if due.Tick <= w.Now {
				list = append(list, fires(run, due.Id))
			}
		}
	}
	return list
}

func (m *maker) beginning(w impl.ServWorld) impl.ServEvent {
	flow := m.place(len(w.Flows))
	e := impl.ServEvent{Kind: impl.ServBegins, Id: flow, Name: m.of("a", "b", "ab", "x", "order", "z9", "m", "abcdefgh", "p", "q")}
	if flow >= 0 && flow < len(w.Flows) {
		e.Nums = m.numsFor(w.Flows[flow])
	}
	return e
}

// deployment makes a change of a flow: lines put into a patch, or anything else.
func (m *maker) deployment(w impl.ServWorld) impl.ServEvent {
	flow := m.place(len(w.Flows))
	if flow < 0 || flow >= len(w.Flows) {
		return deploys(flow, w.Flows[0])
	}
	lines := w.Flows[flow]
	if _, _, _, changed, ok := m.swap(lines); ok && m.Intn(3) > 0 {
		return deploys(flow, changed)
	}
	return deploys(flow, m.another(lines))
}

// anyEvent makes what may happen, or mostly may not: something of an event is wrong.
func (m *maker) anyEvent(w impl.ServWorld) impl.ServEvent {
	e := m.event(w)
	switch m.Intn(8) {
	case 0:
		e.Kind = m.Intn(15) - 1
	case 1:
		e.Who = []int{-1, 0, 1, 2, 3, 1 << 40}[m.Intn(6)]
	case 2:
		e.Run = []int{-1, 0, 1, 5, 6, 1 << 40}[m.Intn(6)]
	case 3:
		e.Id = []int{-1, 0, 1, 2, 3, 4, 9999, 10000, -1 << 40}[m.Intn(9)]
	case 4:
		e.Name = m.of("", "a", "X", "abcdefghi", "a b", "1a", "go")
	case 5:
		e.Nums = append(e.Nums, m.num())
	case 6:
		e.Nums = [][]int{nil, {10000}, {-10000}, {1, 2}, {9999}, {-9999}}[m.Intn(6)]
	case 7:
		e.Lines = m.anyLines()
	}
	return e
}

// spoilWorld changes something in a world, so that mostly it is not ok.
func (m *maker) spoilWorld(w impl.ServWorld) impl.ServWorld {
	w = clone(w)
	at := reflect.ValueOf(&w).Elem()
	// Runs and workers have more parts than all else, and what makes flows wrong is looked at elsewhere.
	if m.Intn(4) > 0 {
		at = at.FieldByName(m.of("Runs", "Runs", "Runs", "Workers", "Workers", "Shards", "Effects", "Tokens"))
	}
	m.spoilSomewhere(at)
	return w
}

// crowded makes a world in which much is at its limit, or just below it.
func (m *maker) crowded(w impl.ServWorld) impl.ServWorld {
	w = clone(w)
	less := func() int { return m.Intn(3) }
	if m.Intn(3) == 0 {
		w.Now = impl.ServMaxTick - less()
	}
	if m.Intn(3) == 0 {
		m.fillTokens(&w, impl.ServMaxTokens-less())
	}
	if m.Intn(2) == 0 {
		m.fillEffects(&w, impl.ServMaxEffects-2*less())
	}
	for i := range w.Shards {
		if w.Shards[i].Owner >= 0 && m.Intn(3) == 0 {
			m.highTerm(&w, i, impl.ServMaxTerm-less())
		}
	}
	for i := range w.Runs {
		m.crowdRun(&w.Runs[i])
	}
	for i, effect := range w.Effects {
		if m.Intn(8) == 0 {
			w.Effects[i].Tries = max(effect.Tries, impl.ServMaxTick-less())
		}
	}
	for i := range w.Workers {
		worker := &w.Workers[i]
		for many := impl.ServMaxRuns - less(); m.Intn(6) == 0 && worker.Up && len(w.Runs) > 0 && len(worker.Tasks) < many; {
			worker.Tasks = append(worker.Tasks, m.task(w))
		}
	}
	return w
}

func (m *maker) fillTokens(w *impl.ServWorld, many int) {
	for token := 1000; len(w.Tokens) < many; token++ {
		w.Tokens = append(w.Tokens, token)
	}
}

func (m *maker) fillEffects(w *impl.ServWorld, many int) {
	ahead := m.Intn(2) == 0
	for i := 0; len(w.Effects) < many; i++ {
		if ahead {
			w.Effects = slices.Insert(w.Effects, i, impl.ServEffect{Key: fmt.Sprintf(" %03d", i), Tries: 1})
		} else {
			w.Effects = append(w.Effects, impl.ServEffect{Key: fmt.Sprintf("~%03d", i), Tries: 1})
		}
	}
}

// highTerm makes a term of a shard that high; who had it has it still.
func (m *maker) highTerm(w *impl.ServWorld, shard, term int) {
	for i := range w.Workers {
		worker := &w.Workers[i]
		if worker.Terms[shard] == w.Shards[shard].Term {
			worker.Terms[shard] = term
		}
		for j := range worker.Tasks {
			if worker.Tasks[j].Term == w.Shards[shard].Term {
				worker.Tasks[j].Term = term
			}
		}
	}
	w.Shards[shard].Term = term
}

func (m *maker) crowdRun(run *impl.ServRun) {
	if m.Intn(4) == 0 {
		run.Chain = impl.ServMaxChain - m.Intn(2)
	}
	if m.Intn(3) == 0 {
		for many := impl.ServMaxInbox - m.Intn(4); len(run.Inbox) < many; {
			run.Inbox = append(run.Inbox, m.waitingHap())
		}
	}
	for i, try := range run.Tries {
		if m.Intn(4) == 0 {
			run.Tries[i].Tries, run.Tries[i].Next = max(try.Tries, impl.ServMaxTick-m.Intn(2)), m.Intn(100)
		}
	}
}

// waitingHap makes what may wait in an inbox, also with what its kind has no place for.
func (m *maker) waitingHap() impl.RunHap {
	v := m.signal()
	h := []impl.RunHap{came(v.Name, v.Num), came(v.Name, v.Num), cancelled(), fired(1 + m.Intn(4)), did(1+m.Intn(4), m.num()), broke(1+m.Intn(4), m.num())}[m.Intn(6)]
	if m.Intn(3) == 0 {
		h.Id = max(h.Id, 1)
		if h.Kind != impl.HapSignal {
			h.Name = m.of("X", "", "a b")
		}
		if h.Kind == impl.HapCancel || h.Kind == impl.HapFired {
			h.Num = 1 << 40
		}
	}
	return h
}

// task makes one that may be of use, or not.
func (m *maker) task(w impl.ServWorld) impl.ServTask {
	place := m.Intn(len(w.Runs))
	run := w.Runs[place]
	task := impl.ServTask{Run: place, Chain: run.Chain, Term: w.Shards[modelShard(w, run.Name)].Term, Len: len(run.Hist), Take: m.Intn(len(run.Inbox) + 1)}
	lines := w.Flows[run.Flow]
	switch m.Intn(6) {
	case 0:
		task.Term = m.Intn(4)
	case 1:
		task.Chain = m.Intn(3)
	case 2:
		task.Len = m.Intn(5)
	case 3:
		task.Put = []impl.HistEntry{ent(impl.EntMark, 0, "", m.of("p", "q", "r"))}
	default:
		list, _ := impl.HistMore(lines, run.Hist, m.hap(modelState(w, place)))
		if len(run.Hist) == 0 {
			list = impl.HistOf(lines, run.Args, nil, nil, 0)
		}
		task.Put = cloneHist(list[min(len(list), len(run.Hist)):])
	}
	return task
}
