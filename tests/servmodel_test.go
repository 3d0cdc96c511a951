package tests

import (
	"fmt"
	"regexp"
	"slices"
	"sort"
	"strings"

	"loop.example/dunserv/impl"
)

// A model of the service: what a world must be is told by conditions on all of it, what happens by a list of codes and by what the
// functions of histories say of whole histories, each time anew.

var runNamePattern = regexp.MustCompile(`^` + namePattern + `$`)

// isAscending says whether a list of texts is strictly ascending.
func isAscending(list []string) bool {
	return sort.StringsAreSorted(list) && len(slices.Compact(slices.Clone(list))) == len(list)
}

// inOrder says whether what is told of each of a list, which is not below 0 or written alike, ascends.
func idsAscend[T any](list []T, id func(T) int) bool {
	ids := map[int]bool{}
	for i, item := range list {
		if i > 0 && id(item) < id(list[i-1]) {
			return false
		}
		ids[id(item)] = true
	}
	return len(ids) == len(list)
}

func modelWorldOk(w impl.ServWorld) bool {
	many := w.Now >= 0 && w.Now <= 100000 && len(w.Flows) >= 1 && len(w.Flows) <= 4 && len(w.Shards) >= 1 && len(w.Shards) <= 3 &&
		len(w.Workers) >= 1 && len(w.Workers) <= 3 && len(w.Runs) <= 6 && len(w.Effects) <= 200 && len(w.Tokens) <= 60
	if !many {
		return false
	}
	for _, lines := range w.Flows {
		if impl.FlowCheck(lines).Code != 0 {
			return false
		}
	}
	for _, shard := range w.Shards {
		nobody := shard.Owner == -1 && shard.Term == 0
		somebody := shard.Owner >= 0 && shard.Owner < len(w.Workers) && shard.Term >= 1 && shard.Term <= 9999
		if !nobody && !somebody || shard.Until < 0 || shard.Until > 100004 {
			return false
		}
	}
	var names, keys []string
	for _, run := range w.Runs {
		if !modelRunOk(w, run) {
			return false
		}
		names = append(names, run.Name)
	}
	for _, worker := range w.Workers {
		if !modelWorkerOk(w, worker) {
			return false
		}
	}
	for _, effect := range w.Effects {
		if effect.Key == "" || !near(effect.Answer) || effect.Tries < 1 || effect.Tries > 100000 {
			return false
		}
		keys = append(keys, effect.Key)
	}
	return isAscending(names) && isAscending(keys) && idsAscend(w.Tokens, func(token int) int { return token })
}

func modelRunOk(w impl.ServWorld, run impl.ServRun) bool {
	if !runNamePattern.MatchString(run.Name) || run.Flow < 0 || run.Flow >= len(w.Flows) || run.Chain < 0 || run.Chain > 99 {
		return false
	}
	lines := w.Flows[run.Flow]
	if len(run.Args) != len(lines[0].Args) || !near(run.Args...) || len(run.Inbox) > 30 {
		return false
	}
	for _, h := range run.Inbox {
		if h.Kind < 1 || h.Kind > 5 || !modelEntryOk(modelCame(h)) {
			return false
		}
	}
	for _, try := range run.Tries {
		if try.Id < 1 || try.Id > 9999 || try.Tries < 1 || try.Tries > 100000 || try.Next < 0 {
			return false
		}
	}
	for _, due := range run.Dues {
		if due.Id < 1 || due.Id > 9999 {
			return false
		}
	}
	ordered := idsAscend(run.Tries, func(try impl.ServTry) int { return try.Id }) && idsAscend(run.Dues, func(due impl.ServDue) int { return due.Id })
	if !ordered || len(run.Hist) == 0 {
		return ordered && !run.Closed && len(run.Tries)+len(run.Dues) == 0
	}
	s, found := impl.HistReplay(lines, run.Hist)
	return found.Code == 0 && run.Closed == (s.Stands != 0)
}

func modelWorkerOk(w impl.ServWorld, worker impl.ServWorker) bool {
	if len(worker.Terms) != len(w.Shards) || len(worker.Tasks) > 6 || !worker.Up && len(worker.Tasks) > 0 {
		return false
	}
	for shard, term := range worker.Terms {
		if term < 0 || term > w.Shards[shard].Term {
			return false
		}
	}
	for _, task := range worker.Tasks {
		ofRun := task.Run >= 0 && task.Run < len(w.Runs) && task.Chain >= 0 && task.Chain <= 99 && task.Term >= 0 && task.Term <= 9999
		if !ofRun || task.Len < 0 || task.Len > 400 || task.Take < 0 || task.Take > 30 || len(task.Put) > 400 {
			return false
		}
		if slices.ContainsFunc(task.Put, func(e impl.HistEntry) bool { return !modelEntryOk(e) }) {
			return false
		}
	}
	return true
}

func modelShard(w impl.ServWorld, name string) int {
	sum := 0
	for i := range len(name) {
		sum += int(name[i])
	}
	return sum % len(w.Shards)
}

// modelState is how far a run has come, nothing without a history.
func modelState(w impl.ServWorld, run int) impl.RunState {
	s, _ := impl.HistReplay(w.Flows[w.Runs[run].Flow], w.Runs[run].Hist)
	return s
}

func modelWorldKey(run impl.ServRun, key string) string {
	return fmt.Sprintf("%s/%d/%s", run.Name, run.Chain, key)
}

// ask is a code, and when it is told; it is asked just if none ahead was.
type refusal struct {
	code int
	so   func() bool
}

// modelServ is a world to which an event happens.
type modelServ struct {
	w *impl.ServWorld
	e impl.ServEvent
}

func modelDo(w impl.ServWorld, e impl.ServEvent) (impl.ServWorld, int) {
	if !modelWorldOk(w) {
		return impl.ServWorld{}, 1
	}
	next := clone(w)
	m := modelServ{&next, clone(e)}
	for _, r := range m.refusals() {
		if !r.so() {
			continue
		}
		if r.code == 8 {
			next.Workers[e.Who].Tasks = next.Workers[e.Who].Tasks[1:]
		}
		return next, r.code
	}
	m.happen()
	return next, 0
}

// refusals are the codes of an event, in the order in which they are asked.
func (m modelServ) refusals() []refusal {
	w, e := m.w, m.e
	noRun := refusal{5, func() bool { return e.Run < 0 || e.Run >= len(w.Runs) }}
	closed := refusal{6, func() bool { return w.Runs[e.Run].Closed }}
	full := refusal{4, func() bool { return len(w.Runs[e.Run].Inbox) == 30 }}
	noWorker := refusal{5, func() bool { return e.Who < 0 || e.Who >= len(w.Workers) }}
	notUp := refusal{7, func() bool { return !w.Workers[e.Who].Up }}
	switch e.Kind {
	case impl.ServTicks:
		return []refusal{{4, func() bool { return w.Now == 100000 }}}
	case impl.ServBegins:
		return []refusal{
			{2, func() bool {
				return !runNamePattern.MatchString(e.Name) || e.Id < 0 || e.Id >= len(w.Flows) || len(e.Nums) != len(w.Flows[e.Id][0].Args) || !near(e.Nums...)
			}},
			{3, func() bool {
				return slices.ContainsFunc(w.Runs, func(run impl.ServRun) bool { return run.Name == e.Name })
			}},
			{4, func() bool { return len(w.Runs) == 6 }},
		}
	case impl.ServSignals:
		list := []refusal{{2, func() bool { return !runNamePattern.MatchString(e.Name) || len(e.Nums) != 1 || !near(e.Nums...) }}}
		if slices.Contains(w.Tokens, e.Id) {
			return list
		}
		return append(list, refusal{4, func() bool { return len(w.Tokens) == 60 }}, refusal{4, m.boxIsFull}, noRun, closed, full)
	case impl.ServCancels:
		return []refusal{noRun, closed, full}
	case impl.ServLeases:
		return []refusal{noWorker, notUp,
			{5, func() bool { return e.Id < 0 || e.Id >= len(w.Shards) }},
			{7, func() bool { return !m.holds() && w.Shards[e.Id].Owner >= 0 && w.Now <= w.Shards[e.Id].Until }},
			{4, func() bool { return !m.holds() && w.Shards[e.Id].Term == 9999 }},
		}
	case impl.ServTakes:
		return []refusal{noWorker, notUp, noRun,
			{7, func() bool { return w.Workers[e.Who].Terms[modelShard(*w, w.Runs[e.Run].Name)] == 0 }},
			{6, func() bool {
				run := w.Runs[e.Run]
				return run.Closed || len(run.Hist) > 0 && len(run.Inbox) == 0
			}},
			{4, func() bool { return len(w.Workers[e.Who].Tasks) == 6 }},
		}
	case impl.ServWrites:
		return []refusal{noWorker, notUp, {6, func() bool { return len(w.Workers[e.Who].Tasks) == 0 }}, {8, m.isLate}}
	case impl.ServTries:
		return []refusal{noRun, {5, func() bool { return m.asked().Name == "" }},
			{7, func() bool { return w.Now < m.tried().Next }},
			{4, func() bool { return m.tried().Tries == 100000 }},
			{4, func() bool {
				effect := m.effect()
				return effect.Tries == 0 && len(w.Effects) == 200 || effect.Tries == 100000
			}},
		}
	case impl.ServFires:
		return []refusal{noRun, {7, func() bool {
			return !slices.ContainsFunc(w.Runs[e.Run].Dues, func(due impl.ServDue) bool { return due.Id == e.Id && due.Tick <= w.Now })
		}}, closed, full}
	case impl.ServFalls:
		return []refusal{noWorker, notUp}
	case impl.ServRises:
		return []refusal{noWorker}
	case impl.ServDeploys:
		return []refusal{
			{5, func() bool { return e.Id < 0 || e.Id >= len(w.Flows) }},
			{2, func() bool {
				return impl.FlowCheck(e.Lines).Code != 0 || len(e.Lines[0].Args) != len(w.Flows[e.Id][0].Args)
			}},
			{9, func() bool {
				return slices.ContainsFunc(w.Runs, func(run impl.ServRun) bool {
					_, found := impl.HistReplay(e.Lines, run.Hist)
					return run.Flow == e.Id && len(run.Hist) > 0 && found.Code != 0
				})
			}},
		}
	}
	return []refusal{{2, func() bool { return true }}}
}

func (m modelServ) boxIsFull() bool {
	if m.e.Run < 0 || m.e.Run >= len(m.w.Runs) {
		return false
	}
	many := len(modelState(*m.w, m.e.Run).Box)
	for _, h := range m.w.Runs[m.e.Run].Inbox {
		if h.Kind == impl.HapSignal {
			many++
		}
	}
	return many >= 20
}

func (m modelServ) holds() bool {
	shard := m.w.Shards[m.e.Id]
	return shard.Owner == m.e.Who && m.w.Workers[m.e.Who].Terms[m.e.Id] == shard.Term
}

func (m modelServ) isLate() bool {
	task := m.w.Workers[m.e.Who].Tasks[0]
	run := m.w.Runs[task.Run]
	if task.Term != m.w.Shards[modelShard(*m.w, run.Name)].Term || task.Chain != run.Chain || task.Len != len(run.Hist) {
		return true
	}
	_, found := impl.HistReplay(m.w.Flows[run.Flow], slices.Concat(run.Hist, task.Put))
	return run.Closed || task.Take > len(run.Inbox) || found.Code != 0
}

// asked is what the run asks for by the Id, nothing, if there is no such ask.
func (m modelServ) asked() impl.RunAsk {
	for _, ask := range modelState(*m.w, m.e.Run).Asks {
		if ask.Id == m.e.Id {
			return ask
		}
	}
	return impl.RunAsk{}
}

// tried is how often that was tried, nothing, if it was not.
func (m modelServ) tried() impl.ServTry {
	for _, try := range m.w.Runs[m.e.Run].Tries {
		if try.Id == m.e.Id {
			return try
		}
	}
	return impl.ServTry{}
}

// effect is what was done in the world for that, nothing, if it was not.
func (m modelServ) effect() impl.ServEffect {
	key := modelWorldKey(m.w.Runs[m.e.Run], m.asked().Key)
	for _, effect := range m.w.Effects {
		if effect.Key == key {
			return effect
		}
	}
	return impl.ServEffect{}
}

func (m modelServ) bring(h impl.RunHap) {
	run := &m.w.Runs[m.e.Run]
	run.Inbox = append(run.Inbox, h)
}

func (m modelServ) happen() {
	w, e := m.w, m.e
	switch e.Kind {
	case impl.ServTicks:
		w.Now++
	case impl.ServBegins:
		m.begin()
	case impl.ServSignals:
		if !slices.Contains(w.Tokens, e.Id) {
			m.bring(came(e.Name, e.Nums[0]))
			w.Tokens = append(w.Tokens, e.Id)
			sort.Ints(w.Tokens)
		}
	case impl.ServCancels:
		m.bring(cancelled())
	case impl.ServLeases:
		shard := &w.Shards[e.Id]
		if !m.holds() {
			*shard = impl.ServShard{Owner: e.Who, Term: shard.Term + 1}
			w.Workers[e.Who].Terms[e.Id] = shard.Term
		}
		shard.Until = w.Now + 4
	case impl.ServTakes:
		m.take()
	case impl.ServWrites:
		m.write()
	case impl.ServTries:
		m.attempt()
	case impl.ServFires:
		m.bring(fired(e.Id))
	case impl.ServFalls:
		w.Workers[e.Who] = impl.ServWorker{Terms: make([]int, len(w.Shards))}
	case impl.ServRises:
		w.Workers[e.Who].Up = true
	case impl.ServDeploys:
		w.Flows[e.Id] = e.Lines
	}
}

func (m modelServ) begin() {
	w, e := m.w, m.e
	w.Runs = append(w.Runs, impl.ServRun{Name: e.Name, Flow: e.Id, Args: e.Nums})
	old := map[string]int{}
	for i, run := range w.Runs {
		old[run.Name] = i
	}
	sort.Slice(w.Runs, func(i, j int) bool { return w.Runs[i].Name < w.Runs[j].Name })
	places := map[int]int{}
	for i, run := range w.Runs {
		places[old[run.Name]] = i
	}
	for _, worker := range w.Workers {
		for i := range worker.Tasks {
			worker.Tasks[i].Run = places[worker.Tasks[i].Run]
		}
	}
}

func (m modelServ) take() {
	run, worker := m.w.Runs[m.e.Run], &m.w.Workers[m.e.Who]
	task := impl.ServTask{Run: m.e.Run, Chain: run.Chain, Term: worker.Terms[modelShard(*m.w, run.Name)], Len: len(run.Hist), Take: len(run.Inbox)}
	lines := m.w.Flows[run.Flow]
	if len(run.Hist) == 0 {
		task.Put, task.Take = impl.HistOf(lines, run.Args, nil, nil, 0), 0
	}
	for i := 0; i < len(run.Inbox) && len(run.Hist) > 0; i++ {
		list, code := impl.HistMore(lines, run.Hist, run.Inbox[i])
		if code == 0 {
			task.Put, task.Take = list[len(run.Hist):], i+1
		}
		if code == 10 {
			task.Take = i
		}
		if code == 0 || code == 10 {
			break
		}
	}
	worker.Tasks = append(worker.Tasks, task)
}

func (m modelServ) write() {
	worker := &m.w.Workers[m.e.Who]
	task := worker.Tasks[0]
	worker.Tasks = worker.Tasks[1:]
	run := &m.w.Runs[task.Run]
	run.Hist = append(run.Hist, task.Put...)
	run.Inbox = run.Inbox[task.Take:]
	s := modelState(*m.w, task.Run)
	dues, tries := map[int]int{}, map[int]impl.ServTry{}
	for _, due := range run.Dues {
		dues[due.Id] = due.Tick
	}
	for _, try := range run.Tries {
		tries[try.Id] = try
	}
	run.Dues, run.Tries, run.Closed = nil, nil, s.Stands != 0
	for _, ask := range s.Asks {
		if try, there := tries[ask.Id]; there {
			run.Tries = append(run.Tries, try)
		}
		if ask.Name != "" {
			continue
		}
		tick, there := dues[ask.Id]
		if !there {
			tick = m.w.Now + ask.Args[0]
		}
		run.Dues = append(run.Dues, impl.ServDue{Id: ask.Id, Tick: tick})
	}
	if s.Stands == impl.RunAnew && run.Chain < 99 && len(s.Args) == len(m.w.Flows[run.Flow][0].Args) {
		*run = impl.ServRun{Name: run.Name, Flow: run.Flow, Args: s.Args, Chain: run.Chain + 1, Inbox: modelAnew(s.Box, run.Inbox)}
	}
}

// modelAnew is what a run finds in its inbox that begins anew.
func modelAnew(box []impl.RunVar, left []impl.RunHap) []impl.RunHap {
	var list []impl.RunHap
	for _, v := range box {
		list = append(list, came(v.Name, v.Num))
	}
	first := slices.IndexFunc(left, func(h impl.RunHap) bool { return h.Kind == impl.HapCancel })
	for i, h := range left {
		if h.Kind == impl.HapSignal || i == first {
			list = append(list, h)
		}
	}
	return list[:min(30, len(list))]
}

func (m modelServ) attempt() {
	run, ask, effect, try := &m.w.Runs[m.e.Run], m.asked(), m.effect(), m.tried()
	if effect.Tries == 0 {
		effect = impl.ServEffect{Key: modelWorldKey(*run, ask.Key), Answer: impl.RunAnswer(ask)}
	}
	effect.Tries++
	m.w.Effects = slices.DeleteFunc(m.w.Effects, func(other impl.ServEffect) bool { return other.Key == effect.Key })
	m.w.Effects = append(m.w.Effects, effect)
	sort.Slice(m.w.Effects, func(i, j int) bool { return m.w.Effects[i].Key < m.w.Effects[j].Key })
	try = impl.ServTry{Id: ask.Id, Tries: try.Tries + 1, Next: m.w.Now + 3*(try.Tries+1)}
	run.Tries = slices.DeleteFunc(run.Tries, func(other impl.ServTry) bool { return other.Id == try.Id })
	run.Tries = append(run.Tries, try)
	sort.Slice(run.Tries, func(i, j int) bool { return run.Tries[i].Id < run.Tries[j].Id })
	if !m.e.Lost && len(run.Inbox) < 30 {
		m.bring(did(ask.Id, effect.Answer))
	}
}

func modelSafe(w impl.ServWorld) bool {
	if !modelWorldOk(w) {
		return false
	}
	held := map[[2]int]int{}
	for _, worker := range w.Workers {
		for shard, term := range worker.Terms {
			if term > 0 && term == w.Shards[shard].Term {
				held[[2]int{shard, term}]++
			}
		}
	}
	for _, many := range held {
		if many > 1 {
			return false
		}
	}
	done := map[string]int{}
	for _, effect := range w.Effects {
		done[effect.Key] = effect.Answer
	}
	for _, run := range w.Runs {
		keys := map[int]string{}
		for _, e := range run.Hist {
			if _, there := keys[e.Id]; e.Kind == impl.EntAsk && !there {
				keys[e.Id] = e.Key
			}
			if e.Kind != impl.EntDone {
				continue
			}
			answer, there := done[modelWorldKey(run, keys[e.Id])]
			if !there || answer != e.Nums[0] {
				return false
			}
		}
	}
	return true
}

// modelCalm lets rounds pass by ServDo, event by event.
func modelCalm(w impl.ServWorld, rounds int) impl.ServWorld {
	if !modelWorldOk(w) {
		return impl.ServWorld{}
	}
	for range min(max(rounds, 0), 300) {
		for _, e := range modelLeases(w) {
			w, _ = impl.ServDo(w, e)
		}
		for who, worker := range w.Workers {
			for run := range w.Runs {
				if worker.Up {
					w = modelTurn(w, who, run)
				}
			}
		}
	}
	return w
}

// modelLeases is how a calm round begins.
func modelLeases(w impl.ServWorld) []impl.ServEvent {
	list := ticks(1)
	for who, worker := range w.Workers {
		for shard := range w.Shards {
			if worker.Up {
				list = append(list, leases(who, shard))
			}
		}
	}
	return list
}

// modelTurn is what a worker does for a run in a calm round.
func modelTurn(w impl.ServWorld, who, run int) impl.ServWorld {
	var list []impl.ServEvent
	for _, ask := range modelState(w, run).Asks {
		if ask.Name == "" {
			list = append(list, fires(run, ask.Id))
		} else {
			list = append(list, tries(run, ask.Id))
		}
	}
	list = append(list, takes(who, run), writes(who), takes(who, run), writes(who), takes(who, run), writes(who))
	for _, e := range list {
		w, _ = impl.ServDo(w, e)
	}
	return w
}

func modelServBoard(w impl.ServWorld) string {
	if !modelWorldOk(w) {
		return ""
	}
	var text strings.Builder
	fmt.Fprintf(&text, "now %d\n", w.Now)
	for _, shard := range w.Shards {
		fmt.Fprintf(&text, "shard %d term %d until %d\n", shard.Owner, shard.Term, shard.Until)
	}
	for i, run := range w.Runs {
		s := modelState(w, i)
		stands := []string{"live", "done", "failed", "anew", "stopped"}[s.Stands]
		fmt.Fprintf(&text, "%s/%d %s %d, %d written, %d waiting\n", run.Name, run.Chain, stands, s.Result, len(run.Hist), len(run.Inbox))
	}
	for _, effect := range w.Effects {
		fmt.Fprintf(&text, "%s %d, tried %d\n", effect.Key, effect.Answer, effect.Tries)
	}
	return text.String()
}
