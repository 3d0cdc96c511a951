package tests

import (
	"slices"
	"strconv"
	"testing"

	"loop.example/dunserv/impl"
)

// staysDone says whether what was done in the world, and what was written, is there still, and no answer is another one.
func staysDone(ahead, behind impl.ServWorld) bool {
	for _, effect := range ahead.Effects {
		at := slices.IndexFunc(behind.Effects, func(other impl.ServEffect) bool { return other.Key == effect.Key })
		if at < 0 || behind.Effects[at].Answer != effect.Answer || behind.Effects[at].Tries < effect.Tries {
			return false
		}
	}
	for _, run := range ahead.Runs {
		at := slices.IndexFunc(behind.Runs, func(other impl.ServRun) bool { return other.Name == run.Name })
		if at < 0 {
			return false
		}
		other := behind.Runs[at]
		stays := other.Chain == run.Chain && len(other.Hist) >= len(run.Hist) && sameHist(other.Hist[:len(run.Hist)], run.Hist)
		if !stays && other.Chain <= run.Chain {
			return false
		}
	}
	return true
}

// P23, P29: behind all that may happen, a service is safe, and what was done and written stays.
func TestAlwaysSafe(t *testing.T) {
	t.Parallel()
	wrote, anew, closed := 0, 0, 0
	for seed := range int64(100) {
		m := newMaker(seed)
		w := m.service(t)
		if !impl.ServSafe(w) || impl.ServBoard(w) == "" {
			t.Fatalf("%+v opens", w)
		}
		for range 120 {
			e := m.event(w)
			if m.Intn(6) == 0 {
				e = m.anyEvent(w)
			}
			next, code := impl.ServDo(w, e)
			if m.Intn(60) == 0 {
				next = impl.ServCalm(next, 1)
			}
			if code == 1 || !impl.ServSafe(next) || !modelSafe(next) || !staysDone(w, next) || impl.ServBoard(next) == "" {
				t.Fatalf("%+v\nthen %+v: %d\n%+v", w, e, code, next)
			}
			if e.Kind == impl.ServWrites && code == 0 {
				wrote++
			}
			w = next
		}
		for i, run := range w.Runs {
			if _, has := impl.ServState(w, i); has != (len(run.Hist) > 0) {
				t.Fatalf("%+v has a state: %v", run, has)
			}
			anew += run.Chain
			if run.Closed {
				closed++
			}
		}
	}
	if wrote < 300 || anew < 15 || closed < 60 {
		t.Errorf("written: %d, anew: %d, closed: %d", wrote, anew, closed)
	}
}

// calmFlow makes a workflow that has no times for signals, does not begin anew, and waits for no time that is far.
func (m *maker) calmFlow() []impl.FlowLine {
	for {
		lines := m.runFlow(2 + m.Intn(24))
		for i, line := range lines {
			switch line.Kind {
			case impl.FlowGet:
				lines[i].Args = nil
			case impl.FlowSleep:
				lines[i].Args = []string{strconv.Itoa(m.Intn(7) - 1)}
			case impl.FlowNext:
				lines[i] = impl.FlowLine{Kind: impl.FlowReturn, Args: []string{"3"}}
			}
		}
		if impl.FlowCheck(lines).Code == 0 {
			return lines
		}
	}
}

// uncalm makes what may happen that changes nothing of how runs stand in the end.
func (m *maker) uncalm(w impl.ServWorld) impl.ServEvent {
	for {
		e := m.event(w)
		if e.Kind != impl.ServCancels && e.Kind != impl.ServDeploys {
			return e
		}
	}
}

// isSettled says whether a run of a play waits for no answer, and did not end as it was busy.
func isSettled(s impl.RunState) bool {
	return len(s.Asks) == 0 && !isBusy(s)
}

// P24: whoever fell, and whatever was lost, late or doubled, each run comes to what its workflow means.
func TestAsIfNobodyEverFell(t *testing.T) {
	t.Parallel()
	alike, fell, late, lost := map[int]int{}, 0, 0, 0
	for seed := range int64(220) {
		m := newMaker(seed)
		var flows [][]impl.FlowLine
		for range 1 + m.Intn(4) {
			flows = append(flows, m.calmFlow())
		}
		w, ok := impl.ServOpen(flows, 1+m.Intn(3), 1+m.Intn(3))
		if !ok {
			t.Fatalf("%+v does not open", flows)
		}
		came := map[string][]impl.RunVar{}
		for range 150 {
			e := m.uncalm(w)
			next, code := impl.ServDo(w, e)
			switch {
			case e.Kind == impl.ServSignals && code == 0 && len(next.Tokens) > len(w.Tokens):
				name := w.Runs[e.Run].Name
				came[name] = append(came[name], aVar(e.Name, e.Nums[0]))
			case e.Kind == impl.ServFalls && code == 0:
				fell++
			case code == 8:
				late++
			case e.Kind == impl.ServTries && code == 0 && e.Lost:
				lost++
			}
			w = next
		}
		for who := range w.Workers {
			w = after(t, w, rises(who))
		}
		for range 5 {
			w = impl.ServCalm(w, impl.ServMaxCalm)
		}
		if len(w.Effects) == impl.ServMaxEffects {
			continue
		}
		for i, run := range w.Runs {
			lines := w.Flows[run.Flow]
			want, _ := impl.RunPlay(lines, run.Args, came[run.Name], m.picks(), 200)
			s, has := impl.ServState(w, i)
			if !isSettled(want) || isBusy(s) || len(run.Hist) > impl.HistMaxLen-5 || len(came[run.Name]) >= impl.RunMaxBox {
				continue
			}
			if !has || s.Stands != want.Stands || s.Result != want.Result || len(s.Asks) > 0 || run.Closed == (s.Stands == impl.RunLive) || s.Stands == impl.RunDone && !slices.Equal(s.Vars, want.Vars) {
				t.Fatalf("%s\n%v, signals %+v\n%+v, not\n%+v\n%s", impl.FlowPrint(lines), run.Args, came[run.Name], s, want, impl.ServBoard(w))
			}
			alike[s.Stands]++
		}
	}
	if alike[impl.RunLive] < 100 || alike[impl.RunDone] < 300 || alike[impl.RunFailed] < 80 || fell < 200 || late < 300 || lost < 100 {
		t.Errorf("alike: %v, fell: %d, late: %d, lost: %d", alike, fell, late, lost)
	}
}

// P25: a signal that comes again changes nothing; what has a code changes nothing, but that with 8 the task is out of hands.
func TestOnce(t *testing.T) {
	t.Parallel()
	codes := map[int]int{}
	again := 0
	for seed := range int64(200) {
		m := newMaker(seed)
		w := m.service(t)
		for range 100 {
			e := m.event(w)
			if m.Intn(2) == 0 {
				e = m.anyEvent(w)
			}
			next, code := impl.ServDo(w, e)
			codes[code]++
			want := clone(w)
			if code == 8 {
				want.Workers[e.Who].Tasks = want.Workers[e.Who].Tasks[1:]
			}
			if code != 0 && !same(next, want) {
				t.Fatalf("%+v\nthen %+v: %d\n%+v", w, e, code, next)
			}
			if e.Kind == impl.ServSignals && code == 0 {
				again++
				e.Run = m.place(len(w.Runs))
				if other, code := impl.ServDo(next, e); code != 0 || !same(other, next) {
					t.Fatalf("%+v\nonce more %+v: %d\n%+v", next, e, code, other)
				}
			}
			w = next
		}
	}
	if again < 100 || codes[1] > 0 || codes[2] < 50 || codes[3] < 50 || codes[5] < 500 || codes[6] < 300 || codes[7] < 500 || codes[8] < 100 || codes[9] < 10 {
		t.Errorf("codes: %v, again: %d", codes, again)
	}
}

// P26: what is written without a code was taken by the shard's term, behind a history as long as it was then.
func TestFenced(t *testing.T) {
	t.Parallel()
	wrote, late := 0, 0
	for seed := range int64(250) {
		m := newMaker(seed)
		w := m.served(t, 60)
		for range 60 {
			e := m.event(w)
			if m.Intn(3) > 0 {
				e = []impl.ServEvent{takes(m.Intn(len(w.Workers)), m.place(len(w.Runs))), writes(m.Intn(len(w.Workers)))}[m.Intn(2)]
			}
			next, code := impl.ServDo(w, e)
			if e.Kind == impl.ServWrites && (code == 0 || code == 8) {
				task := w.Workers[e.Who].Tasks[0]
				run, other := w.Runs[task.Run], next.Runs[task.Run]
				mine := task.Term == w.Shards[impl.ServShardOf(w, task.Run)].Term && task.Chain == run.Chain && task.Len == len(run.Hist)
				if code == 8 {
					late++
				} else if wrote++; !mine || other.Chain == run.Chain && !sameHist(other.Hist, slices.Concat(run.Hist, task.Put)) {
					t.Fatalf("%+v\n%+v is written\n%+v", w, task, next)
				}
			}
			w = next
		}
	}
	if wrote < 600 || late < 300 {
		t.Errorf("written: %d, late: %d", wrote, late)
	}
}

// P27: calm rounds of a world that is ok: in parts, too, it stays so.
func TestCalmOfMadeServices(t *testing.T) {
	t.Parallel()
	for seed := range int64(300) {
		m := newMaker(seed)
		w := m.served(t, 60)
		crowded := m.Intn(2) == 0
		if crowded {
			w = m.crowded(w)
		}
		a, b := m.Intn(40), m.Intn(40)
		first := impl.ServCalm(w, a)
		got, want := impl.ServCalm(first, b), impl.ServCalm(w, a+b)
		if !same(got, want) || !impl.ServOk(first) || !impl.ServOk(got) || !staysDone(w, got) || !crowded && !impl.ServSafe(got) {
			t.Fatalf("%+v\nbehind %d and %d rounds\n%+v, not\n%+v", w, a, b, got, want)
		}
	}
}
