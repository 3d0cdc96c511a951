package tests

import (
	"slices"
	"strings"
	"testing"

	"loop.example/dunserv/impl"
)

// lived is a run that was live: how it began, what happened, and the states behind the beginning and each thing that happened.
type lived struct {
	lines  []impl.FlowLine
	args   []int
	haps   []impl.RunHap
	states []impl.RunState
}

func (l lived) last() impl.RunState {
	return l.states[len(l.states)-1]
}

// live lets a run live for so many things that may happen at most.
func (m *maker) live(t *testing.T, most int) lived {
	t.Helper()
	l := lived{lines: m.runFlow(4 + m.Intn(26))}
	l.args = m.numsFor(l.lines)
	s, ok := impl.RunStart(l.lines, l.args, nil, true)
	if !ok {
		t.Fatalf("%s does not start with %v", impl.FlowPrint(l.lines), l.args)
	}
	l.states = append(l.states, s)
	for s.Stands == impl.RunLive && len(l.haps) < most {
		h := m.hap(s)
		next, code := impl.RunDo(l.lines, s, h, nil, true)
		if code != 0 && code != 4 {
			t.Fatalf("%s\n%+v, then %+v: %d", impl.FlowPrint(l.lines), s, h, code)
		}
		if code == 0 {
			l.haps = append(l.haps, h)
			l.states = append(l.states, next)
		}
		s = next
		if code == 4 && m.Intn(9) == 0 {
			break
		}
	}
	return l
}

func isBusy(s impl.RunState) bool {
	return s.Result == impl.RunBusy && (s.Ending || s.Stands == impl.RunFailed)
}

// P9: whichever ask is answered first, the run stands alike in the end.
func TestOrderOfAnswers(t *testing.T) {
	t.Parallel()
	alike, waiting, many := map[int]int{}, 0, 0
	for seed := range int64(6000) {
		m := newMaker(seed)
		lines := m.runFlow(6 + m.Intn(26))
		args, signals := m.numsFor(lines), m.signalList()
		one, haps := impl.RunPlay(lines, args, signals, nil, 200)
		for range 4 {
			picks := m.picks()
			other, otherHaps := impl.RunPlay(lines, args, signals, picks, 200)
			if isBusy(one) || isBusy(other) || len(one.Asks)+len(other.Asks) > 0 {
				continue
			}
			same := one.Stands == other.Stands && one.Result == other.Result && slices.Equal(one.Args, other.Args)
			if (one.Stands == impl.RunDone || one.Stands == impl.RunLive) && !slices.Equal(one.Vars, other.Vars) {
				same = false
			}
			if !same {
				t.Fatalf("%s\n%v %v, by %v: %s, not %s", impl.FlowPrint(lines), args, signals, picks, told(lines, other), told(lines, one))
			}
			alike[one.Stands]++
			if one.Stands == impl.RunLive {
				waiting++
			}
			if len(haps) > 4 && !slices.Equal(haps, otherHaps) {
				many++
			}
		}
	}
	if alike[impl.RunDone] < 5000 || alike[impl.RunFailed] < 500 || alike[impl.RunAnew] < 500 || waiting < 500 || many < 1000 {
		t.Errorf("held against each other: %v, answered in another order: %d", alike, many)
	}
}

// P9, at the given edges: parts that end one ahead of the other, in all orders.
func TestOrderOfAllAnswers(t *testing.T) {
	rows := []string{
		"both;do a x;do b y a;and;sleep 1;do c z;end;do d v b c;return d",
		"both;both;do a x;and;do b x;do c x a;end;and;do d x;do e x;do f x d;end;do g v c f;sleep g;do a v g;return a",
		"both;do a x;do b x;and;get c go;do d y c;end;both;and;do e z;end;return e",
		"both;do a x undo ux;let b mul a 9999;and;do c y undo uy;do d y;end;return 1",
	}
	for _, row := range rows {
		lines := linesOf(t, "workflow w\n"+strings.ReplaceAll(strings.ReplaceAll(row, "do c x a", "do c x 1"), ";", "\n"))
		signals := []impl.RunVar{aVar("go", 3)}
		want, _ := impl.RunPlay(lines, nil, signals, nil, 200)
		if want.Stands == impl.RunLive {
			t.Errorf("%q: %s", row, told(lines, want))
		}
		for code := range 4096 {
			picks := []int{code % 4, code / 4 % 4, code / 16 % 4, code / 64 % 4, code / 256 % 4, code / 1024}
			s, _ := impl.RunPlay(lines, nil, signals, picks, 200)
			vars := want.Stands == impl.RunDone && !slices.Equal(s.Vars, want.Vars)
			if s.Stands != want.Stands || s.Result != want.Result || vars {
				t.Fatalf("%q by %v: %s, not %s", row, picks, told(lines, s), told(lines, want))
			}
		}
	}
}

// P10: no two asks have one key, but that what is undone has that of what was done, with a stroke.
func TestKeys(t *testing.T) {
	t.Parallel()
	asked, undone := 0, 0
	for seed := range int64(6000) {
		l := newMaker(seed).live(t, 60)
		keys, ids := map[string]int{}, map[int]impl.RunAsk{}
		for _, s := range l.states {
			for _, ask := range s.Asks {
				if id, there := keys[ask.Key]; there && id != ask.Id {
					t.Fatalf("%s\n%+v: %d and %d have the key %s", impl.FlowPrint(l.lines), l.haps, id, ask.Id, ask.Key)
				}
				keys[ask.Key] = ask.Id
				ids[ask.Id] = ask
				asked++
				if !s.Ending {
					continue
				}
				done, there := keys[strings.TrimSuffix(ask.Key, "-")]
				if !strings.HasSuffix(ask.Key, "-") || !there || done >= ask.Id {
					t.Fatalf("%s\n%+v undoes nothing", impl.FlowPrint(l.lines), ask)
				}
				undone++
			}
			for _, entry := range s.Undo {
				if ids[entry.Id].Key != entry.Key {
					t.Fatalf("%s\n%+v is to be undone, of %+v", impl.FlowPrint(l.lines), entry, ids[entry.Id])
				}
			}
		}
	}
	if asked < 20000 || undone < 1000 {
		t.Errorf("asked: %d, undone: %d", asked, undone)
	}
}

// P11: a run that is cancelled asks for all of Undo, the last first, and is stopped then, however that went.
func TestCancelled(t *testing.T) {
	t.Parallel()
	undone := map[int]int{}
	for seed := range int64(6000) {
		m := newMaker(seed)
		l := m.live(t, m.Intn(20))
		s := l.last()
		if s.Stands != impl.RunLive || s.Ending {
			continue
		}
		entries := s.Undo
		undone[min(len(entries), 3)]++
		s = then(t, l.lines, s, cancelled())
		for i := len(entries) - 1; i >= 0; i-- {
			if m.Intn(3) == 0 && len(s.Box) < impl.RunMaxBox {
				s = then(t, l.lines, s, cancelled(), came("go", 1))
			}
			want := impl.RunAsk{Id: s.Next - 1, Key: entries[i].Key + "-", Name: entries[i].Name, Args: entries[i].Args}
			if !s.Ending || len(s.Asks) != 1 || !slices.Equal(cloneAsks(s.Asks)[0].Args, want.Args) || s.Asks[0].Key != want.Key || s.Asks[0].Name != want.Name || s.Asks[0].Id != want.Id || len(s.Undo) != i {
				t.Fatalf("%s\n%+v, not asked for %+v", impl.FlowPrint(l.lines), s, want)
			}
			if m.Intn(2) == 0 {
				s = then(t, l.lines, s, did(want.Id, m.num()))
			} else {
				s = then(t, l.lines, s, broke(want.Id, m.num()))
			}
		}
		if s.Stands != impl.RunStopped || s.Result != impl.RunCancel || len(s.Asks) != 0 || s.Ending {
			t.Fatalf("%s\n%+v is not stopped", impl.FlowPrint(l.lines), s)
		}
	}
	if undone[0] < 400 || undone[1] < 150 || undone[2] < 100 || undone[3] < 100 {
		t.Errorf("how much was undone: %v", undone)
	}
}

// P12: what is ok stays so, what stands stays, what is live waits for something, and with a code nothing changes.
func TestOkStaysOk(t *testing.T) {
	t.Parallel()
	codes := map[int]int{}
	for seed := range int64(4000) {
		m := newMaker(seed)
		l := m.live(t, 30)
		for _, s := range l.states {
			waits := len(s.Asks) > 0 || slices.ContainsFunc(s.Threads, func(thread impl.RunThread) bool { return thread.Wait == impl.WaitGet })
			if !modelOk(l.lines, s) || !impl.RunOk(l.lines, s) || waits != (s.Stands == impl.RunLive) {
				t.Fatalf("%s\n%+v", impl.FlowPrint(l.lines), s)
			}
			h := m.anyHap(s)
			next, code := impl.RunDo(l.lines, s, h, m.patches(), m.Intn(2) == 0)
			codes[code]++
			if !impl.RunOk(l.lines, next) || code > 0 && !sameState(next, s) || (code == 2) != (s.Stands != impl.RunLive) {
				t.Fatalf("%s\n%+v, then %+v: %d %+v", impl.FlowPrint(l.lines), s, h, code, next)
			}
		}
	}
	if codes[1] != 0 || codes[0] < 5000 || codes[2] < 1000 || codes[3] < 3000 || codes[5] < 3000 {
		t.Errorf("codes: %v", codes)
	}
}

// P13: a fold of all is a fold of the first part, and then what is left happens.
func TestFoldsOfParts(t *testing.T) {
	t.Parallel()
	parts := 0
	for seed := range int64(1500) {
		m := newMaker(seed)
		l := m.live(t, 25)
		for cut, ahead := range l.states {
			s, ok := impl.RunFold(l.lines, l.args, l.haps[:cut])
			if !ok || !sameState(s, ahead) {
				t.Fatalf("%s\n%+v: %v %+v, not %+v", impl.FlowPrint(l.lines), l.haps[:cut], ok, s, ahead)
			}
			for _, h := range l.haps[cut:] {
				s, _ = impl.RunDo(l.lines, s, h, nil, true)
			}
			if !sameState(s, l.last()) {
				t.Fatalf("%s\n%+v from %d on: %+v, not %+v", impl.FlowPrint(l.lines), l.haps, cut, s, l.last())
			}
			parts++
			if _, code := impl.RunDo(l.lines, ahead, m.anyHap(ahead), nil, true); code == 0 {
				continue
			}
			if _, ok := impl.RunFold(l.lines, l.args, append(slices.Clone(l.haps[:cut]), impl.RunHap{Kind: 6})); ok {
				t.Fatalf("%s\na fold of what may not happen", impl.FlowPrint(l.lines))
			}
		}
	}
	if parts < 6000 {
		t.Errorf("just %d parts", parts)
	}
}

// P13 of plays: what RunPlay tells that happened is folded to the state that it tells.
func TestFoldsOfPlays(t *testing.T) {
	for seed := range int64(3000) {
		m := newMaker(seed)
		lines := m.runFlow(4 + m.Intn(26))
		args := m.numsFor(lines)
		s, haps := impl.RunPlay(lines, args, m.signalList(), m.picks(), m.Intn(210))
		again, ok := impl.RunFold(lines, args, haps)
		if !ok || !sameState(s, again) {
			t.Fatalf("%s\n%+v: %v %+v, not %+v", impl.FlowPrint(lines), haps, ok, again, s)
		}
	}
}

// again lets what happened to a run happen again, with patches, not live; it tells the states.
func (l lived) again(t *testing.T, patches []string) []impl.RunState {
	t.Helper()
	s, ok := impl.RunStart(l.lines, l.args, patches, false)
	if !ok {
		t.Fatalf("%s does not start", impl.FlowPrint(l.lines))
	}
	states := []impl.RunState{s}
	for _, h := range l.haps {
		s, _ = impl.RunDo(l.lines, s, h, patches, false)
		states = append(states, s)
	}
	return states
}

// P14: done again with the patches that it had, a run comes just as far; without any, none is there.
func TestPatchesAgain(t *testing.T) {
	t.Parallel()
	marked := 0
	for seed := range int64(4000) {
		l := newMaker(seed).live(t, 30)
		var patches []string
		for _, mark := range l.last().Marks {
			if mark.Num != 1 {
				t.Fatalf("%s\n%+v was live", impl.FlowPrint(l.lines), l.last())
			}
			patches = append(patches, mark.Name)
		}
		marked += len(patches)
		for i, s := range l.again(t, patches) {
			if !sameState(s, l.states[i]) {
				t.Fatalf("%s\n%+v\n%+v, not %+v", impl.FlowPrint(l.lines), l.haps[:i], s, l.states[i])
			}
		}
		for _, s := range l.again(t, nil) {
			if slices.ContainsFunc(s.Marks, func(mark impl.RunVar) bool { return mark.Num != 0 }) {
				t.Fatalf("%s\n%+v has a patch", impl.FlowPrint(l.lines), s)
			}
		}
	}
	if marked < 1000 {
		t.Errorf("just %d patches", marked)
	}
}

// P15: there is a board of each state that is ok, and of no other; it has a line for each number, thread and ask.
func TestBoardsOfAllStates(t *testing.T) {
	t.Parallel()
	boards := 0
	for seed := range int64(4000) {
		m := newMaker(seed)
		l := m.live(t, 20)
		for _, s := range l.states {
			if got, want := impl.RunBoard(l.lines, s), modelBoard(s); got != want {
				t.Fatalf("%s\n%q, not %q", impl.FlowPrint(l.lines), got, want)
			}
			spoiled := m.spoilState(s)
			if got, want := impl.RunBoard(l.lines, spoiled), modelBoard(spoiled); modelOk(l.lines, spoiled) && got != want || !modelOk(l.lines, spoiled) && got != "" {
				t.Fatalf("%s\n%+v: %q, not %q", impl.FlowPrint(l.lines), spoiled, got, want)
			}
			boards++
		}
	}
	if boards < 15000 {
		t.Errorf("just %d boards", boards)
	}
}
