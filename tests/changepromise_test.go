package tests

import (
	"slices"
	"testing"

	"loop.example/dunserv/impl"
)

// P20: a changed workflow does all that each history of the one before says, with patches that are there and that are not, and stands alike.
func TestWithinAPatch(t *testing.T) {
	t.Parallel()
	swapped, stand, replayed, met := map[bool]int{}, map[int]int{}, 0, 0
	for seed := range int64(2500) {
		m := newMaker(seed)
		lines := m.runFlow(3 + m.Intn(22))
		from, to, _, changed, ok := m.swap(lines)
		if !ok {
			continue
		}
		swapped[to > from]++
		for range 4 {
			list, s := m.history(t, lines, m.Intn(30))
			if len(list) > impl.HistMaxLen {
				continue
			}
			replayed++
			again, found := impl.HistReplay(changed, list)
			if found.Code != 0 || !impl.RunOk(changed, again) || !standsAlike(again, s) {
				t.Fatalf("%s\nfrom %d to %d\n%s\n%q: %+v %+v, not %+v", impl.FlowPrint(lines), from, to, impl.FlowPrint(changed), histTold(list), found, again, s)
			}
			stand[s.Stands]++
			if slices.ContainsFunc(again.Marks, isOfTheChange) {
				met++
			}
		}
	}
	// Each way to stand came up, and the patch was met often.
	if swapped[true] < 600 || swapped[false] < 400 || replayed < 5000 || met < 1500 || min(stand[impl.RunLive], stand[impl.RunDone], stand[impl.RunFailed], stand[impl.RunAnew], stand[impl.RunStopped]) < 100 {
		t.Errorf("swapped: %v, replayed: %d, the patch was met: %d, how they stand: %v", swapped, replayed, met, stand)
	}
}

func isOfTheChange(mark impl.RunVar) bool {
	return mark.Name == "fix"
}

// standsAlike says whether a run of a changed workflow has all that one of the one before has, but for where threads are, and for the patch.
func standsAlike(again, s impl.RunState) bool {
	again, s = cloneState(again), cloneState(s)
	for _, one := range []*impl.RunState{&again, &s} {
		one.Marks = slices.DeleteFunc(one.Marks, isOfTheChange)
		for i := range one.Threads {
			one.Threads[i].At = 0
		}
	}
	return sameState(again, s)
}

// P20: so it is, wherever the patch stands, with as many steps between two things that happen as may be, and with one more, of which a patch is none.
func TestWithinAPatchAtMostSteps(t *testing.T) {
	for row, busy := range map[string]bool{
		"sleep 1;let i is 0;while i less 98;let i add i 1;end;sleep 2;return i":                          false, // 199 steps up to the second time
		"sleep 1;let i is 0;while i less 98;let i add i 1;end;let i add i 0;sleep 2;return i":            false, // 200
		"sleep 1;let i is 0;while i less 98;let i add i 1;end;let i add i 0;let j is i;sleep 2;return i": true,
	} {
		lines := flowOf(t, "", row)
		many := 0
		for from := range len(lines) {
			for to := range len(lines) + 1 {
				changed, ok := impl.VerSwap(lines, from, to, "fix", anyRows("let i is 5"))
				if !ok {
					continue
				}
				many++
				for answers := range 3 {
					list := impl.HistOf(lines, nil, nil, nil, answers)
					s, _ := impl.HistReplay(lines, list)
					again, found := impl.HistReplay(changed, list)
					if found.Code != 0 || !standsAlike(again, s) || answers > 0 && isBusy(s) != busy {
						t.Errorf("%q from %d to %d: %q: %+v %+v, not %+v", row, from, to, histTold(list), found, again, s)
					}
				}
			}
		}
		if many < 2*len(lines)-4 {
			t.Errorf("%q: %d are changed", row, many)
		}
	}
}

// P21: what comes of a change is ok, and has the lines of the one before in order, with the patch, what was put in, and nothing else.
func TestLinesOfChanges(t *testing.T) {
	many := 0
	for seed := range int64(3000) {
		m := newMaker(seed)
		lines := m.runFlow(1 + m.Intn(25))
		from, to, more, changed, ok := m.swap(lines)
		if !ok {
			continue
		}
		many++
		want := slices.Concat(lines[:from], anyRows("patch fix"), more)
		if to > from {
			want = append(want, impl.FlowLine{Kind: impl.FlowElse})
		}
		want = slices.Concat(want, lines[from:to], anyRows("end"), lines[to:])
		if impl.FlowCheck(changed).Code != 0 || !sameLines(changed, want) || !hasInOrder(changed, lines) {
			t.Fatalf("%s\nfrom %d to %d\n%s", impl.FlowPrint(lines), from, to, impl.FlowPrint(changed))
		}
		put, ok := impl.VerInsert(lines, from, "fix", more)
		if ok && (impl.FlowCheck(put).Code != 0 || !hasInOrder(put, lines) || len(put) != len(lines)+len(more)+2) || to == from && !ok {
			t.Fatalf("%s\nat %d\n%v %s", impl.FlowPrint(lines), from, ok, impl.FlowPrint(put))
		}
	}
	if many < 1500 {
		t.Errorf("changed: %d", many)
	}
}

// hasInOrder says whether lines are among others, in order.
func hasInOrder(all, lines []impl.FlowLine) bool {
	for _, line := range all {
		if len(lines) > 0 && sameLine(line, lines[0]) {
			lines = lines[1:]
		}
	}
	return len(lines) == 0
}

// smallHistories are all small histories of a workflow, by going on from each one first; false, if they are more than so many.
func smallHistories(lines []impl.FlowLine, most int) ([][]impl.HistEntry, bool) {
	var all [][]impl.HistEntry
	var goOn func(list []impl.HistEntry, s impl.RunState)
	goOn = func(list []impl.HistEntry, s impl.RunState) {
		all = append(all, list)
		for _, h := range modelComes(lines, s) {
			if next, code := impl.RunDo(lines, s, h, nil, true); code == 0 && len(all) <= most {
				goOn(slices.Concat(list, []impl.HistEntry{modelCame(h)}, modelSays(s, next)), next)
			}
		}
	}
	for _, args := range modelBeginnings(len(lines[0].Args)) {
		s, _ := impl.RunStart(lines, args, nil, true)
		goOn(append([]impl.HistEntry{ent(impl.EntStart, 0, "", "", args...)}, modelSays(impl.RunState{Next: 1}, s)...), s)
	}
	return all, len(all) <= most
}

// P22: with 1 old does the history that is told, and next does not, but each shorter beginning of it; with 0 next does all small ones; with 2 they are too many.
func TestLooksKeepTheirPromise(t *testing.T) {
	t.Parallel()
	codes := map[int]int{}
	for seed := range int64(1500) {
		m := newMaker(seed)
		old := m.runFlow(1 + m.Intn(9))
		next := m.another(old)
		if m.Intn(3) == 0 {
			next = m.another(next)
		}
		all, few := smallHistories(old, impl.VerMaxPairs)
		code, list := impl.VerLook(old, next)
		codes[code]++
		switch code {
		case 0:
			if !few {
				t.Fatalf("%s has more than %d", impl.FlowPrint(old), len(all))
			}
			for _, small := range all {
				if _, found := impl.HistReplay(next, small); found.Code != 0 {
					t.Fatalf("%s\nby\n%s\n%q: %+v", impl.FlowPrint(old), impl.FlowPrint(next), histTold(small), found)
				}
			}
		case 1:
			_, found := impl.HistReplay(old, list)
			_, unlike := impl.HistReplay(next, list)
			if found.Code != 0 || unlike.Code == 0 || few && !slices.ContainsFunc(all, func(small []impl.HistEntry) bool { return sameHist(small, list) }) {
				t.Fatalf("%s\nby\n%s\n%q: %+v and %+v", impl.FlowPrint(old), impl.FlowPrint(next), histTold(list), found, unlike)
			}
			places := placesOf(list)
			if _, found := impl.HistReplay(next, list[:places[len(places)-1]]); len(places) > 1 && found.Code != 0 {
				t.Fatalf("%s\nby\n%s\n%q: %+v ahead", impl.FlowPrint(old), impl.FlowPrint(next), histTold(list), found)
			}
		case 2:
			if few {
				t.Fatalf("%s has just %d", impl.FlowPrint(old), len(all))
			}
		}
	}
	if codes[0] < 200 || codes[1] < 300 || codes[2] < 50 {
		t.Errorf("codes: %v", codes)
	}
}

// P20, P22: a workflow that is changed, and changed again, is looked at as alike, or there is too much to look at.
func TestLooksAtChanges(t *testing.T) {
	t.Parallel()
	codes := map[int]int{}
	for seed := range int64(1000) {
		m := newMaker(seed)
		old := m.runFlow(1 + m.Intn(9))
		_, _, _, next, ok := m.swap(old)
		if !ok {
			continue
		}
		if m.Intn(2) == 0 {
			from, to := m.evenStretch(next)
			if again, ok := impl.VerSwap(next, from, to, "fax", m.putIn(old)); ok {
				next = again
			}
		}
		code, list := impl.VerLook(old, next)
		codes[code]++
		if _, few := smallHistories(old, impl.VerMaxPairs); few != (code == 0) || code == 1 || len(list) != 0 {
			t.Fatalf("%s\nby\n%s\n%d %q", impl.FlowPrint(old), impl.FlowPrint(next), code, histTold(list))
		}
	}
	if codes[0] < 200 || codes[2] < 100 {
		t.Errorf("codes: %v", codes)
	}
}
