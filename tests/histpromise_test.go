package tests

import (
	"slices"
	"testing"

	"loop.example/dunserv/impl"
)

// placesOf are the places at which something came, in order.
func placesOf(list []impl.HistEntry) []int {
	var places []int
	for at, e := range list {
		if saysWhatCame(e) {
			places = append(places, at)
		}
	}
	return places
}

// P16: the history of a play says just what happened, and is replayed to where the run stands; so is each beginning of it.
func TestHistoriesOfPlaysAreReplayed(t *testing.T) {
	long, beginnings := 0, 0
	for seed := range int64(2000) {
		m := newMaker(seed)
		lines := m.runFlow(4 + m.Intn(26))
		args, signals, picks, most := m.numsFor(lines), m.signalList(), m.picks(), []int{0, 1, 3, 10, 30, 210}[m.Intn(6)]
		list := impl.HistOf(lines, args, signals, picks, most)
		played, haps := impl.RunPlay(lines, args, signals, picks, most)
		places := placesOf(list)
		if len(places) != 1+len(haps) || places[0] != 0 || !sameHist(list[:1], []impl.HistEntry{ent(impl.EntStart, 0, "", "", args...)}) {
			t.Fatalf("%s\n%q begins with %v, then come %+v", impl.FlowPrint(lines), histTold(list), args, haps)
		}
		if len(list) > impl.HistMaxLen {
			long++
		} else if s, found := impl.HistReplay(lines, list); found.Code != 0 || !sameState(s, played) {
			t.Fatalf("%s\n%q: %+v %+v, not %+v", impl.FlowPrint(lines), histTold(list), found, s, played)
		}
		for i, h := range haps {
			at := places[i+1]
			if !sameHist(list[at:at+1], []impl.HistEntry{modelCame(h)}) {
				t.Fatalf("%s\n%+v, not %+v", impl.FlowPrint(lines), list[at], h)
			}
			if at > impl.HistMaxLen || i > 5 && m.Intn(9) > 0 {
				continue
			}
			beginnings++
			s, found := impl.HistReplay(lines, list[:at])
			if folded, _ := impl.RunFold(lines, args, haps[:i]); found.Code != 0 || !sameState(s, folded) {
				t.Fatalf("%s\n%q: %+v %+v, not %+v", impl.FlowPrint(lines), histTold(list[:at]), found, s, folded)
			}
		}
	}
	if beginnings < 5000 {
		t.Errorf("beginnings: %d, too long: %d", beginnings, long)
	}
}

// P17: HistMore of what happens, one behind the other, is the history of a run that is live; with a code nothing is added.
func TestMoreAndMore(t *testing.T) {
	codes := map[int]int{}
	for seed := range int64(700) {
		m := newMaker(seed)
		l := m.live(t, 20)
		list := impl.HistOf(l.lines, l.args, nil, nil, 0)
		for i, h := range l.haps {
			s := l.states[i]
			other := m.anyHap(s)
			more, code := impl.HistMore(l.lines, list, other)
			next, refused := impl.RunDo(l.lines, s, other, nil, true)
			codes[code]++
			again, found := impl.HistReplay(l.lines, more)
			if code != refused || found.Code != 0 || !sameState(again, next) || !sameHist(more[:len(list)], list) || (code == 0) != (len(more) > len(list)) {
				t.Fatalf("%s\n%q, then %+v: %d %q, %+v %+v, not %+v", impl.FlowPrint(l.lines), histTold(list), other, code, histTold(more), found, again, next)
			}
			if code == 0 && !sameHist(more[len(list):len(list)+1], []impl.HistEntry{modelCame(other)}) {
				t.Fatalf("%s\n%q, then %+v: %q", impl.FlowPrint(l.lines), histTold(list), other, histTold(more))
			}
			list, code = impl.HistMore(l.lines, list, h)
			if again, found := impl.HistReplay(l.lines, list); code != 0 || found.Code != 0 || !sameState(again, l.states[i+1]) {
				t.Fatalf("%s\n%q: %d %+v %+v, not %+v", impl.FlowPrint(l.lines), histTold(list), code, found, again, l.states[i+1])
			}
		}
	}
	if codes[0] < 1000 || codes[3] < 400 || codes[5] < 800 {
		t.Errorf("codes: %v", codes)
	}
}

// P17: a play's history is what HistMore makes of its beginning and of all that happened.
func TestMoreOfPlays(t *testing.T) {
	for seed := range int64(700) {
		m := newMaker(seed)
		lines := m.runFlow(4 + m.Intn(26))
		args, signals, picks := m.numsFor(lines), m.signalList(), m.picks()
		want := impl.HistOf(lines, args, signals, picks, 30)
		_, haps := impl.RunPlay(lines, args, signals, picks, 30)
		list := impl.HistOf(lines, args, nil, nil, 0)
		for _, h := range haps {
			list, _ = impl.HistMore(lines, list, h)
		}
		if len(want) <= impl.HistMaxLen && !sameHist(list, want) {
			t.Fatalf("%s\n%q, not %q", impl.FlowPrint(lines), histTold(list), histTold(want))
		}
	}
}

// P18: what is written of a history is read as it, and written as it was.
func TestThereAndBack(t *testing.T) {
	for seed := range int64(3000) {
		m := newMaker(seed)
		list, _ := m.history(t, m.runFlow(4+m.Intn(26)), m.Intn(60))
		text := impl.HistWrite(list)
		read, ok := impl.HistRead(text)
		short := len(text) <= impl.HistMaxText
		if (text == "") != (len(list) > impl.HistMaxLen) || text != "" && (ok != short || short && (!sameHist(read, list) || impl.HistWrite(read) != text)) {
			t.Fatalf("%q: %v %q", text, ok, impl.HistWrite(read))
		}
	}
}

// beginningAhead is the part of a history with a fault ahead of what came last ahead of that, or of what may not come.
func beginningAhead(list []impl.HistEntry, found impl.HistFault) []impl.HistEntry {
	if found.Code == impl.HistNever {
		return list[:found.At]
	}
	places := placesOf(list[:found.At])
	return list[:places[len(places)-1]]
}

// mayBeAt says whether a fault is at a place where its code may be.
func mayBeAt(list []impl.HistEntry, found impl.HistFault) bool {
	behind := found.At == len(list)
	switch found.Code {
	case 0:
		return found.At == 0
	case impl.HistBad:
		return found.At >= 0 && !behind || len(list) == 0
	case impl.HistMissing:
		return found.At > 0 && (behind || saysWhatCame(list[found.At]))
	}
	return found.At >= 0 && !behind && saysWhatCame(list[found.At]) == (found.Code == impl.HistNever)
}

// P19: a history has no fault ahead of what came last ahead of one, nor behind any time up to there.
func TestNoFaultAhead(t *testing.T) {
	t.Parallel()
	faults := map[int]int{}
	for seed := range int64(2500) {
		m := newMaker(seed)
		lines := m.runFlow(4 + m.Intn(26))
		list, _ := m.history(t, lines, m.Intn(25))
		for range 6 {
			spoiled := m.spoilHist(list)
			if m.Intn(2) == 0 {
				spoiled = m.spoilHist(spoiled)
			}
			_, found := impl.HistReplay(lines, spoiled)
			faults[found.Code]++
			bad := slices.IndexFunc(spoiled, func(e impl.HistEntry) bool { return !modelEntryOk(e) })
			if bad >= 0 && (found.Code != impl.HistBad || found.At > bad) || !mayBeAt(spoiled, found) {
				t.Fatalf("%s\n%+v: %+v", impl.FlowPrint(lines), spoiled, found)
			}
			if found.Code == 0 || found.Code == impl.HistBad {
				continue
			}
			ahead := beginningAhead(spoiled, found)
			for _, at := range append(placesOf(ahead), len(ahead)) {
				want := impl.HistFault{}
				if at == 0 {
					want = histFault(0, impl.HistBad)
				}
				if _, other := impl.HistReplay(lines, spoiled[:at]); other != want {
					t.Fatalf("%s\n%+v: %+v, but up to %d %+v", impl.FlowPrint(lines), spoiled, found, at, other)
				}
			}
			// What comes behind it changes nothing.
			end := len(spoiled)
			if n := slices.IndexFunc(placesOf(spoiled), func(at int) bool { return at > found.At }); n >= 0 {
				end = placesOf(spoiled)[n]
			}
			if _, other := impl.HistReplay(lines, spoiled[:end]); other != found {
				t.Fatalf("%s\n%+v: %+v, but up to %d %+v", impl.FlowPrint(lines), spoiled, found, end, other)
			}
		}
	}
	if faults[impl.HistUnlike] < 1000 || faults[impl.HistMissing] < 1000 || faults[impl.HistNever] < 200 {
		t.Errorf("faults: %v", faults)
	}
}
