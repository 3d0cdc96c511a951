package tests

import (
	"fmt"
	"slices"
	"strings"
	"testing"

	"loop.example/dunserv/impl"
)

// written is a world with one run of a workflow, with this inbox, of which so many were taken and written.
func written(t *testing.T, text string, args []int, many int, inbox ...impl.RunHap) impl.ServWorld {
	t.Helper()
	w := after(t, begun(t, 1, 1, text, args, "x"), leases(0, 0), takes(0, 0), writes(0))
	w.Runs[0].Inbox = inbox
	for range many {
		w = after(t, w, takes(0, 0), writes(0))
	}
	return w
}

// P23: times that are asked for are due then; each stays as it was.
func TestDues(t *testing.T) {
	text := "workflow w n\nboth\nsleep n\nsleep 7\nand\nboth\nget a go for 2\nand\ndo b x\nsleep -3\nend\nend\nreturn 1"
	w := begun(t, 1, 1, text, []int{9999}, "x")
	w.Now = 10
	w = after(t, w, leases(0, 0), takes(0, 0), writes(0))
	if want := []impl.ServDue{{Id: 1, Tick: 10009}, {Id: 2, Tick: 12}}; !slices.Equal(w.Runs[0].Dues, want) {
		t.Errorf("%+v, not %+v", w.Runs[0].Dues, want)
	}
	w = after(t, w, tries(0, 3), impl.ServEvent{Kind: impl.ServTicks}, takes(0, 0), writes(0))
	if want := []impl.ServDue{{Id: 1, Tick: 10009}, {Id: 2, Tick: 12}, {Id: 4, Tick: 8}}; !slices.Equal(w.Runs[0].Dues, want) {
		t.Errorf("%+v, not %+v", w.Runs[0].Dues, want)
	}
	w = after(t, w, fires(0, 4), signals(0, 1, "go", 5), takes(0, 0), writes(0), takes(0, 0), writes(0))
	if want := []impl.ServDue{{Id: 1, Tick: 10009}}; !slices.Equal(w.Runs[0].Dues, want) {
		t.Errorf("%+v, not %+v", w.Runs[0].Dues, want)
	}
	// What is due by hand is due then; what is due and not asked for goes; what is asked for and not due comes.
	w = written(t, text, []int{1}, 0, came("no", 1))
	w.Now = 50
	w.Runs[0].Dues = []impl.ServDue{{Id: 2, Tick: -5}, {Id: 9, Tick: 1}}
	w = after(t, w, takes(0, 0), writes(0))
	if want := []impl.ServDue{{Id: 1, Tick: 51}, {Id: 2, Tick: -5}}; !slices.Equal(w.Runs[0].Dues, want) {
		t.Errorf("%+v, not %+v", w.Runs[0].Dues, want)
	}
	w = after(t, w, cancels(0), takes(0, 0), writes(0))
	if len(w.Runs[0].Dues) != 0 || !w.Runs[0].Closed {
		t.Errorf("%+v", w.Runs[0])
	}
}

// P23: tries of what is still asked for stay.
func TestTriesOfWhatIsAnswered(t *testing.T) {
	text := "workflow w n\nboth\ndo a x n\ndo b y a\nand\ndo c z n\nend\nreturn b"
	w := after(t, written(t, text, []int{4}, 0), tries(0, 1), tries(0, 2))
	if want := []impl.ServTry{{Id: 1, Tries: 1, Next: 3}, {Id: 2, Tries: 1, Next: 3}}; !slices.Equal(w.Runs[0].Tries, want) {
		t.Errorf("%+v, not %+v", w.Runs[0].Tries, want)
	}
	w = after(t, w, takes(0, 0), writes(0))
	if want := []impl.ServTry{{Id: 2, Tries: 1, Next: 3}}; !slices.Equal(w.Runs[0].Tries, want) {
		t.Errorf("%+v, not %+v", w.Runs[0].Tries, want)
	}
	// The answer to the second one is taken, but not written: it may be tried on.
	w = after(t, w, takes(0, 0))
	w = after(t, w, ticks(3)...)
	w = after(t, w, tries(0, 2), tries(0, 3))
	if want := []impl.ServTry{{Id: 2, Tries: 2, Next: 9}, {Id: 3, Tries: 1, Next: 6}}; !slices.Equal(w.Runs[0].Tries, want) || len(w.Runs[0].Inbox) != 3 {
		t.Errorf("%+v", w.Runs[0])
	}
	w = after(t, w, writes(0))
	if want := []impl.ServTry{{Id: 3, Tries: 1, Next: 6}}; !slices.Equal(w.Runs[0].Tries, want) || len(w.Runs[0].Inbox) != 2 {
		t.Errorf("%+v", w.Runs[0])
	}
	if _, code := impl.ServDo(w, tries(0, 2)); code != 5 {
		t.Errorf("what is answered is tried with %d", code)
	}
	w = after(t, w, takes(0, 0), writes(0))
	if len(w.Runs[0].Tries) != 0 || !w.Runs[0].Closed || !impl.ServSafe(w) {
		t.Errorf("%+v", w)
	}
}

// P23, P25: what is tried, with each code of it.
func TestTries(t *testing.T) {
	base := someWorld(t)
	base.Now = 9
	tried := func(now int, try impl.ServTry) func(w *impl.ServWorld) {
		return func(w *impl.ServWorld) { w.Now, w.Runs[2].Tries = now, []impl.ServTry{try} }
	}
	effects := func(many int, own bool) func(w *impl.ServWorld) {
		return func(w *impl.ServWorld) {
			if !own {
				w.Effects = w.Effects[:2]
			}
			for len(w.Effects) < many {
				w.Effects = append(w.Effects, impl.ServEffect{Key: fmt.Sprintf("p%03d", len(w.Effects)), Tries: 1})
			}
		}
	}
	often := func(many int) func(w *impl.ServWorld) {
		return func(w *impl.ServWorld) { w.Effects[2].Tries = many }
	}
	most := impl.ServMaxTick
	checkDo(t, base, map[string]doCase{
		"what is asked for":               {asItIs, tries(2, 1), 0},
		"what was never tried":            {func(w *impl.ServWorld) { w.Runs[2].Tries = nil }, tries(2, 1), 0},
		"lost":                            {asItIs, impl.ServEvent{Kind: impl.ServTries, Run: 2, Id: 1, Lost: true}, 0},
		"no run":                          {asItIs, tries(4, 1), 5},
		"a run below 0":                   {asItIs, tries(-1, 1), 5},
		"no ask":                          {asItIs, tries(2, 2), 5},
		"an ask below 1":                  {asItIs, tries(2, 0), 5},
		"an ask below 0":                  {asItIs, tries(2, -1), 5},
		"an ask far above":                {asItIs, tries(2, 1<<40), 5},
		"a time":                          {asItIs, tries(1, 1), 5},
		"one closed":                      {asItIs, tries(0, 1), 5},
		"one not begun":                   {asItIs, tries(3, 1), 5},
		"ahead of its time":               {tried(2, impl.ServTry{Id: 1, Tries: 1, Next: 3}), tries(2, 1), 7},
		"at its time":                     {tried(3, impl.ServTry{Id: 1, Tries: 1, Next: 3}), tries(2, 1), 0},
		"of another one it is not time":   {tried(3, impl.ServTry{Id: 2, Tries: 1, Next: 9}), tries(2, 1), 0},
		"the last time":                   {tried(3, impl.ServTry{Id: 1, Tries: most - 1, Next: 3}), tries(2, 1), 0},
		"one more time":                   {tried(3, impl.ServTry{Id: 1, Tries: most, Next: 3}), tries(2, 1), 4},
		"one more time, ahead of it":      {tried(2, impl.ServTry{Id: 1, Tries: most, Next: 3}), tries(2, 1), 7},
		"one more time of what is none":   {tried(2, impl.ServTry{Id: 2, Tries: most, Next: 3}), tries(2, 2), 5},
		"the last effect":                 {effects(impl.ServMaxEffects-1, false), tries(2, 1), 0},
		"one more effect":                 {effects(impl.ServMaxEffects, false), tries(2, 1), 4},
		"one more effect, ahead of time":  {func(w *impl.ServWorld) { effects(impl.ServMaxEffects, false)(w); w.Now = 2 }, tries(2, 1), 7},
		"all effects, and it is there":    {effects(impl.ServMaxEffects, true), tries(2, 1), 0},
		"done nearly too often":           {often(most - 1), tries(2, 1), 0},
		"done too often":                  {often(most), tries(2, 1), 4},
		"another one is done too often":   {func(w *impl.ServWorld) { w.Effects[1].Tries = most }, tries(2, 1), 0},
		"an inbox that is full":           {func(w *impl.ServWorld) { w.Runs[2].Inbox = signalsIn(0, 30) }, tries(2, 1), 0},
		"it is answered, but not written": {func(w *impl.ServWorld) { w.Runs[2].Inbox = []impl.RunHap{did(1, 3)} }, tries(2, 1), 0},
	})
	w := after(t, base, tries(2, 1))
	wantEffect, wantTry := impl.ServEffect{Key: "order/0/0", Answer: 3, Tries: 2}, impl.ServTry{Id: 1, Tries: 2, Next: 15}
	if w.Effects[2] != wantEffect || w.Runs[2].Tries[0] != wantTry || !slices.Equal(w.Runs[2].Inbox, []impl.RunHap{came("go", 3), did(1, 3)}) {
		t.Errorf("%+v", w)
	}
	// What was done in the world stays as it was done, whatever RunAnswer says.
	w = clone(base)
	w.Effects[2].Answer = -9999
	w = after(t, w, tries(2, 1))
	if w.Effects[2].Answer != -9999 || w.Runs[2].Inbox[1] != did(1, -9999) {
		t.Errorf("%+v", w)
	}
	// Without room, or lost, it was done all the same.
	for _, change := range []func(w *impl.ServWorld, e *impl.ServEvent){
		func(w *impl.ServWorld, e *impl.ServEvent) { w.Runs[2].Inbox = signalsIn(0, 30) },
		func(w *impl.ServWorld, e *impl.ServEvent) { e.Lost = true },
	} {
		w, e := clone(base), tries(2, 1)
		w.Effects, w.Runs[2].Tries = w.Effects[:2], nil
		change(&w, &e)
		waits := w.Runs[2].Inbox
		w = after(t, w, e)
		if w.Effects[2] != (impl.ServEffect{Key: "order/0/0", Answer: 3, Tries: 1}) || w.Runs[2].Tries[0] != (impl.ServTry{Id: 1, Tries: 1, Next: 12}) || !slices.Equal(w.Runs[2].Inbox, waits) {
			t.Errorf("%+v", w)
		}
	}
	w = after(t, base, tries(2, 1))
	w.Runs[2].Inbox = signalsIn(0, 29)
	w.Runs[2].Tries = nil
	w = after(t, w, tries(2, 1))
	if len(w.Runs[2].Inbox) != 30 || w.Runs[2].Inbox[29] != did(1, 3) {
		t.Errorf("%+v", w.Runs[2])
	}
}

// P23: effects stand in order by their keys; those of another chain, or of what is undone, are others.
func TestKeysInTheWorld(t *testing.T) {
	w := begun(t, 1, 1, "workflow w n\nboth\ndo a x undo ux\nand\ndo b y undo uy\nend\nif n less 2\nlet m add n 1\nnext m\nend\nfail 5", []int{1}, "ab", "a")
	w = after(t, w, leases(0, 0))
	w = impl.ServCalm(w, 12)
	var keys []string
	for _, effect := range w.Effects {
		keys = append(keys, effect.Key)
	}
	want := strings.Fields("a/0/0.0 a/0/1.0 a/1/0.0 a/1/0.0- a/1/1.0 a/1/1.0- ab/0/0.0 ab/0/1.0 ab/1/0.0 ab/1/0.0- ab/1/1.0 ab/1/1.0-")
	if !slices.Equal(keys, want) || !impl.ServSafe(w) {
		t.Errorf("%q, not %q\n%s", keys, want, impl.ServBoard(w))
	}
	for _, effect := range w.Effects {
		if effect.Tries != 1 {
			t.Errorf("%+v", effect)
		}
	}
}

// P25: times that come.
func TestFires(t *testing.T) {
	at := func(now int) func(w *impl.ServWorld) { return func(w *impl.ServWorld) { w.Now = now } }
	inbox := func(many int) func(w *impl.ServWorld) {
		return func(w *impl.ServWorld) { w.Now, w.Runs[1].Inbox = 6, signalsIn(0, many) }
	}
	closed := func(now, many int) func(w *impl.ServWorld) {
		return func(w *impl.ServWorld) {
			w.Now, w.Runs[0].Dues, w.Runs[0].Inbox = now, []impl.ServDue{{Id: 1, Tick: 6}}, signalsIn(0, many)
		}
	}
	checkDo(t, someWorld(t), map[string]doCase{
		"at its tick":               {at(6), fires(1, 1), 0},
		"behind its tick":           {at(7), fires(1, 1), 0},
		"ahead of its tick":         {at(5), fires(1, 1), 7},
		"no due":                    {at(6), fires(1, 2), 7},
		"a due below 0":             {at(6), fires(1, -1), 7},
		"what has a name":           {at(6), fires(2, 1), 7},
		"one not begun":             {at(6), fires(3, 1), 7},
		"no run":                    {at(6), fires(4, 1), 5},
		"a run below 0":             {at(6), fires(-1, 1), 5},
		"the last in the inbox":     {inbox(29), fires(1, 1), 0},
		"one more in the inbox":     {inbox(30), fires(1, 1), 4},
		"full, ahead of its tick":   {func(w *impl.ServWorld) { inbox(30)(w); w.Now = 5 }, fires(1, 1), 7},
		"one closed":                {at(6), fires(0, 1), 7},
		"one closed, with a due":    {closed(6, 0), fires(0, 1), 6},
		"one closed, ahead of it":   {closed(5, 0), fires(0, 1), 7},
		"one closed, and full":      {closed(6, 30), fires(0, 1), 6},
		"below 0 is ahead of all":   {func(w *impl.ServWorld) { w.Now, w.Runs[1].Dues[0].Tick = 0, -1 }, fires(1, 1), 0},
		"twice, as not yet written": {func(w *impl.ServWorld) { w.Now, w.Runs[1].Inbox = 6, []impl.RunHap{fired(1)} }, fires(1, 1), 0},
	})
	w := clone(someWorld(t))
	w.Now = 6
	w = after(t, w, fires(1, 1))
	if !slices.Equal(w.Runs[1].Inbox, []impl.RunHap{fired(1)}) || !slices.Equal(w.Runs[1].Dues, someWorld(t).Runs[1].Dues) {
		t.Errorf("%+v", w.Runs[1])
	}
}

// P23: a run that begins anew, with signals and cancels left.
func TestBeginsAnew(t *testing.T) {
	inbox := []impl.RunHap{came("go", 7), fired(1), came("go", 2), cancelled(), did(1, 1), cancelled(), broke(1, 1), came("up", 3), {Kind: impl.HapCancel, Id: 5}}
	w := written(t, anewFlow, []int{4}, 0)
	w.Runs[0].Inbox = slices.Concat([]impl.RunHap{came("on", 1), came("up", 2), came("on", 1)}, inbox)
	w = after(t, w, takes(0, 0), writes(0), takes(0, 0), writes(0), takes(0, 0), writes(0), takes(0, 0), writes(0))
	want := impl.ServRun{Name: "x", Args: []int{5}, Chain: 1, Inbox: []impl.RunHap{came("on", 1), came("up", 2), came("on", 1), came("go", 2), cancelled(), came("up", 3)}}
	if !same(w.Runs, []impl.ServRun{want}) || !impl.ServSafe(w) {
		t.Errorf("%+v, not %+v", w.Runs, want)
	}
	// It goes on from there: the same signals, by its new number.
	w = impl.ServCalm(after(t, w, leases(0, 0)), 3)
	if got := histTold(w.Runs[0].Hist); got != "start 5;signal on 1;signal up 2;signal on 1;signal go 2;end 1 5" || !w.Runs[0].Closed {
		t.Errorf("%q", got)
	}
	for name, c := range map[string]struct {
		num, chain, now int
		anew            bool
	}{
		"one more chain":       {7, impl.ServMaxChain - 1, impl.ServMaxChain, true},
		"the last chain":       {7, impl.ServMaxChain, impl.ServMaxChain, false},
		"too few args":         {8, 3, 3, false},
		"too many args":        {9, 3, 3, false},
		"too few, last chain":  {8, impl.ServMaxChain, impl.ServMaxChain, false},
		"as many as there are": {7, 3, 4, true},
	} {
		w := written(t, anewFlow, []int{4}, 0)
		w.Runs[0].Chain, w.Runs[0].Inbox = c.chain, []impl.RunHap{came("go", c.num), came("go", 1)}
		w = after(t, w, takes(0, 0), writes(0))
		run := w.Runs[0]
		if run.Chain != c.now || run.Closed == c.anew || (len(run.Hist) == 0) != c.anew || len(run.Inbox) != 1 {
			t.Errorf("%s: %+v", name, run)
		}
		if board := impl.ServBoard(w); !c.anew && !strings.Contains(board, " anew 0, 3 written, 1 waiting\n") {
			t.Errorf("%s: %q", name, board)
		}
	}
}

// P23: of what is left, as much goes along as an inbox has room for.
func TestBeginsAnewWithAFullInbox(t *testing.T) {
	for boxed := range 21 {
		for _, left := range [][2]int{{0, 0}, {5, 3}, {9, 0}, {10, 0}, {11, 1}, {29, 0}, {20, 9}, {0, 29}} {
			w := written(t, "workflow w n\ndo a x\nnext n", []int{4}, 0)
			w.Runs[0].Hist = histRead(t, "start 4;ask 1 0 x"+strings.Repeat(";signal on 1", boxed))
			// Behind the one that lets it begin anew: signals, what does not go along, and cancels at the end.
			w.Runs[0].Inbox = append([]impl.RunHap{did(1, 3)}, signalsIn(left[0], left[1])...)
			for len(w.Runs[0].Inbox) < impl.ServMaxInbox {
				w.Runs[0].Inbox = append(w.Runs[0].Inbox, cancelled())
			}
			cancel := 0
			if left[0]+left[1] < impl.ServMaxInbox-1 {
				cancel = 1
			}
			w = after(t, w, takes(0, 0), writes(0))
			run := w.Runs[0]
			want := slices.Concat(slices.Repeat([]impl.RunHap{came("on", 1)}, boxed), signalsIn(left[0], 0), slices.Repeat([]impl.RunHap{cancelled()}, cancel))
			if run.Chain != 1 || !slices.Equal(run.Inbox, want[:min(len(want), impl.ServMaxInbox)]) || !impl.ServOk(w) {
				t.Errorf("%d in the box, %v left: %+v", boxed, left, run)
			}
		}
	}
}

// P23, P26: what is in hands when a run begins anew is late then.
func TestHandsWhenARunBeginsAnew(t *testing.T) {
	w := written(t, anewFlow, []int{4}, 0)
	w.Runs[0].Inbox = []impl.RunHap{came("go", 7), came("go", 7), came("go", 1)}
	w = after(t, w, takes(0, 0), takes(0, 0), takes(0, 0))
	w = after(t, w, writes(0))
	if w.Runs[0].Chain != 1 || len(w.Workers[0].Tasks) != 2 {
		t.Fatalf("%+v", w)
	}
	run := clone(w.Runs[0])
	for range 2 {
		var code int
		if w, code = impl.ServDo(w, writes(0)); code != 8 || !same(w.Runs[0], run) {
			t.Errorf("%d %+v", code, w.Runs[0])
		}
	}
	// A beginning that was taken twice is written once; that of the chain ahead is late, too, though nothing is written in either.
	w = after(t, begun(t, 1, 1, anewFlow, []int{4}, "x"), leases(0, 0), takes(0, 0), takes(0, 0), takes(0, 0), writes(0), signals(0, 1, "go", 7))
	if _, code := impl.ServDo(w, writes(0)); code != 8 {
		t.Errorf("a beginning is written twice, with %d", code)
	}
	w = after(t, w, takes(0, 0))
	w, _ = impl.ServDo(w, writes(0))
	w, _ = impl.ServDo(w, writes(0))
	w = after(t, w, writes(0))
	if w.Runs[0].Chain != 1 || len(w.Runs[0].Hist) != 0 {
		t.Fatalf("%+v", w.Runs[0])
	}
	w.Workers[0].Tasks = []impl.ServTask{{Term: 1, Put: histRead(t, "start 4")}}
	if next, code := doesAsModel(t, w, writes(0)); code != 8 || len(next.Runs[0].Hist) != 0 {
		t.Errorf("%d %+v", code, next.Runs[0])
	}
}

// P26: what was taken ahead, of a history that has gone on meanwhile, is late; so is what takes more than waits.
func TestHistoriesThatWentOn(t *testing.T) {
	w := begun(t, 1, 2, orderFlow, []int{2}, "x")
	w = after(t, w, leases(0, 0), takes(0, 0), writes(0), signals(0, 1, "go", 3), takes(0, 0))
	w = after(t, w, ticks(5)...)
	w = after(t, w, leases(1, 0), takes(1, 0), writes(1), signals(0, 2, "go", 4), takes(1, 0), takes(1, 0))
	w, code := doesAsModel(t, w, writes(0))
	if code != 8 || histTold(w.Runs[0].Hist) != "start 2;ask 1 0 pay 2;signal go 3" {
		t.Errorf("%d %q", code, histTold(w.Runs[0].Hist))
	}
	w = after(t, w, writes(1))
	if w, code = doesAsModel(t, w, writes(1)); code != 8 || histTold(w.Runs[0].Hist) != "start 2;ask 1 0 pay 2;signal go 3;signal go 4" || len(w.Runs[0].Inbox) != 0 {
		t.Errorf("%d %+v", code, w.Runs[0])
	}
	// Worker 0 gets the shard back: what it had in its hands is of the term that is over.
	w = after(t, w, signals(0, 3, "go", 5), takes(1, 0))
	w = after(t, w, ticks(5)...)
	w = after(t, w, leases(0, 0))
	if w, code = doesAsModel(t, w, writes(1)); code != 8 || len(w.Workers[1].Tasks) != 0 {
		t.Errorf("%d %+v", code, w)
	}
	w = after(t, w, takes(0, 0), writes(0))
	if !impl.ServSafe(w) || len(w.Runs[0].Hist) != 5 {
		t.Errorf("%+v", w)
	}
}

// P26: what would have more than HistMaxLen entries is late.
func TestWritesOfLongHistories(t *testing.T) {
	for i, c := range []struct {
		many int
		put  string
		code int
	}{
		{399, "signal go 1", 0}, {400, "signal go 1", 8}, {398, "signal go 7;end 1 7", 0}, {399, "signal go 7;end 1 7", 8},
		{399, "signal go 5;ask 1 0 x", 8}, {398, "signal go 5;ask 1 0 x", 0}, {400, "", 0}, {1, strings.Repeat("signal go 1;", 398) + "signal go 1", 0}, {2, strings.Repeat("signal go 1;", 398) + "signal go 1", 8},
	} {
		lines, list := waiting(t, c.many)
		w := after(t, begun(t, 1, 1, impl.FlowPrint(lines), nil, "x"), leases(0, 0))
		w.Runs[0].Hist = list
		w.Workers[0].Tasks = []impl.ServTask{{Term: 1, Len: c.many, Put: histRead(t, c.put)}}
		next, code := doesAsModel(t, w, writes(0))
		if code != c.code || (code == 0) != sameHist(next.Runs[0].Hist, append(list, histRead(t, c.put)...)) || len(next.Workers[0].Tasks) != 0 {
			t.Errorf("case %d: %d, %d written", i, code, len(next.Runs[0].Hist))
		}
	}
}

// P23: what stands in hands may go on within what the run said last: a patch that was met and not yet told.
func TestWritesWithinAStretch(t *testing.T) {
	w := written(t, "workflow w\nget a go\npatch p\nlet b is 1\nend\nget c go\nreturn c", nil, 0)
	w.Runs[0].Hist = histRead(t, "start;signal go 1")
	for put, want := range map[string]int{"mark p": 0, "mark q": 8, "mark p;signal go 2;end 1 2": 0, "mark p;mark p": 8, "signal go 2;end 1 2": 0} {
		x := clone(w)
		x.Workers[0].Tasks = []impl.ServTask{{Term: 1, Len: 2, Put: histRead(t, put)}}
		next, code := doesAsModel(t, x, writes(0))
		if code != want || want == 0 && histTold(next.Runs[0].Hist) != "start;signal go 1;"+put {
			t.Errorf("%q: %d %q", put, code, histTold(next.Runs[0].Hist))
		}
	}
	// What is written is replayed, not live: a patch is there just if that says so.
	w.Runs[0].Hist = histRead(t, "start")
	for put, want := range map[string]int{"signal go 1": 0, "signal go 1;mark p": 0, "signal go 1;signal go 2;end 1 2": 0, "signal go 1;mark p;signal go 2;end 1 2": 0, "mark p;signal go 1": 8} {
		x := clone(w)
		x.Workers[0].Tasks = []impl.ServTask{{Term: 1, Len: 1, Put: histRead(t, put)}}
		if next, code := doesAsModel(t, x, writes(0)); code != want {
			t.Errorf("%q: %d %q", put, code, histTold(next.Runs[0].Hist))
		}
	}
}

// P23: changes of flows while runs live.
func TestDeploys(t *testing.T) {
	order := linesOf(t, orderFlow)
	checkDo(t, someWorld(t), map[string]doCase{
		"the same lines":               {asItIs, deploys(0, order), 0},
		"a patch behind all that came": {asItIs, deploys(0, flowOf(t, "m", "do d pay m;get e go;do f mail e;patch p;sleep 1;end;return f")), 0},
		"a patch":                      {asItIs, deploys(0, flowOf(t, "m", "do d pay m undo x;get e go;patch p;sleep 1;end;do f mail e;return f")), 0},
		"without the patch":            {asItIs, deploys(0, flowOf(t, "m", "do d pay m undo x;get e go;sleep 1;do f mail e;return f")), 9},
		"what fits one, not the other": {asItIs, deploys(0, flowOf(t, "m", "do d pay m;return d")), 9},
		"nobody has begun": {func(w *impl.ServWorld) {
			w.Runs[0].Hist, w.Runs[0].Closed, w.Runs[2].Hist, w.Runs[2].Tries = nil, false, nil, nil
		}, deploys(0, flowOf(t, "m", "return m")), 0},
		"of another flow":         {asItIs, deploys(1, flowOf(t, "", "sleep 5;sleep 7;return 1")), 0},
		"that does not fit":       {asItIs, deploys(1, flowOf(t, "", "sleep 6;return 1")), 9},
		"more names":              {asItIs, deploys(0, flowOf(t, "n m", "return n")), 2},
		"fewer names":             {asItIs, deploys(0, flowOf(t, "", "return 1")), 2},
		"names for none":          {asItIs, deploys(1, order), 2},
		"no lines":                {asItIs, deploys(0, nil), 2},
		"lines with a fault":      {asItIs, deploys(0, order[:3]), 2},
		"no flow":                 {asItIs, deploys(2, order), 5},
		"a flow below 0":          {asItIs, deploys(-1, order), 5},
		"no flow, and a fault":    {asItIs, deploys(2, nil), 5},
		"a flow of no run":        {func(w *impl.ServWorld) { w.Flows = append(w.Flows, order) }, deploys(2, flowOf(t, "n", "return n")), 0},
		"other names of the head": {asItIs, deploys(0, linesOf(t, "workflow other k\ndo a pay k undo back\nget b go\ndo c mail b\nreturn c")), 0},
	})
	// Runs go on by what is there then, and begin by it.
	w := after(t, someWorld(t), deploys(0, flowOf(t, "m", "do d pay m;get e go;patch p;do g more e;end;do f mail e;return f")), takes(1, 2), writes(1), tries(2, 1))
	w.Now = 20
	w = after(t, w, tries(2, 1), takes(1, 2), writes(1), takes(1, 3), writes(1))
	if got := histTold(w.Runs[2].Hist); got != "start 2;ask 1 0 pay 2;signal go 3;done 1 3;mark p;ask 2 1 more 3" {
		t.Errorf("%q", got)
	}
	if got := histTold(w.Runs[3].Hist); got != "start -9999;ask 1 0 pay -9999" || !impl.ServOk(w) {
		t.Errorf("%q", got)
	}
	// What was taken by the lines ahead and does not fit those that came is late.
	w = after(t, someWorld(t), impl.ServEvent{Kind: impl.ServBegins, Id: 1, Name: "z"}, leases(1, 1), leases(1, 0))
	w.Runs[4].Flow, w.Runs[4].Args = 0, []int{5}
	w.Flows = append(w.Flows, linesOf(t, "workflow w n\ndo a pay n\nreturn a"))
	w.Runs[4].Flow = 2
	w = after(t, w, takes(1, 4), deploys(2, flowOf(t, "n", "do b mail n;return b")))
	next, code := doesAsModel(t, w, writes(1))
	if code != 8 || len(next.Runs[4].Hist) != 0 || len(next.Workers[1].Tasks) != 0 {
		t.Errorf("%d %+v", code, next.Runs[4])
	}
}
