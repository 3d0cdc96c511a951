package tests

import (
	"fmt"
	"slices"
	"strings"
	"testing"

	"loop.example/dunserv/impl"
)

type doCase struct {
	change func(w *impl.ServWorld)
	e      impl.ServEvent
	code   int
}

func asItIs(*impl.ServWorld) {}

// checkDo says of each event whether it has its code; with one the world stays, but that with 8 the task is out of hands.
func checkDo(t *testing.T, base impl.ServWorld, cases map[string]doCase) {
	t.Helper()
	for name, c := range cases {
		w := clone(base)
		c.change(&w)
		if !impl.ServOk(w) {
			t.Errorf("%s: %+v is not ok", name, w)
			continue
		}
		next, code := doesAsModel(t, w, c.e)
		if code != c.code || !impl.ServOk(next) {
			t.Errorf("%s: %d %+v", name, code, next)
		}
		if code == 8 {
			w.Workers[c.e.Who].Tasks = w.Workers[c.e.Who].Tasks[1:]
		}
		if code != 0 && !same(next, w) {
			t.Errorf("%s: with %d %+v, not %+v", name, code, next, w)
		}
	}
}

// P23, P26: the document's example, to the letter.
func TestServiceOfTheExample(t *testing.T) {
	w := opened(t, 1, 2, orderFlow)
	w = after(t, w, impl.ServEvent{Kind: impl.ServBegins, Name: "x", Nums: []int{2}}, leases(0, 0), takes(0, 0), writes(0))
	w = after(t, w, impl.ServEvent{Kind: impl.ServTries, Id: 1, Lost: true}, signals(0, 77, "go", 3), takes(0, 0), falls(1), rises(1))
	w = after(t, w, ticks(5)...)
	w = after(t, w, leases(1, 0))
	w, code := impl.ServDo(w, writes(0))
	if code != 8 {
		t.Errorf("written with %d", code)
	}
	w = after(t, w, signals(0, 77, "go", 3))
	if got := impl.ServBoard(w); got != "now 5\nshard 1 term 2 until 9\nx/0 live 0, 2 written, 1 waiting\nx/0/0 3, tried 1\n" {
		t.Errorf("%q", got)
	}
	w = impl.ServCalm(w, 3)
	if got := impl.ServBoard(w); got != "now 8\nshard 1 term 2 until 12\nx/0 done -1, 7 written, 0 waiting\nx/0/0 3, tried 2\nx/0/1 -1, tried 1\n" {
		t.Errorf("%q", got)
	}
	if got := histTold(w.Runs[0].Hist); got != "start 2;ask 1 0 pay 2;signal go 3;done 1 3;ask 2 1 mail 3;done 2 -1;end 1 -1" || !impl.ServSafe(w) {
		t.Errorf("%q", got)
	}
}

// P25: kinds that are none, workers that are none or down, and what is ahead of what.
func TestCodesOfWorkers(t *testing.T) {
	cases := map[string]doCase{}
	for _, kind := range []int{0, -1, 13, 1 << 40, -1 << 63} {
		cases[fmt.Sprintf("kind %d", kind)] = doCase{asItIs, impl.ServEvent{Kind: kind, Who: 9, Run: 9, Id: 9}, 2}
	}
	for kind := impl.ServTicks; kind <= impl.ServDeploys; kind++ {
		for _, who := range []int{-1, 3, 1 << 40, -1 << 63} {
			e := impl.ServEvent{Kind: kind, Who: who, Run: 9, Id: 9}
			code := []int{0, 0, 2, 2, 5, 5, 5, 5, 5, 5, 5, 5, 5}[kind]
			cases[fmt.Sprintf("kind %d of %d", kind, who)] = doCase{asItIs, e, code}
		}
		if slices.Contains([]int{impl.ServLeases, impl.ServTakes, impl.ServWrites, impl.ServFalls}, kind) {
			cases[fmt.Sprintf("kind %d of one who is down", kind)] = doCase{asItIs, impl.ServEvent{Kind: kind, Who: 2, Run: 9, Id: 9}, 7}
		}
	}
	for _, who := range []int{-1, 2, 3, 1 << 40} {
		for _, e := range []impl.ServEvent{{Kind: impl.ServTicks}, {Kind: impl.ServBegins, Name: "a", Nums: []int{5}}, signals(2, 5, "go", 1), cancels(2), tries(2, 1), fires(1, 1), deploys(1, flowOf(t, "", "sleep 5;return 1"))} {
			e.Who = who
			cases[fmt.Sprintf("kind %d, whoever %d is", e.Kind, who)] = doCase{func(w *impl.ServWorld) { w.Now = 9 }, e, 0}
		}
	}
	cases["one rises who is down"] = doCase{asItIs, rises(2), 0}
	cases["one rises who is up"] = doCase{asItIs, rises(0), 0}
	cases["one falls who is up"] = doCase{asItIs, falls(0), 0}
	cases["ticks up to the last"] = doCase{func(w *impl.ServWorld) { w.Now = impl.ServMaxTick - 1 }, impl.ServEvent{Kind: impl.ServTicks}, 0}
	cases["no tick behind the last"] = doCase{func(w *impl.ServWorld) { w.Now = impl.ServMaxTick }, impl.ServEvent{Kind: impl.ServTicks}, 4}
	checkDo(t, someWorld(t), cases)
	w := after(t, someWorld(t), falls(0))
	if !same(w.Workers[0], impl.ServWorker{Terms: []int{0, 0}}) || !same(w.Shards, someWorld(t).Shards) {
		t.Errorf("one who fell is %+v", w.Workers[0])
	}
	w = after(t, w, rises(0))
	if !same(w.Workers[0], impl.ServWorker{Up: true, Terms: []int{0, 0}}) {
		t.Errorf("one who rose is %+v", w.Workers[0])
	}
	w = after(t, someWorld(t), rises(0), impl.ServEvent{Kind: impl.ServTicks})
	if !same(w.Workers, someWorld(t).Workers) || w.Now != 4 {
		t.Errorf("%+v", w)
	}
}

// A world that is not ok has code 1, whatever happens.
func TestWhatIsNotOkHasOne(t *testing.T) {
	w := someWorld(t)
	w.Now = -1
	for kind := -1; kind < 14; kind++ {
		if next, code := impl.ServDo(w, impl.ServEvent{Kind: kind, Who: 9, Run: 9}); code != 1 || !same(next, impl.ServWorld{}) {
			t.Errorf("kind %d: %d %+v", kind, code, next)
		}
	}
}

// P25: beginnings.
func TestBeginnings(t *testing.T) {
	begin := func(flow int, name string, nums ...int) impl.ServEvent {
		return impl.ServEvent{Kind: impl.ServBegins, Id: flow, Name: name, Nums: nums}
	}
	runs := func(many int) func(w *impl.ServWorld) {
		return func(w *impl.ServWorld) {
			for len(w.Runs) < many {
				w.Runs = append(w.Runs, impl.ServRun{Name: fmt.Sprintf("z%d", len(w.Runs)), Flow: 1})
			}
		}
	}
	checkDo(t, someWorld(t), map[string]doCase{
		"one begins":                   {asItIs, begin(0, "a", 5), 0},
		"one begins of another flow":   {asItIs, begin(1, "a"), 0},
		"at most":                      {asItIs, begin(0, "a", 9999), 0},
		"at least":                     {asItIs, begin(0, "a", -9999), 0},
		"above":                        {asItIs, begin(0, "a", 10000), 2},
		"below":                        {asItIs, begin(0, "a", -10000), 2},
		"no numbers":                   {asItIs, begin(0, "a"), 2},
		"too many numbers":             {asItIs, begin(0, "a", 1, 2), 2},
		"numbers for none":             {asItIs, begin(1, "a", 1), 2},
		"no flow":                      {asItIs, begin(2, "a", 1), 2},
		"a flow below 0":               {asItIs, begin(-1, "a", 1), 2},
		"no name":                      {asItIs, begin(0, "", 1), 2},
		"a name that is none":          {asItIs, begin(0, "A", 1), 2},
		"a name that is too long":      {asItIs, begin(0, "abcdefghi", 1), 2},
		"the longest name":             {asItIs, begin(0, "abcdefgh", 1), 0},
		"a name that is there":         {asItIs, begin(0, "order", 1), 3},
		"there, but the numbers wrong": {asItIs, begin(0, "order"), 2},
		"the last that may be":         {runs(impl.ServMaxRuns - 1), begin(0, "a", 1), 0},
		"one more":                     {runs(impl.ServMaxRuns), begin(0, "a", 1), 4},
		"one more, but the name there": {runs(impl.ServMaxRuns), begin(0, "order", 1), 3},
		"one more, but wrong":          {runs(impl.ServMaxRuns), begin(0, "order"), 2},
	})
	for name, want := range map[string]struct {
		place int
		tasks []int
	}{"a": {0, []int{3, 4}}, "f": {1, []int{3, 4}}, "ordep": {2, []int{3, 4}}, "orders": {3, []int{2, 4}}, "quiet0": {4, []int{2, 3}}} {
		w := after(t, someWorld(t), begin(0, name, 7))
		expected := slices.Insert(someWorld(t).Runs, want.place, impl.ServRun{Name: name, Args: []int{7}})
		tasks := w.Workers[0].Tasks
		if !same(w.Runs, expected) || !slices.Equal([]int{tasks[0].Run, tasks[1].Run}, want.tasks) || !same(w.Effects, someWorld(t).Effects) {
			t.Errorf("%q: %+v", name, w)
		}
	}
}

// signalsIn is an inbox of so many signals, and behind them so many that are none.
func signalsIn(many, others int) []impl.RunHap {
	list := slices.Repeat([]impl.RunHap{came("up", 1)}, many)
	return append(list, slices.Repeat([]impl.RunHap{fired(1)}, others)...)
}

// P25: signals and their tokens, cancels, and the limits of what waits.
func TestSignalsAndCancels(t *testing.T) {
	tokens := func(many int) func(w *impl.ServWorld) {
		return func(w *impl.ServWorld) {
			for len(w.Tokens) < many {
				w.Tokens = append(w.Tokens, 1000+len(w.Tokens))
			}
		}
	}
	inbox := func(run, many, others int) func(w *impl.ServWorld) {
		return func(w *impl.ServWorld) { w.Runs[run].Inbox = signalsIn(many, others) }
	}
	boxed := func(many, waiting int) func(w *impl.ServWorld) {
		return func(w *impl.ServWorld) {
			w.Runs[2].Hist = histRead(t, "start 2;ask 1 0 pay 2"+strings.Repeat(";signal on 1", many))
			w.Runs[2].Inbox = signalsIn(waiting, 1)
		}
	}
	closedFull := func(w *impl.ServWorld) {
		w.Runs[0].Hist = histRead(t, "start 2;ask 1 0 pay 2"+strings.Repeat(";signal on 1", 20)+";broke 1 3;end 2 3")
	}
	checkDo(t, someWorld(t), map[string]doCase{
		"a signal":                            {asItIs, signals(2, 5, "go", 1), 0},
		"a signal ahead of the beginning":     {asItIs, signals(3, 5, "go", 1), 0},
		"a signal of a name that none gets":   {asItIs, signals(1, 5, "zzz", 1), 0},
		"any token":                           {asItIs, signals(2, -1<<63, "go", 1), 0},
		"at most":                             {asItIs, signals(2, 5, "go", 9999), 0},
		"at least":                            {asItIs, signals(2, 5, "go", -9999), 0},
		"above":                               {asItIs, signals(2, 5, "go", 10000), 2},
		"below":                               {asItIs, signals(2, 5, "go", -10000), 2},
		"no number":                           {asItIs, signals(2, 5, "go"), 2},
		"two numbers":                         {asItIs, signals(2, 5, "go", 1, 2), 2},
		"no name":                             {asItIs, signals(2, 5, "", 1), 2},
		"a name that is none":                 {asItIs, signals(2, 5, "Go", 1), 2},
		"a token that came":                   {asItIs, signals(2, 77, "go", 1), 0},
		"a token that came, without a run":    {asItIs, signals(9, 0, "go", 1), 0},
		"a token that came, of one closed":    {asItIs, signals(0, -7, "go", 1), 0},
		"a token that came, but wrong":        {asItIs, signals(2, 77, "go"), 2},
		"a token that came, when full":        {tokens(impl.ServMaxTokens), signals(2, 77, "go", 1), 0},
		"no run":                              {asItIs, signals(4, 5, "go", 1), 5},
		"a run below 0":                       {asItIs, signals(-1, 5, "go", 1), 5},
		"a closed run":                        {asItIs, signals(0, 5, "go", 1), 6},
		"the last token":                      {tokens(impl.ServMaxTokens - 1), signals(2, 5, "go", 1), 0},
		"one more token":                      {tokens(impl.ServMaxTokens), signals(2, 5, "go", 1), 4},
		"one more token, without a run":       {tokens(impl.ServMaxTokens), signals(9, 5, "go", 1), 4},
		"one more token, of one closed":       {tokens(impl.ServMaxTokens), signals(0, 5, "go", 1), 4},
		"one more token, but wrong":           {tokens(impl.ServMaxTokens), signals(9, 5, "go"), 2},
		"the last in the inbox":               {inbox(2, 19, 10), signals(2, 5, "go", 1), 0},
		"one more in the inbox":               {inbox(2, 19, 11), signals(2, 5, "go", 1), 4},
		"the last signal in the inbox":        {inbox(2, 19, 0), signals(2, 5, "go", 1), 0},
		"one more signal in the inbox":        {inbox(2, 20, 0), signals(2, 5, "go", 1), 4},
		"the same, not begun":                 {inbox(3, 19, 0), signals(3, 5, "go", 1), 0},
		"one more signal, not begun":          {inbox(3, 20, 0), signals(3, 5, "go", 1), 4},
		"far more signals":                    {inbox(3, 30, 0), signals(3, 5, "go", 1), 4},
		"the last in box and inbox":           {boxed(12, 7), signals(2, 5, "go", 1), 0},
		"one more in box and inbox":           {boxed(12, 8), signals(2, 5, "go", 1), 4},
		"one more in the box":                 {boxed(20, 0), signals(2, 5, "go", 1), 4},
		"the box has room":                    {boxed(19, 0), signals(2, 5, "go", 1), 0},
		"closed with a full box":              {closedFull, signals(0, 5, "go", 1), 4},
		"another run's box is full":           {boxed(20, 0), signals(3, 5, "go", 1), 0},
		"a cancel":                            {asItIs, cancels(2), 0},
		"a cancel ahead of the beginning":     {asItIs, cancels(3), 0},
		"a cancel of none":                    {asItIs, cancels(4), 5},
		"a cancel below 0":                    {asItIs, cancels(-1), 5},
		"a cancel of one closed":              {asItIs, cancels(0), 6},
		"a cancel, the last in the inbox":     {inbox(2, 0, 29), cancels(2), 0},
		"a cancel, one more in the inbox":     {inbox(2, 0, 30), cancels(2), 4},
		"closed, with a full inbox":           {inbox(0, 0, 30), cancels(0), 6},
		"closed, with a full inbox, signal":   {inbox(0, 19, 11), signals(0, 5, "go", 1), 6},
		"a cancel, whatever waits of signals": {inbox(2, 20, 0), cancels(2), 0},
	})
	w := after(t, someWorld(t), signals(2, 5, "on", -4), signals(3, -9, "up", 4), cancels(3), signals(2, 5, "other", 1))
	if !slices.Equal(w.Runs[2].Inbox, []impl.RunHap{came("go", 3), came("on", -4)}) || !slices.Equal(w.Runs[3].Inbox, []impl.RunHap{cancelled(), came("up", 4), cancelled()}) || !slices.Equal(w.Tokens, []int{-9, -7, 0, 5, 77}) {
		t.Errorf("%+v", w)
	}
	if w := after(t, someWorld(t), signals(9, 77, "go", 1), signals(0, -7, "go", 1)); !same(w, someWorld(t)) {
		t.Errorf("a signal that came: %+v", w)
	}
}

// P23, P26: who gets a shard, and for how long.
func TestLeases(t *testing.T) {
	// Of shard 0 worker 1 is the owner by term 2, until 5; shard 1 has none.
	at := func(now int) func(w *impl.ServWorld) { return func(w *impl.ServWorld) { w.Now = now } }
	term := func(shard, owner, term, mine, until, now int) func(w *impl.ServWorld) {
		return func(w *impl.ServWorld) {
			w.Now = now
			w.Shards[shard] = impl.ServShard{Owner: owner, Term: term, Until: until}
			for i := range w.Workers {
				w.Workers[i].Terms[shard] = 0
			}
			w.Workers[1].Terms[shard] = mine
		}
	}
	far := impl.ServMaxTick
	checkDo(t, someWorld(t), map[string]doCase{
		"the owner again":                      {asItIs, leases(1, 0), 0},
		"the owner behind until":               {at(100), leases(1, 0), 0},
		"another one":                          {asItIs, leases(0, 0), 7},
		"another one at until":                 {at(5), leases(0, 0), 7},
		"another one behind until":             {at(6), leases(0, 0), 0},
		"nobody's":                             {asItIs, leases(0, 1), 0},
		"nobody's, whatever until is":          {term(1, -1, 0, 0, 99, 3), leases(1, 1), 0},
		"no shard":                             {asItIs, leases(0, 2), 5},
		"a shard below 0":                      {asItIs, leases(0, -1), 5},
		"a shard far above":                    {asItIs, leases(0, 1<<40), 5},
		"an owner that fell":                   {term(0, 1, 2, 0, 5, 5), leases(1, 0), 7},
		"an owner that fell, behind until":     {term(0, 1, 2, 0, 5, 6), leases(1, 0), 0},
		"an owner by another term":             {term(0, 1, 2, 1, 5, 5), leases(1, 0), 7},
		"not the owner, with its term":         {term(0, 0, 2, 2, 5, 5), leases(1, 0), 7},
		"not the owner, with its term, behind": {term(0, 0, 2, 2, 5, 6), leases(1, 0), 0},
		"the last term":                        {term(0, 0, impl.ServMaxTerm-1, 0, 5, 6), leases(1, 0), 0},
		"one more term":                        {term(0, 0, impl.ServMaxTerm, 0, 5, 6), leases(1, 0), 4},
		"one more term, and not yet":           {term(0, 0, impl.ServMaxTerm, 0, 5, 5), leases(1, 0), 7},
		"the last term, of one who has it":     {term(0, 1, impl.ServMaxTerm, impl.ServMaxTerm, 5, 6), leases(1, 0), 0},
		"the last term, of one who fell":       {term(0, 1, impl.ServMaxTerm, 0, 5, 6), leases(1, 0), 4},
		"the last tick":                        {at(far), leases(0, 0), 0},
		"the last tick, and until above":       {term(0, 0, 2, 0, far+4, far), leases(1, 0), 7},
	})
	w := after(t, someWorld(t), leases(1, 0), leases(0, 1))
	if !slices.Equal(w.Shards, []impl.ServShard{{Owner: 1, Term: 2, Until: 7}, {Owner: 0, Term: 1, Until: 7}}) || !slices.Equal(w.Workers[0].Terms, []int{1, 1}) || !slices.Equal(w.Workers[1].Terms, []int{2, 0}) {
		t.Errorf("%+v", w)
	}
	w = after(t, w, slices.Concat(ticks(5), []impl.ServEvent{leases(0, 0), leases(1, 1)})...)
	if !slices.Equal(w.Shards, []impl.ServShard{{Owner: 0, Term: 3, Until: 12}, {Owner: 1, Term: 2, Until: 12}}) || !slices.Equal(w.Workers[0].Terms, []int{3, 1}) || !slices.Equal(w.Workers[1].Terms, []int{2, 2}) {
		t.Errorf("%+v", w)
	}
	far4 := clone(someWorld(t))
	far4.Now = far
	if w := after(t, far4, leases(0, 1)); w.Shards[1].Until != impl.ServMaxTick+impl.ServLease {
		t.Errorf("%+v", w.Shards)
	}
}

// P29: what is taken into hands.
func TestTakes(t *testing.T) {
	// Of shard 0, of which runs 0, 2 and 3 are, worker 0 has term 1, worker 1 term 2.
	tasks := func(many int) func(w *impl.ServWorld) {
		return func(w *impl.ServWorld) { w.Workers[1].Tasks = make([]impl.ServTask, many) }
	}
	checkDo(t, someWorld(t), map[string]doCase{
		"the inbox":                        {asItIs, takes(1, 2), 0},
		"by a term that is over":           {asItIs, takes(0, 2), 0},
		"a beginning":                      {asItIs, takes(1, 3), 0},
		"no run":                           {asItIs, takes(1, 4), 5},
		"a run below 0":                    {asItIs, takes(1, -1), 5},
		"without a term":                   {asItIs, takes(1, 1), 7},
		"without a term, though closed":    {func(w *impl.ServWorld) { w.Workers[1].Terms[0] = 0 }, takes(1, 0), 7},
		"one closed":                       {asItIs, takes(1, 0), 6},
		"one closed, with an inbox":        {func(w *impl.ServWorld) { w.Runs[0].Inbox = signalsIn(1, 0) }, takes(1, 0), 6},
		"nothing came":                     {func(w *impl.ServWorld) { w.Runs[2].Inbox = nil }, takes(1, 2), 6},
		"nothing came, nothing begun":      {func(w *impl.ServWorld) { w.Runs[3].Inbox = nil }, takes(1, 3), 0},
		"the last task":                    {tasks(impl.ServMaxRuns - 1), takes(1, 2), 0},
		"one more task":                    {tasks(impl.ServMaxRuns), takes(1, 2), 4},
		"one more task of one closed":      {tasks(impl.ServMaxRuns), takes(1, 0), 6},
		"one more task without a term":     {tasks(impl.ServMaxRuns), takes(1, 1), 7},
		"one more task of no run":          {tasks(impl.ServMaxRuns), takes(1, 4), 5},
		"twice":                            {func(w *impl.ServWorld) { *w = after(t, *w, takes(1, 2)) }, takes(1, 2), 0},
		"behind what waits in other hands": {asItIs, takes(0, 3), 0},
	})
	for name, c := range map[string]struct {
		inbox []impl.RunHap
		put   string
		take  int
	}{
		"the first":                       {[]impl.RunHap{came("go", 3), did(1, 4)}, "signal go 3", 1},
		"an answer":                       {[]impl.RunHap{did(1, 4), came("go", 3)}, "done 1 4", 1},
		"what may not is passed over":     {[]impl.RunHap{did(2, 4), fired(1), did(1, 4), came("go", 3)}, "done 1 4", 3},
		"one that ends it":                {[]impl.RunHap{fired(3), broke(1, 4)}, "broke 1 4;end 2 4", 2},
		"a cancel":                        {[]impl.RunHap{cancelled()}, "cancel;end 4 -9003", 1},
		"nothing that may":                {[]impl.RunHap{did(2, 4), fired(1), broke(7, 1)}, "", 3},
		"what has more than its kind has": {[]impl.RunHap{{Kind: impl.HapDone, Id: 1, Num: 4, Name: "A b"}}, "done 1 4", 1},
		"a cancel with all":               {[]impl.RunHap{{Kind: impl.HapCancel, Id: -1, Num: 1 << 40, Name: "A b"}}, "cancel;end 4 -9003", 1},
	} {
		w := someWorld(t)
		w.Runs[2].Inbox = c.inbox
		w = after(t, w, takes(1, 2))
		want := impl.ServTask{Run: 2, Term: 2, Len: 2, Take: c.take, Put: histRead(t, c.put)}
		if !same(w.Workers[1].Tasks, []impl.ServTask{want}) || !same(w.Runs[2].Inbox, c.inbox) {
			t.Errorf("%s: %+v, not %+v", name, w.Workers[1].Tasks, want)
		}
	}
	w := someWorld(t)
	w.Runs[3].Chain = 7
	w = after(t, w, takes(0, 3))
	want := impl.ServTask{Run: 3, Chain: 7, Term: 1, Put: histRead(t, "start -9999;ask 1 0 pay -9999")}
	if !same(w.Workers[0].Tasks[2:], []impl.ServTask{want}) || !same(w.Workers[0].Tasks[:2], someWorld(t).Workers[0].Tasks) {
		t.Errorf("%+v", w.Workers[0].Tasks)
	}
}

// P26: what is taken of a history that has HistMaxLen entries, or nearly: what has no room stays in the inbox, and all behind it.
func TestTakesOfLongHistories(t *testing.T) {
	room, more := came("go", 1), came("go", 7) // one entry, and two
	for i, c := range []struct {
		many  int
		inbox []impl.RunHap
		put   string
		take  int
	}{
		{398, []impl.RunHap{more}, "signal go 7;end 1 7", 1},
		{399, []impl.RunHap{room, more}, "signal go 1", 1},
		{399, []impl.RunHap{more, room}, "", 0},
		{399, []impl.RunHap{did(1, 1), more, room}, "", 1},
		{399, []impl.RunHap{did(1, 1), room, more}, "signal go 1", 2},
		{399, []impl.RunHap{fired(1), did(1, 1)}, "", 2},
		{400, []impl.RunHap{room}, "", 0},
		{400, []impl.RunHap{fired(1), fired(2), room, cancelled()}, "", 2},
		{400, []impl.RunHap{fired(1), fired(2)}, "", 2},
	} {
		lines, list := waiting(t, c.many)
		w := begun(t, 1, 1, impl.FlowPrint(lines), nil, "x")
		w = after(t, w, leases(0, 0))
		w.Runs[0].Hist, w.Runs[0].Inbox = list, c.inbox
		w, code := doesAsModel(t, w, takes(0, 0))
		want := impl.ServTask{Term: 1, Len: c.many, Take: c.take, Put: histRead(t, c.put)}
		if code != 0 || !same(w.Workers[0].Tasks, []impl.ServTask{want}) {
			t.Errorf("case %d: %d %+v, not %+v", i, code, w.Workers[0].Tasks, want)
		}
		w, code = doesAsModel(t, w, writes(0))
		if code != 0 || !same(w.Runs[0].Inbox, c.inbox[c.take:]) || len(w.Runs[0].Hist) != c.many+len(want.Put) {
			t.Errorf("case %d: %d %d written, %+v", i, code, len(w.Runs[0].Hist), w.Runs[0].Inbox)
		}
	}
}

// P26: what is written, and what is late.
func TestWrites(t *testing.T) {
	// Worker 1 has the signal to write for run 2.
	base := someWorld(t)
	base.Workers[1].Tasks = []impl.ServTask{{Run: 2, Term: 2, Len: 2, Take: 1, Put: histRead(t, "signal go 3")}, {Run: 0, Term: 1}}
	task := func(change func(task *impl.ServTask)) func(w *impl.ServWorld) {
		return func(w *impl.ServWorld) { change(&w.Workers[1].Tasks[0]) }
	}
	put := func(row string) func(w *impl.ServWorld) {
		return task(func(task *impl.ServTask) { task.Put = histRead(t, row) })
	}
	first := func(run, length, take int, row string) func(w *impl.ServWorld) {
		return task(func(task *impl.ServTask) {
			*task = impl.ServTask{Run: run, Chain: 0, Term: 2, Len: length, Take: take, Put: histRead(t, row)}
		})
	}
	checkDo(t, base, map[string]doCase{
		"what was taken":             {asItIs, writes(1), 0},
		"by a term that is over":     {asItIs, writes(0), 8},
		"no task":                    {func(w *impl.ServWorld) { w.Workers[1].Tasks = nil }, writes(1), 6},
		"by a term below":            {task(func(task *impl.ServTask) { task.Term = 1 }), writes(1), 8},
		"by a term above":            {task(func(task *impl.ServTask) { task.Term = 3 }), writes(1), 8},
		"by no term":                 {task(func(task *impl.ServTask) { task.Term = 0 }), writes(1), 8},
		"of a chain above":           {task(func(task *impl.ServTask) { task.Chain = 1 }), writes(1), 8},
		"of a chain below":           {func(w *impl.ServWorld) { w.Runs[2].Chain = 1 }, writes(1), 8},
		"a length below":             {task(func(task *impl.ServTask) { task.Len = 1 }), writes(1), 8},
		"a length above":             {task(func(task *impl.ServTask) { task.Len = 3 }), writes(1), 8},
		"of none that has begun":     {func(w *impl.ServWorld) { w.Runs[2].Hist, w.Runs[2].Tries = nil, nil }, writes(1), 8},
		"all that waits":             {task(func(task *impl.ServTask) { task.Take = 1 }), writes(1), 0},
		"nothing that waits":         {task(func(task *impl.ServTask) { task.Take = 0 }), writes(1), 0},
		"more than waits":            {task(func(task *impl.ServTask) { task.Take = 2 }), writes(1), 8},
		"nothing that waited":        {func(w *impl.ServWorld) { w.Runs[2].Inbox = nil }, writes(1), 8},
		"nothing is put":             {put(""), writes(1), 0},
		"what never comes":           {put("done 2 3"), writes(1), 8},
		"what is unlike":             {put("signal go 3;mark p"), writes(1), 8},
		"what lacks something":       {put("cancel"), writes(1), 8},
		"another beginning":          {put("start 2"), writes(1), 8},
		"what the last did not say":  {put("mark p"), writes(1), 8},
		"what does not begin":        {put("ask 2 1 pay 2"), writes(1), 8},
		"two that came":              {put("signal go 3;done 1 4;ask 2 1 mail 3"), writes(1), 0},
		"a cancel":                   {put("cancel;end 4 -9003"), writes(1), 0},
		"a beginning":                {first(3, 0, 0, "start -9999;ask 1 0 pay -9999"), writes(1), 0},
		"a beginning with others":    {first(3, 0, 0, "start 2;ask 1 0 pay 2"), writes(1), 0},
		"a beginning, and what came": {first(3, 0, 1, "start 2;ask 1 0 pay 2;cancel;end 4 -9003"), writes(1), 0},
		"no beginning":               {first(3, 0, 0, "signal go 1"), writes(1), 8},
		"nothing of none begun":      {first(3, 0, 0, ""), writes(1), 8},
		"of one closed": {func(w *impl.ServWorld) {
			w.Workers[1].Tasks[0] = impl.ServTask{Run: 0, Chain: 1, Term: 2, Len: 7}
		}, writes(1), 8},
		"of a shard without a term": {func(w *impl.ServWorld) {
			w.Workers[1].Tasks[0] = impl.ServTask{Run: 1, Len: 2, Put: histRead(t, "signal go 1")}
		}, writes(1), 0},
	})
	w := after(t, base, writes(1))
	run := w.Runs[2]
	if histTold(run.Hist) != "start 2;ask 1 0 pay 2;signal go 3" || len(run.Inbox) != 0 || !slices.Equal(run.Tries, base.Runs[2].Tries) || run.Closed || !same(w.Workers[1].Tasks, base.Workers[1].Tasks[1:]) {
		t.Errorf("%+v", w)
	}
	if !same(w.Runs[:2], base.Runs[:2]) || !same(w.Runs[3], base.Runs[3]) || !same(w.Workers[0], base.Workers[0]) {
		t.Errorf("another run or worker is changed: %+v", w)
	}
}
