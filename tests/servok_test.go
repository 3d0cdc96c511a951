package tests

import (
	"fmt"
	"strings"
	"testing"

	"loop.example/dunserv/impl"
)

// someWorld is one with a run that is done, one that waits for a time, one that waits for an answer, and one that has not begun.
func someWorld(t *testing.T) impl.ServWorld {
	t.Helper()
	order, nap := linesOf(t, orderFlow), flowOf(t, "", "sleep 5;return 1")
	return impl.ServWorld{
		Now:    3,
		Flows:  [][]impl.FlowLine{order, nap},
		Shards: []impl.ServShard{{Owner: 1, Term: 2, Until: 5}, {Owner: -1}},
		Runs: []impl.ServRun{
			{Name: "done", Args: []int{2}, Chain: 1, Hist: histRead(t, "start 2;ask 1 0 pay 2;done 1 3;signal go 4;ask 2 1 mail 4;done 2 -1;end 1 -1"), Closed: true},
			{Name: "nap", Flow: 1, Hist: histRead(t, "start;ask 1 0 - 5"), Dues: []impl.ServDue{{Id: 1, Tick: 6}}},
			{Name: "order", Args: []int{2}, Hist: histRead(t, "start 2;ask 1 0 pay 2"), Inbox: []impl.RunHap{came("go", 3)}, Tries: []impl.ServTry{{Id: 1, Tries: 1, Next: 3}}},
			{Name: "quiet", Args: []int{-9999}, Inbox: []impl.RunHap{cancelled()}},
		},
		Workers: []impl.ServWorker{
			{Up: true, Terms: []int{1, 0}, Tasks: []impl.ServTask{{Run: 2, Term: 1, Len: 2, Take: 1, Put: histRead(t, "signal go 3")}, {Run: 3, Term: 1, Put: histRead(t, "start -9999;ask 1 0 pay -9999")}}},
			{Up: true, Terms: []int{2, 0}},
			{Terms: []int{0, 0}},
		},
		Effects: []impl.ServEffect{{Key: "done/1/0", Answer: 3, Tries: 1}, {Key: "done/1/1", Answer: -1, Tries: 2}, {Key: "order/0/0", Answer: 3, Tries: 1}},
		Tokens:  []int{-7, 0, 77},
	}
}

type worldCase struct {
	want   bool
	change func(w *impl.ServWorld)
}

// checkWorlds says of each change whether the world is ok then, in all functions that are given one.
func checkWorlds(t *testing.T, base impl.ServWorld, cases map[string]worldCase) {
	t.Helper()
	if !impl.ServOk(base) {
		t.Fatalf("%+v is not ok", base)
	}
	for name, c := range cases {
		w := clone(base)
		c.change(&w)
		if impl.ServOk(w) != c.want || modelWorldOk(w) != c.want {
			t.Errorf("%s: ok is not %v: %+v", name, c.want, w)
			continue
		}
		if board := impl.ServBoard(w); board != modelServBoard(w) || (board != "") != c.want {
			t.Errorf("%s: board is %q", name, board)
		}
		next, code := impl.ServDo(w, impl.ServEvent{})
		if c.want && (code != 2 || !same(next, w)) || !c.want && (code != 1 || !same(next, impl.ServWorld{})) {
			t.Errorf("%s: %d %+v", name, code, next)
		}
		if calm := impl.ServCalm(w, 0); c.want && !same(calm, w) || !c.want && !same(calm, impl.ServWorld{}) {
			t.Errorf("%s: behind no rounds %+v", name, calm)
		}
		if shard := impl.ServShardOf(w, 0); (shard >= 0) != (c.want && len(w.Runs) > 0) {
			t.Errorf("%s: shard is %d", name, shard)
		}
		if s, has := impl.ServState(w, 0); !c.want && (has || !same(s, impl.RunState{})) || impl.ServSafe(w) != modelSafe(w) {
			t.Errorf("%s: %v %+v, safe: %v", name, has, s, impl.ServSafe(w))
		}
	}
}

// P28: what opens, and what does not.
func TestWhatOpens(t *testing.T) {
	one, two := linesOf(t, orderFlow), flowOf(t, "", "sleep 5;return 1")
	for i, c := range []struct {
		flows           [][]impl.FlowLine
		shards, workers int
		want            bool
	}{
		{[][]impl.FlowLine{one}, 1, 1, true}, {[][]impl.FlowLine{one, two, one, two}, 3, 3, true}, {[][]impl.FlowLine{two, two}, 2, 1, true},
		{nil, 1, 1, false}, {[][]impl.FlowLine{}, 1, 1, false}, {[][]impl.FlowLine{one, two, one, two, one}, 1, 1, false},
		{[][]impl.FlowLine{one, nil}, 1, 1, false}, {[][]impl.FlowLine{one[:2]}, 1, 1, false}, {[][]impl.FlowLine{one, two, one, one[1:]}, 3, 3, false},
		{[][]impl.FlowLine{one}, 0, 1, false}, {[][]impl.FlowLine{one}, -1, 1, false}, {[][]impl.FlowLine{one}, 4, 1, false}, {[][]impl.FlowLine{one}, 1 << 40, 1, false}, {[][]impl.FlowLine{one}, -1 << 63, 1, false},
		{[][]impl.FlowLine{one}, 1, 0, false}, {[][]impl.FlowLine{one}, 1, -1, false}, {[][]impl.FlowLine{one}, 1, 4, false}, {[][]impl.FlowLine{one}, 1, 1 << 40, false},
	} {
		w, ok := impl.ServOpen(c.flows, c.shards, c.workers)
		want := impl.ServWorld{}
		board := ""
		if c.want {
			want.Flows = c.flows
			board = "now 0\n" + strings.Repeat("shard -1 term 0 until 0\n", c.shards)
			for range c.shards {
				want.Shards = append(want.Shards, impl.ServShard{Owner: -1})
			}
			for range c.workers {
				want.Workers = append(want.Workers, impl.ServWorker{Up: true, Terms: make([]int, c.shards)})
			}
		}
		if ok != c.want || !same(w, want) || impl.ServSafe(w) != c.want || impl.ServOk(w) != c.want || impl.ServBoard(w) != board {
			t.Errorf("case %d: %v %+v", i, ok, w)
		}
	}
}

// P28: each number of flows, shards and workers, of made workflows, of which one may be spoiled.
func TestWhatOpensOfMade(t *testing.T) {
	count := map[bool]int{}
	for seed := range int64(600) {
		m := newMaker(seed)
		var flows [][]impl.FlowLine
		right := true
		for range m.Intn(6) {
			lines := m.runFlow(1 + m.Intn(20))
			if m.Intn(12) == 0 {
				lines = m.spoil(lines)
			}
			right = right && impl.FlowCheck(lines).Code == 0
			flows = append(flows, lines)
		}
		shards, workers := m.Intn(6)-1, m.Intn(6)-1
		want := right && len(flows) >= 1 && len(flows) <= 4 && shards >= 1 && shards <= 3 && workers >= 1 && workers <= 3
		w, ok := impl.ServOpen(flows, shards, workers)
		count[ok]++
		if ok != want || ok != impl.ServSafe(w) || ok != modelSafe(w) || !ok && !same(w, impl.ServWorld{}) {
			t.Fatalf("%d flows, right: %v, %d %d: %v %+v", len(flows), right, shards, workers, ok, w)
		}
	}
	if count[true] < 60 || count[false] < 200 {
		t.Errorf("how often one opened: %v", count)
	}
}

// P29: numbers of a world, its flows and its shards.
func TestWorldsByPart(t *testing.T) {
	shard := func(place, owner, term, until int) func(w *impl.ServWorld) {
		return func(w *impl.ServWorld) {
			w.Shards[place] = impl.ServShard{Owner: owner, Term: term, Until: until}
		}
	}
	now := func(tick int) func(w *impl.ServWorld) { return func(w *impl.ServWorld) { w.Now = tick } }
	flows := func(many int) func(w *impl.ServWorld) {
		return func(w *impl.ServWorld) {
			for len(w.Flows) < many {
				w.Flows = append(w.Flows, w.Flows[0])
			}
		}
	}
	spoiled := func(lines []impl.FlowLine) func(w *impl.ServWorld) {
		return func(w *impl.ServWorld) { w.Flows = append(w.Flows, lines) }
	}
	checkWorlds(t, someWorld(t), map[string]worldCase{
		"as it is":                          {true, func(w *impl.ServWorld) {}},
		"nothing":                           {false, func(w *impl.ServWorld) { *w = impl.ServWorld{} }},
		"now below 0":                       {false, now(-1)},
		"now 0":                             {true, now(0)},
		"now at its limit":                  {true, now(impl.ServMaxTick)},
		"now above":                         {false, now(impl.ServMaxTick + 1)},
		"flows at their limit":              {true, flows(impl.ServMaxFlows)},
		"flows above":                       {false, flows(impl.ServMaxFlows + 1)},
		"no flows":                          {false, func(w *impl.ServWorld) { w.Flows, w.Runs, w.Workers[0].Tasks = nil, nil, nil }},
		"fewer flows than runs are of":      {false, func(w *impl.ServWorld) { w.Flows = w.Flows[:1] }},
		"a flow without lines":              {false, spoiled(nil)},
		"a flow with a fault":               {false, spoiled(anyRows("workflow w;let a is b;return a"))},
		"a flow without return":             {false, spoiled(anyRows("workflow w;sleep 1"))},
		"a flow without faults":             {true, spoiled(anyRows("workflow w;sleep 1;return 1"))},
		"owner is a worker":                 {true, shard(0, 2, 2, 5)},
		"owner is none":                     {false, shard(0, 3, 2, 5)},
		"owner far above":                   {false, shard(0, 1<<40, 2, 5)},
		"owner below -1":                    {false, shard(0, -2, 2, 5)},
		"owner below -1 without a term":     {false, shard(1, -2, 0, 5)},
		"no owner with a term":              {false, shard(0, -1, 2, 5)},
		"an owner without a term":           {false, shard(1, 0, 0, 5)},
		"term below 0":                      {false, shard(1, 0, -1, 5)},
		"term below 0 and no owner":         {false, shard(1, -1, -1, 5)},
		"term at its limit":                 {true, shard(1, 0, impl.ServMaxTerm, 5)},
		"term above":                        {false, shard(1, 0, impl.ServMaxTerm+1, 5)},
		"until below 0":                     {false, shard(0, 1, 2, -1)},
		"until 0":                           {true, shard(0, 1, 2, 0)},
		"until at its limit":                {true, shard(0, 1, 2, impl.ServMaxTick+impl.ServLease)},
		"until above":                       {false, shard(0, 1, 2, impl.ServMaxTick+impl.ServLease+1)},
		"until without an owner":            {true, shard(1, -1, 0, 9)},
		"until above without an owner":      {false, shard(1, -1, 0, impl.ServMaxTick+impl.ServLease+1)},
		"no shards":                         {false, func(w *impl.ServWorld) { w.Shards, w.Workers = nil, []impl.ServWorker{{Up: true}} }},
		"shards at their limit":             {true, func(w *impl.ServWorld) { *w = wider(*w, impl.ServMaxShards) }},
		"shards above":                      {false, func(w *impl.ServWorld) { *w = wider(*w, impl.ServMaxShards+1) }},
		"workers above":                     {false, func(w *impl.ServWorld) { w.Workers = append(w.Workers, impl.ServWorker{Terms: []int{0, 0}}) }},
		"no workers":                        {false, func(w *impl.ServWorld) { w.Workers, w.Shards = nil, []impl.ServShard{{Owner: -1}} }},
		"one worker":                        {true, func(w *impl.ServWorld) { w.Workers, w.Shards[0].Owner = w.Workers[:1], 0 }},
		"one worker, and an owner is none":  {false, func(w *impl.ServWorld) { w.Workers = w.Workers[:1] }},
		"no runs":                           {true, func(w *impl.ServWorld) { w.Runs, w.Workers[0].Tasks = nil, nil }},
		"no runs, but tasks":                {false, func(w *impl.ServWorld) { w.Runs = nil }},
		"nothing done in the world, though": {true, func(w *impl.ServWorld) { w.Effects = nil }},
	})
}

// wider is a world with that many shards, those that come in without an owner.
func wider(w impl.ServWorld, shards int) impl.ServWorld {
	for len(w.Shards) < shards {
		w.Shards = append(w.Shards, impl.ServShard{Owner: -1})
		for i := range w.Workers {
			w.Workers[i].Terms = append(w.Workers[i].Terms, 0)
		}
	}
	return w
}

// P29: runs, but for what came, was tried and is due.
func TestWorldsByRuns(t *testing.T) {
	run := func(place int, change func(run *impl.ServRun)) func(w *impl.ServWorld) {
		return func(w *impl.ServWorld) { change(&w.Runs[place]) }
	}
	name := func(place int, name string) func(w *impl.ServWorld) {
		return run(place, func(run *impl.ServRun) { run.Name = name })
	}
	hist := func(place int, list []impl.HistEntry, closed bool) func(w *impl.ServWorld) {
		return run(place, func(run *impl.ServRun) { run.Hist, run.Closed = list, closed })
	}
	args := func(place int, args ...int) func(w *impl.ServWorld) {
		return run(place, func(run *impl.ServRun) { run.Args = args })
	}
	more := func(names ...string) func(w *impl.ServWorld) {
		return func(w *impl.ServWorld) {
			for _, name := range names {
				w.Runs = append(w.Runs, impl.ServRun{Name: name, Flow: 1})
			}
		}
	}
	checkWorlds(t, someWorld(t), map[string]worldCase{
		"runs at their limit":        {true, more("r", "s")},
		"runs above":                 {false, more("r", "s", "t")},
		"a name doubled":             {false, more("quiet")},
		"a name out of order":        {false, more("q")},
		"the beginning comes first":  {true, more("quiet0", "quiet00")},
		"the beginning comes last":   {false, more("quiet00", "quiet0")},
		"a name doubled at first":    {false, name(1, "done")},
		"no name":                    {false, name(0, "")},
		"no name at all":             {false, name(0, "Done")},
		"a name that is a number":    {false, name(0, "1")},
		"a name with a stroke":       {false, name(0, "d/1")},
		"the longest name":           {true, name(0, "abcdefgh")},
		"a longer name":              {false, name(0, "abcdefghi")},
		"a flow below 0":             {false, run(3, func(run *impl.ServRun) { run.Flow = -1 })},
		"a flow that is none":        {false, run(3, func(run *impl.ServRun) { run.Flow = 2 })},
		"a flow far above":           {false, run(3, func(run *impl.ServRun) { run.Flow = 1 << 40 })},
		"a flow with other names":    {false, run(3, func(run *impl.ServRun) { run.Flow = 1 })},
		"a flow with its names":      {true, run(3, func(run *impl.ServRun) { run.Flow, run.Args = 1, nil })},
		"args at most":               {true, args(3, 9999)},
		"args above":                 {false, args(3, 10000)},
		"args below":                 {false, args(3, -10000)},
		"too few args":               {false, args(3)},
		"too many args":              {false, args(3, 1, 2)},
		"args of none":               {false, args(1, 1)},
		"args unlike the history":    {true, args(2, 5)}, // nothing is said of that
		"chain below 0":              {false, run(3, func(run *impl.ServRun) { run.Chain = -1 })},
		"chain at its limit":         {true, run(3, func(run *impl.ServRun) { run.Chain = impl.ServMaxChain })},
		"chain above":                {false, run(3, func(run *impl.ServRun) { run.Chain = impl.ServMaxChain + 1 })},
		"closed without a history":   {false, run(3, func(run *impl.ServRun) { run.Closed = true })},
		"tries without a history":    {false, run(3, func(run *impl.ServRun) { run.Tries = []impl.ServTry{{Id: 1, Tries: 1}} })},
		"dues without a history":     {false, run(3, func(run *impl.ServRun) { run.Dues = []impl.ServDue{{Id: 1}} })},
		"open behind the end":        {false, run(0, func(run *impl.ServRun) { run.Closed = false })},
		"closed ahead of the end":    {false, run(2, func(run *impl.ServRun) { run.Closed = true })},
		"closed while ending":        {false, hist(2, histRead(t, "start 2;ask 1 0 pay 2;done 1 3;cancel;ask 2 0- back 3"), true)},
		"open while ending":          {true, hist(2, histRead(t, "start 2;ask 1 0 pay 2;done 1 3;cancel;ask 2 0- back 3"), false)},
		"closed when failed":         {true, hist(2, histRead(t, "start 2;ask 1 0 pay 2;broke 1 3;end 2 3"), true)},
		"open when failed":           {false, hist(2, histRead(t, "start 2;ask 1 0 pay 2;broke 1 3;end 2 3"), false)},
		"closed when stopped":        {true, hist(2, histRead(t, "start 2;ask 1 0 pay 2;cancel;end 4 -9003"), true)},
		"open when stopped":          {false, hist(2, histRead(t, "start 2;ask 1 0 pay 2;cancel;end 4 -9003"), false)},
		"a history that is bad":      {false, hist(2, []impl.HistEntry{ent(impl.EntStart, 1, "", "", 2)}, false)},
		"a history that lacks":       {false, hist(2, histRead(t, "start 2"), false)},
		"a history that is unlike":   {false, hist(2, histRead(t, "start 2;ask 1 0 pay 3"), false)},
		"a history that says more":   {false, hist(2, histRead(t, "start 2;ask 1 0 pay 2;ask 2 1 pay 2"), false)},
		"a history that never":       {false, hist(2, histRead(t, "start 2;ask 1 0 pay 2;done 2 1"), false)},
		"a history of another one":   {false, hist(2, histRead(t, "start;ask 1 0 - 5"), false)},
		"a history without a start":  {false, hist(2, histRead(t, "ask 1 0 pay 2"), false)},
		"a history at its limit":     {true, hist(2, histRead(t, "start 2;ask 1 0 pay 2"+strings.Repeat(";signal on 1", 20)), false)},
		"a history behind the box":   {false, hist(2, histRead(t, "start 2;ask 1 0 pay 2"+strings.Repeat(";signal on 1", 21)), false)},
		"the same place, many times": {false, func(w *impl.ServWorld) { w.Runs = append(w.Runs, w.Runs...) }},
	})
	lines, list := waiting(t, impl.HistMaxLen)
	long := someWorld(t)
	long.Flows = append(long.Flows, lines)
	long.Runs = append(long.Runs, impl.ServRun{Name: "zz", Flow: 2, Hist: list})
	checkWorlds(t, long, map[string]worldCase{
		"the longest history": {true, func(w *impl.ServWorld) {}},
		"a longer history":    {false, func(w *impl.ServWorld) { w.Runs[4].Hist = append(w.Runs[4].Hist, ent(impl.EntSignal, 0, "", "go", 1)) }},
	})
}

// P29: what came to a run and is not written, what was tried, and what is due.
func TestWorldsByWhatWaits(t *testing.T) {
	inbox := func(haps ...impl.RunHap) func(w *impl.ServWorld) {
		return func(w *impl.ServWorld) { w.Runs[3].Inbox = haps }
	}
	many := func(n int) func(w *impl.ServWorld) {
		return func(w *impl.ServWorld) {
			for i := range w.Runs {
				w.Runs[i].Inbox = make([]impl.RunHap, n)
				for j := range n {
					w.Runs[i].Inbox[j] = cancelled()
				}
			}
		}
	}
	tried := func(list ...impl.ServTry) func(w *impl.ServWorld) {
		return func(w *impl.ServWorld) { w.Runs[2].Tries = list }
	}
	due := func(list ...impl.ServDue) func(w *impl.ServWorld) {
		return func(w *impl.ServWorld) { w.Runs[1].Dues = list }
	}
	cases := map[string]worldCase{
		"nothing came":           {true, inbox()},
		"inbox at its limit":     {true, many(impl.ServMaxInbox)},
		"inbox above":            {false, many(impl.ServMaxInbox + 1)},
		"a kind that is none":    {false, inbox(impl.RunHap{})},
		"a kind below 0":         {false, inbox(impl.RunHap{Kind: -1, Id: 1})},
		"a kind above":           {false, inbox(impl.RunHap{Kind: 6, Id: 1, Name: "a"})},
		"a second one is wrong":  {false, inbox(came("go", 1), impl.RunHap{Kind: 9})},
		"a signal without name":  {false, inbox(came("", 1))},
		"a signal with none":     {false, inbox(came("Go", 1))},
		"a signal above":         {false, inbox(came("go", 10000))},
		"a signal at most":       {true, inbox(came("go", 9999), came("go", -9999))},
		"a signal with an id":    {true, inbox(impl.RunHap{Kind: impl.HapSignal, Name: "go", Num: 1, Id: -5})},
		"a cancel with all":      {true, inbox(impl.RunHap{Kind: impl.HapCancel, Name: "X", Num: 1 << 40, Id: -5})},
		"a time with all":        {true, inbox(impl.RunHap{Kind: impl.HapFired, Name: "X", Num: 1 << 40, Id: 5})},
		"a time at most":         {true, inbox(fired(1), fired(impl.RunMaxId))},
		"a time above":           {false, inbox(fired(impl.RunMaxId + 1))},
		"a time below":           {false, inbox(fired(0))},
		"no tries":               {true, tried()},
		"tries of what is none":  {true, tried(impl.ServTry{Id: 7, Tries: 1})},
		"try ids at most":        {true, tried(impl.ServTry{Id: 1, Tries: 1}, impl.ServTry{Id: impl.RunMaxId, Tries: 1})},
		"try ids above":          {false, tried(impl.ServTry{Id: impl.RunMaxId + 1, Tries: 1})},
		"try ids below":          {false, tried(impl.ServTry{Id: 0, Tries: 1})},
		"try ids doubled":        {false, tried(impl.ServTry{Id: 1, Tries: 1}, impl.ServTry{Id: 1, Tries: 1})},
		"try ids out of order":   {false, tried(impl.ServTry{Id: 2, Tries: 1}, impl.ServTry{Id: 1, Tries: 1})},
		"tries below":            {false, tried(impl.ServTry{Id: 1, Tries: 0})},
		"tries at most":          {true, tried(impl.ServTry{Id: 1, Tries: impl.ServMaxTick})},
		"tries above":            {false, tried(impl.ServTry{Id: 1, Tries: impl.ServMaxTick + 1})},
		"next at 0":              {true, tried(impl.ServTry{Id: 1, Tries: 1, Next: 0})},
		"next below 0":           {false, tried(impl.ServTry{Id: 1, Tries: 1, Next: -1})},
		"next far":               {true, tried(impl.ServTry{Id: 1, Tries: 1, Next: 1 << 62})},
		"no dues":                {true, due()},
		"dues of what is none":   {true, due(impl.ServDue{Id: 7})},
		"due ids at most":        {true, due(impl.ServDue{Id: 1}, impl.ServDue{Id: impl.RunMaxId})},
		"due ids above":          {false, due(impl.ServDue{Id: impl.RunMaxId + 1})},
		"due ids below":          {false, due(impl.ServDue{Id: 0})},
		"due ids doubled":        {false, due(impl.ServDue{Id: 1}, impl.ServDue{Id: 1, Tick: 2})},
		"due ids out of order":   {false, due(impl.ServDue{Id: 2}, impl.ServDue{Id: 1})},
		"ticks wherever they be": {true, due(impl.ServDue{Id: 1, Tick: -1 << 62}, impl.ServDue{Id: 2, Tick: 1 << 62})},
	}
	for name, hap := range map[string]func(id, num int) impl.RunHap{"done": did, "broke": broke} {
		cases[name+" with a name"] = worldCase{true, inbox(impl.RunHap{Kind: hap(1, 1).Kind, Id: 1, Name: "A b", Num: 1})}
		cases[name+" at most"] = worldCase{true, inbox(hap(impl.RunMaxId, 9999), hap(1, -9999))}
		cases[name+" with an id above"] = worldCase{false, inbox(hap(impl.RunMaxId+1, 1))}
		cases[name+" with an id below"] = worldCase{false, inbox(hap(0, 1))}
		cases[name+" above"] = worldCase{false, inbox(hap(1, 10000))}
		cases[name+" below"] = worldCase{false, inbox(hap(1, -10000))}
	}
	checkWorlds(t, someWorld(t), cases)
}

// P29: workers, and what they have in their hands.
func TestWorldsByWorkers(t *testing.T) {
	terms := func(who int, terms ...int) func(w *impl.ServWorld) {
		return func(w *impl.ServWorld) { w.Workers[who].Terms = terms }
	}
	task := func(change func(task *impl.ServTask)) func(w *impl.ServWorld) {
		return func(w *impl.ServWorld) { change(&w.Workers[0].Tasks[1]) }
	}
	many := func(n int) func(w *impl.ServWorld) {
		return func(w *impl.ServWorld) { w.Workers[1].Tasks = make([]impl.ServTask, n) }
	}
	put := func(list ...impl.HistEntry) func(w *impl.ServWorld) {
		return task(func(task *impl.ServTask) { task.Put = list })
	}
	long := make([]impl.HistEntry, impl.HistMaxLen+1)
	for i := range long {
		long[i] = ent(impl.EntCancel, 0, "", "")
	}
	checkWorlds(t, someWorld(t), map[string]worldCase{
		"its shard's term":             {true, terms(0, 2, 0)}, // of two workers: ok, but not safe
		"above its shard's term":       {false, terms(0, 3, 0)},
		"above that of no owner":       {false, terms(0, 1, 1)},
		"a term below 0":               {false, terms(0, -1, 0)},
		"too few terms":                {false, terms(1, 2)},
		"too many terms":               {false, terms(1, 2, 0, 0)},
		"no terms":                     {false, terms(1)},
		"down, with a term":            {true, terms(2, 2, 0)},
		"down, with a term above":      {false, terms(2, 3, 0)},
		"down, with tasks":             {false, func(w *impl.ServWorld) { w.Workers[0].Up = false }},
		"down, without tasks":          {true, func(w *impl.ServWorld) { w.Workers[0].Up, w.Workers[0].Tasks = false, nil }},
		"tasks at their limit":         {true, many(impl.ServMaxRuns)},
		"tasks above":                  {false, many(impl.ServMaxRuns + 1)},
		"of the last run":              {true, task(func(task *impl.ServTask) { task.Run = 3 })},
		"of no run":                    {false, task(func(task *impl.ServTask) { task.Run = 4 })},
		"of a run below 0":             {false, task(func(task *impl.ServTask) { task.Run = -1 })},
		"of a run far above":           {false, task(func(task *impl.ServTask) { task.Run = 1 << 40 })},
		"of a run that is closed":      {true, task(func(task *impl.ServTask) { task.Run = 0 })},
		"a task's chain at its limit":  {true, task(func(task *impl.ServTask) { task.Chain = impl.ServMaxChain })},
		"a task's chain above":         {false, task(func(task *impl.ServTask) { task.Chain = impl.ServMaxChain + 1 })},
		"a task's chain below 0":       {false, task(func(task *impl.ServTask) { task.Chain = -1 })},
		"a task's term at its limit":   {true, task(func(task *impl.ServTask) { task.Term = impl.ServMaxTerm })},
		"a task's term above":          {false, task(func(task *impl.ServTask) { task.Term = impl.ServMaxTerm + 1 })},
		"a task's term below 0":        {false, task(func(task *impl.ServTask) { task.Term = -1 })},
		"a task's term 0":              {true, task(func(task *impl.ServTask) { task.Term = 0 })},
		"a task's length at its limit": {true, task(func(task *impl.ServTask) { task.Len = impl.HistMaxLen })},
		"a task's length above":        {false, task(func(task *impl.ServTask) { task.Len = impl.HistMaxLen + 1 })},
		"a task's length below 0":      {false, task(func(task *impl.ServTask) { task.Len = -1 })},
		"what goes at its limit":       {true, task(func(task *impl.ServTask) { task.Take = impl.ServMaxInbox })},
		"what goes above":              {false, task(func(task *impl.ServTask) { task.Take = impl.ServMaxInbox + 1 })},
		"what goes below 0":            {false, task(func(task *impl.ServTask) { task.Take = -1 })},
		"what is put at its limit":     {true, put(long[:impl.HistMaxLen]...)},
		"what is put above":            {false, put(long...)},
		"nothing is put":               {true, put()},
		"what is put never comes":      {true, put(ent(impl.EntStart, 0, "", ""), ent(impl.EntStart, 0, "", ""))},
		"what is put is none":          {false, put(impl.HistEntry{})},
		"what is put is wrong":         {false, put(ent(impl.EntCancel, 0, "", ""), ent(impl.EntMark, 0, "", "P"))},
	})
}

// P29: what was done in the world, and which signals came.
func TestWorldsByEffects(t *testing.T) {
	effects := func(list ...impl.ServEffect) func(w *impl.ServWorld) {
		return func(w *impl.ServWorld) { w.Effects = list }
	}
	many := func(n int) func(w *impl.ServWorld) {
		return func(w *impl.ServWorld) {
			w.Effects = nil
			for i := range n {
				w.Effects = append(w.Effects, impl.ServEffect{Key: fmt.Sprintf("%03d", i), Tries: 1})
			}
		}
	}
	tokens := func(list ...int) func(w *impl.ServWorld) {
		return func(w *impl.ServWorld) { w.Tokens = list }
	}
	manyTokens := func(n int) func(w *impl.ServWorld) {
		return func(w *impl.ServWorld) {
			w.Tokens = nil
			for i := range n {
				w.Tokens = append(w.Tokens, i-20)
			}
		}
	}
	checkWorlds(t, someWorld(t), map[string]worldCase{
		"no effects":              {true, effects()},
		"effects at their limit":  {true, many(impl.ServMaxEffects)},
		"effects above":           {false, many(impl.ServMaxEffects + 1)},
		"an empty key":            {false, effects(impl.ServEffect{Tries: 1})},
		"any other key":           {true, effects(impl.ServEffect{Key: "\xff\n", Tries: 1})},
		"the beginning is first":  {true, effects(impl.ServEffect{Key: "a", Tries: 1}, impl.ServEffect{Key: "a\x00", Tries: 1})},
		"the beginning is second": {false, effects(impl.ServEffect{Key: "a\x00", Tries: 1}, impl.ServEffect{Key: "a", Tries: 1})},
		"keys doubled":            {false, effects(impl.ServEffect{Key: "a", Tries: 1}, impl.ServEffect{Key: "a", Tries: 1, Answer: 1})},
		"keys out of order":       {false, effects(impl.ServEffect{Key: "b", Tries: 1}, impl.ServEffect{Key: "a", Tries: 1})},
		"answers at most":         {true, effects(impl.ServEffect{Key: "a", Tries: 1, Answer: 9999}, impl.ServEffect{Key: "b", Tries: 1, Answer: -9999})},
		"an answer above":         {false, effects(impl.ServEffect{Key: "a", Tries: 1, Answer: 10000})},
		"an answer below":         {false, effects(impl.ServEffect{Key: "a", Tries: 1, Answer: -10000})},
		"never tried":             {false, effects(impl.ServEffect{Key: "a"})},
		"tried below 0":           {false, effects(impl.ServEffect{Key: "a", Tries: -1})},
		"tried at most":           {true, effects(impl.ServEffect{Key: "a", Tries: impl.ServMaxTick})},
		"tried above":             {false, effects(impl.ServEffect{Key: "a", Tries: impl.ServMaxTick + 1})},
		"no tokens":               {true, tokens()},
		"any tokens":              {true, tokens(-1<<63, -1, 0, 1<<63-1)},
		"tokens at their limit":   {true, manyTokens(impl.ServMaxTokens)},
		"tokens above":            {false, manyTokens(impl.ServMaxTokens + 1)},
		"tokens doubled":          {false, tokens(2, 2)},
		"tokens out of order":     {false, tokens(3, 2)},
		"tokens of both ends":     {false, tokens(1<<63-1, -1<<63)},
	})
}

// P29: which shard runs are of, how far they have come, and their board.
func TestRunsOfAWorld(t *testing.T) {
	w := someWorld(t)
	for _, run := range []int{-1, 0, 1, 2, 3, 4, 1 << 40, -1 << 63} {
		want := -1
		if run >= 0 && run < 4 {
			want = modelShard(w, w.Runs[run].Name)
		}
		if got := impl.ServShardOf(w, run); got != want {
			t.Errorf("the shard of %d is %d, not %d", run, got, want)
		}
		s, ok := impl.ServState(w, run)
		var expected impl.RunState
		if has := run >= 0 && run < 3; ok != has {
			t.Errorf("run %d: %v %+v", run, ok, s)
		} else if has {
			expected, _ = impl.HistReplay(w.Flows[w.Runs[run].Flow], w.Runs[run].Hist)
		}
		if !same(s, expected) {
			t.Errorf("run %d: %+v, not %+v", run, s, expected)
		}
	}
	want := "now 3\nshard 1 term 2 until 5\nshard -1 term 0 until 0\ndone/1 done -1, 7 written, 0 waiting\nnap/0 live 0, 2 written, 0 waiting\n" +
		"order/0 live 0, 2 written, 1 waiting\nquiet/0 live 0, 0 written, 1 waiting\ndone/1/0 3, tried 1\ndone/1/1 -1, tried 2\norder/0/0 3, tried 1\n"
	if got := impl.ServBoard(w); got != want {
		t.Errorf("%q, not %q", got, want)
	}
	for row, stands := range map[string]string{
		"start 2;ask 1 0 pay 2;broke 1 3;end 2 3":                   "failed 3, 4 written",
		"start 2;ask 1 0 pay 2;cancel;end 4 -9003":                  "stopped -9003, 4 written",
		"start 2;ask 1 0 pay 2;done 1 3;cancel;ask 2 0- back 3":     "live -9003, 5 written",
		"start 2;ask 1 0 pay 2;done 1 3;signal go 5;ask 2 1 mail 5": "live 0, 5 written",
	} {
		x := clone(w)
		x.Runs[2].Hist, x.Runs[2].Chain = histRead(t, row), 99
		x.Runs[2].Closed = !strings.HasPrefix(stands, "live")
		if got := impl.ServBoard(x); !strings.Contains(got, "\norder/99 "+stands+", 1 waiting\n") {
			t.Errorf("%q: %q", row, got)
		}
	}
	for _, names := range [][3]string{{"a", "z9", "abcdefgh"}, {"b", "zz", "x"}} {
		for shards := 1; shards <= impl.ServMaxShards; shards++ {
			for _, name := range names {
				w := begun(t, shards, 1, orderFlow, []int{1}, name)
				if got := impl.ServShardOf(w, 0); got != modelShard(w, name) {
					t.Errorf("%d shards, %q: %d", shards, name, got)
				}
			}
		}
	}
}
