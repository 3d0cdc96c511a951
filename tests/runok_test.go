package tests

import (
	"slices"
	"strconv"
	"strings"
	"testing"

	"loop.example/dunserv/impl"
)

// stateCase is a change to a state that is ok, and whether it is ok then.
type stateCase struct {
	want   bool
	change func(s *impl.RunState)
}

func checkChanges(t *testing.T, lines []impl.FlowLine, s impl.RunState, cases map[string]stateCase) {
	t.Helper()
	if !impl.RunOk(lines, s) {
		t.Fatalf("%+v is not ok", s)
	}
	for name, c := range cases {
		x := cloneState(s)
		c.change(&x)
		if impl.RunOk(lines, x) != c.want || modelOk(lines, x) != c.want {
			t.Errorf("%s: ok is not %v: %+v", name, c.want, x)
		}
		if board := impl.RunBoard(lines, x); (board != "") != c.want {
			t.Errorf("%s: board is %q", name, board)
		}
		next, code := impl.RunDo(lines, x, cancelled(), nil, true)
		if (code == 1) == c.want || code == 1 && !sameState(next, impl.RunState{}) {
			t.Errorf("%s: %d %+v", name, code, next)
		}
	}
}

func aVar(name string, num int) impl.RunVar { return impl.RunVar{Name: name, Num: num} }

// Lists and numbers that each state has, whichever way it stands: live, ending, and not live any more.
func TestListsOfStates(t *testing.T) {
	lines, live := started(t, "do a pay n undo back;sleep 1;return a", 1)
	live = then(t, lines, live, did(1, 4))
	ending := then(t, lines, live, cancelled())
	stopped := then(t, lines, ending, did(3, 1))
	done := then(t, lines, live, fired(2))
	for i, s := range []impl.RunState{live, ending, stopped, done} {
		t.Run(strconv.Itoa(i), func(t *testing.T) {
			checkChanges(t, lines, s, map[string]stateCase{
				"no vars": {true, func(s *impl.RunState) { s.Vars = nil }},
				"other vars": {true, func(s *impl.RunState) {
					s.Vars = []impl.RunVar{aVar("abcdefgh", 9999), aVar("b", -9999), aVar("b0", 0)}
				}},
				"vars doubled":     {false, func(s *impl.RunState) { s.Vars = []impl.RunVar{aVar("a", 1), aVar("a", 2)} }},
				"vars downwards":   {false, func(s *impl.RunState) { s.Vars = []impl.RunVar{aVar("b", 1), aVar("a", 1)} }},
				"vars by bytes":    {false, func(s *impl.RunState) { s.Vars = []impl.RunVar{aVar("ab", 1), aVar("a0", 1)} }},
				"var without name": {false, func(s *impl.RunState) { s.Vars = []impl.RunVar{aVar("", 1)} }},
				"var too long":     {false, func(s *impl.RunState) { s.Vars = []impl.RunVar{aVar("abcdefghi", 1)} }},
				"var a digit":      {false, func(s *impl.RunState) { s.Vars = []impl.RunVar{aVar("0a", 1)} }},
				"var above":        {false, func(s *impl.RunState) { s.Vars = []impl.RunVar{aVar("a", 10000)} }},
				"var below":        {false, func(s *impl.RunState) { s.Vars = []impl.RunVar{aVar("a", -10000)} }},
				"marks":            {true, func(s *impl.RunState) { s.Marks = []impl.RunVar{aVar("a", 1), aVar("p", 0)} }},
				"mark 2":           {false, func(s *impl.RunState) { s.Marks = []impl.RunVar{aVar("p", 2)} }},
				"mark -1":          {false, func(s *impl.RunState) { s.Marks = []impl.RunVar{aVar("p", -1)} }},
				"marks doubled":    {false, func(s *impl.RunState) { s.Marks = []impl.RunVar{aVar("p", 1), aVar("p", 1)} }},
				"marks downwards":  {false, func(s *impl.RunState) { s.Marks = []impl.RunVar{aVar("q", 1), aVar("p", 1)} }},
				"mark no name":     {false, func(s *impl.RunState) { s.Marks = []impl.RunVar{aVar("P", 1)} }},
				"box of 20":        {true, func(s *impl.RunState) { s.Box = slices.Repeat([]impl.RunVar{aVar("go", -9999)}, 20) }},
				"box of 21":        {false, func(s *impl.RunState) { s.Box = slices.Repeat([]impl.RunVar{aVar("go", 1)}, 21) }},
				"box downwards":    {true, func(s *impl.RunState) { s.Box = []impl.RunVar{aVar("go", 2), aVar("a", 9999), aVar("go", 1)} }},
				"box no name":      {false, func(s *impl.RunState) { s.Box = []impl.RunVar{aVar("go", 1), aVar("g o", 1)} }},
				"box above":        {false, func(s *impl.RunState) { s.Box = []impl.RunVar{aVar("go", 10000)} }},
				"next 10000":       {true, func(s *impl.RunState) { s.Next = 10000 }},
				"next 10001":       {false, func(s *impl.RunState) { s.Next = 10001 }},
				"next 1":           {i == 2, func(s *impl.RunState) { s.Next = 1 }},
				"next 0":           {false, func(s *impl.RunState) { s.Next, s.Undo, s.Asks = 0, nil, nil }},
				"undo of 40":       {true, func(s *impl.RunState) { s.Undo = slices.Repeat([]impl.RunAsk{entry(1, "0")}, 40) }},
				"undo of 41":       {false, func(s *impl.RunState) { s.Undo = slices.Repeat([]impl.RunAsk{entry(1, "0")}, 41) }},
				"undo downwards":   {true, func(s *impl.RunState) { s.Undo = []impl.RunAsk{entry(2, "9.-"), entry(1, "0"), entry(2, "0")} }},
				"undo at next":     {false, func(s *impl.RunState) { s.Undo = []impl.RunAsk{entry(s.Next, "0")} }},
				"undo 0":           {false, func(s *impl.RunState) { s.Undo = []impl.RunAsk{entry(0, "0")} }},
				"undo key of 23":   {true, func(s *impl.RunState) { s.Undo = []impl.RunAsk{entry(1, strings.Repeat("-", 23))} }},
				"undo key of 24":   {false, func(s *impl.RunState) { s.Undo = []impl.RunAsk{entry(1, strings.Repeat("-", 24))} }},
				"undo no key":      {false, func(s *impl.RunState) { s.Undo = []impl.RunAsk{entry(1, "")} }},
				"undo key a":       {false, func(s *impl.RunState) { s.Undo = []impl.RunAsk{entry(1, "0a")} }},
				"undo key /":       {false, func(s *impl.RunState) { s.Undo = []impl.RunAsk{entry(1, "/")} }},
				"undo no name":     {false, func(s *impl.RunState) { s.Undo = []impl.RunAsk{{Id: 1, Key: "0", Args: []int{1}}} }},
				"undo without num": {false, func(s *impl.RunState) { s.Undo = []impl.RunAsk{{Id: 1, Key: "0", Name: "x"}} }},
				"undo two nums":    {false, func(s *impl.RunState) { s.Undo = []impl.RunAsk{{Id: 1, Key: "0", Name: "x", Args: []int{1, 2}}} }},
				"undo above":       {false, func(s *impl.RunState) { s.Undo = []impl.RunAsk{{Id: 1, Key: "0", Name: "x", Args: []int{10000}}} }},
				"stands 5":         {false, func(s *impl.RunState) { s.Stands = 5 }},
				"stands -1":        {false, func(s *impl.RunState) { s.Stands = -1 }},
				"result 9999":      {i > 0, func(s *impl.RunState) { s.Result = 9999 }},
				"result -9999":     {i > 0, func(s *impl.RunState) { s.Result = -9999 }},
				"result 10000":     {false, func(s *impl.RunState) { s.Result = 10000 }},
				"result -10000":    {false, func(s *impl.RunState) { s.Result = -10000 }},
				"an arg":           {false, func(s *impl.RunState) { s.Args = []int{0} }},
				"ending or not":    {false, func(s *impl.RunState) { s.Ending = !s.Ending }},
				"anew":             {i > 1, func(s *impl.RunState) { s.Stands = impl.RunAnew }},
				"done":             {i > 1, func(s *impl.RunState) { s.Stands = impl.RunDone }},
				"live":             {i == 0, func(s *impl.RunState) { s.Stands, s.Result, s.Ending = impl.RunLive, 0, false }},
			})
		})
	}
}

// entry is something that is to be undone.
func entry(id int, key string) impl.RunAsk {
	return impl.RunAsk{Id: id, Key: key, Name: "back", Args: []int{-9999}}
}

func TestStatesThatStand(t *testing.T) {
	lines, _ := started(t, "return 1")
	all := func(stands int, result int, args ...int) impl.RunState {
		return impl.RunState{Next: 1, Stands: stands, Result: result, Args: args}
	}
	for _, s := range []impl.RunState{all(1, 5), all(2, -9002), all(3, 0), all(4, 7), all(1, -9003), all(3, 5)} {
		checkChanges(t, lines, s, map[string]stateCase{
			"three args":   {s.Stands == impl.RunAnew, func(s *impl.RunState) { s.Args = []int{9999, -9999, 0} }},
			"four args":    {false, func(s *impl.RunState) { s.Args = []int{1, 2, 3, 4} }},
			"an arg above": {false, func(s *impl.RunState) { s.Args = []int{10000} }},
			"a thread":     {false, func(s *impl.RunState) { s.Threads = []impl.RunThread{{}} }},
			"an ask":       {false, func(s *impl.RunState) { s.Next, s.Asks = 2, []impl.RunAsk{{Id: 1, Key: "0", Name: "a"}} }},
			"ending":       {false, func(s *impl.RunState) { s.Ending = true }},
			"ending an ask": {false, func(s *impl.RunState) {
				s.Next, s.Ending, s.Asks = 2, true, []impl.RunAsk{{Id: 1, Key: "0", Name: "a"}}
			}},
		})
	}
}

func TestStatesThatAreEnding(t *testing.T) {
	lines, _ := started(t, "return 1")
	s := impl.RunState{Next: 3, Ending: true, Result: -9002, Asks: []impl.RunAsk{{Id: 2, Key: "0-", Name: "back", Args: []int{1}}}}
	checkChanges(t, lines, s, map[string]stateCase{
		"key of 24":      {true, func(s *impl.RunState) { s.Asks[0].Key = strings.Repeat(".", 24) }},
		"key of 25":      {false, func(s *impl.RunState) { s.Asks[0].Key = strings.Repeat(".", 25) }},
		"no key":         {false, func(s *impl.RunState) { s.Asks[0].Key = "" }},
		"no name":        {false, func(s *impl.RunState) { s.Asks[0].Name = "" }},
		"bad name":       {false, func(s *impl.RunState) { s.Asks[0].Name = "Back" }},
		"no asks":        {false, func(s *impl.RunState) { s.Asks = nil }},
		"two asks":       {false, func(s *impl.RunState) { s.Asks = []impl.RunAsk{{Id: 1, Key: "0", Name: "a"}, s.Asks[0]} }},
		"asks no number": {true, func(s *impl.RunState) { s.Asks[0].Args = nil }},
		"asks three":     {true, func(s *impl.RunState) { s.Asks[0].Args = []int{1, -9999, 9999} }},
		"asks four":      {false, func(s *impl.RunState) { s.Asks[0].Args = []int{1, 2, 3, 4} }},
		"asks above":     {false, func(s *impl.RunState) { s.Asks[0].Args = []int{10000} }},
		"id 0":           {false, func(s *impl.RunState) { s.Asks[0].Id = 0 }},
		"id at next":     {false, func(s *impl.RunState) { s.Asks[0].Id = 3 }},
		"result 0":       {true, func(s *impl.RunState) { s.Result = 0 }},
		"a thread":       {false, func(s *impl.RunState) { s.Threads = []impl.RunThread{{At: 0}} }},
		"an arg":         {false, func(s *impl.RunState) { s.Args = []int{1} }},
		"done":           {false, func(s *impl.RunState) { s.Stands = impl.RunDone }},
	})
}

// One thread, which waits for something of each kind, one behind the other.
func TestStatesOfOneThread(t *testing.T) {
	lines, s := started(t, "do a pay n 1 undo back;sleep 2;get b go for 3;get c go;both;and;end;return a", 1)
	waiting := []impl.RunState{s}
	for _, h := range []impl.RunHap{did(1, 4), fired(2), fired(3)} {
		s = then(t, lines, s, h)
		waiting = append(waiting, s)
	}
	for i, s := range waiting {
		asks := i < 3
		// Each waits at its own step alone, and so does one more number of the ask, or another name, not fit.
		cases := map[string]stateCase{
			"no thread":   {false, func(s *impl.RunState) { s.Threads = nil }},
			"nothing":     {false, func(s *impl.RunState) { s.Threads, s.Asks = nil, nil }},
			"doubled":     {false, func(s *impl.RunState) { s.Threads = append(s.Threads, s.Threads[0]) }},
			"path 0":      {false, func(s *impl.RunState) { s.Threads[0].Path = "0" }},
			"made next":   {false, func(s *impl.RunState) { s.Threads[0].Made = s.Next }},
			"made less":   {true, func(s *impl.RunState) { s.Threads[0].Made = s.Next - 1 }},
			"made 0":      {true, func(s *impl.RunState) { s.Threads[0].Made = 0 }},
			"made -1":     {false, func(s *impl.RunState) { s.Threads[0].Made = -1 }},
			"ask of none": {false, func(s *impl.RunState) { s.Threads[0].Ask = 77 }},
			"ask -1":      {false, func(s *impl.RunState) { s.Threads[0].Ask = -1 }},
			"ask 0":       {!asks, func(s *impl.RunState) { s.Threads[0].Ask = 0 }},
			"asks gone":   {!asks, func(s *impl.RunState) { s.Asks = nil }},
			"one ask more": {false, func(s *impl.RunState) {
				s.Next, s.Asks = 99, append(s.Asks, impl.RunAsk{Id: 50, Key: "9", Name: "pay"})
			}},
			"result":        {false, func(s *impl.RunState) { s.Result = 1 }},
			"wait 0":        {false, func(s *impl.RunState) { s.Threads[0].Wait = 0 }},
			"wait 5":        {false, func(s *impl.RunState) { s.Threads[0].Wait = 5 }},
			"wait 4":        {false, func(s *impl.RunState) { s.Threads[0].Wait, s.Threads[0].Ask, s.Asks = 4, 0, nil }},
			"at -1":         {false, func(s *impl.RunState) { s.Threads[0].At = -1 }},
			"at the end":    {false, func(s *impl.RunState) { s.Threads[0].At = 8 }},
			"at the return": {false, func(s *impl.RunState) { s.Threads[0].At = 7 }},
			"at a join":     {false, func(s *impl.RunState) { s.Threads[0].At = 5 }},
		}
		for at := range 8 {
			cases["at "+strconv.Itoa(at)] = stateCase{at == i, func(s *impl.RunState) { s.Threads[0].At = at }}
		}
		for wait := range 6 {
			cases["wait for "+strconv.Itoa(wait)] = stateCase{wait == []int{1, 2, 3, 3}[i], func(s *impl.RunState) { s.Threads[0].Wait = wait }}
		}
		if asks {
			cases["a number more"] = stateCase{false, func(s *impl.RunState) { s.Asks[0].Args = append(s.Asks[0].Args, 1) }}
			cases["a number less"] = stateCase{false, func(s *impl.RunState) { s.Asks[0].Args = s.Asks[0].Args[1:] }}
			cases["a number above"] = stateCase{false, func(s *impl.RunState) { s.Asks[0].Args[0] = 10000 }}
			cases["other numbers"] = stateCase{true, func(s *impl.RunState) { s.Asks[0].Args[0] = -9999 }}
			cases["a name"] = stateCase{i == 0, func(s *impl.RunState) { s.Asks[0].Name = "pay" }}
			cases["no name"] = stateCase{i != 0, func(s *impl.RunState) { s.Asks[0].Name = "" }}
			cases["another name"] = stateCase{false, func(s *impl.RunState) { s.Asks[0].Name = "mail" }}
			cases["another id"] = stateCase{true, func(s *impl.RunState) { s.Next, s.Asks[0].Id, s.Threads[0].Ask = 900, 899, 899 }}
			cases["an id at next"] = stateCase{false, func(s *impl.RunState) { s.Next, s.Asks[0].Id, s.Threads[0].Ask = 900, 900, 900 }}
			cases["id 0"] = stateCase{false, func(s *impl.RunState) { s.Asks[0].Id, s.Threads[0].Ask = 0, 0 }}
			cases["key of 23"] = stateCase{true, func(s *impl.RunState) { s.Asks[0].Key = strings.Repeat("0", 23) }}
			cases["key of 24"] = stateCase{false, func(s *impl.RunState) { s.Asks[0].Key = strings.Repeat("0", 24) }}
			cases["no key"] = stateCase{false, func(s *impl.RunState) { s.Asks[0].Key = "" }}
			cases["asked twice"] = stateCase{false, func(s *impl.RunState) { s.Asks = append(s.Asks, s.Asks[0]) }}
		}
		checkChanges(t, lines, s, cases)
	}
}

// Parts in parts: 0 fork, 1 fork in its first part, 2 and 4 sleep, 3 and 5 join, 6 sleep, 7 join; 8 sleep in the second part, 9 join; 10 sleep.
func TestStatesOfPartsInParts(t *testing.T) {
	lines, s := started(t, "both;both;sleep 1;and;sleep 2;end;sleep 3;and;sleep 4;end;sleep 5;return 1")
	if got := told(lines, s); !strings.HasPrefix(got, "live 0; at :0; at 0:1; at 00:2; at 01:4; at 1:8; ask 1 00.0 time 1; ask 2 01.0 time 2; ask 3 1.0 time 4;") {
		t.Fatalf("%q", got)
	}
	at := func(place, step int) stateCase {
		return stateCase{false, func(s *impl.RunState) { s.Threads[place].At = step }}
	}
	gone := func(places ...int) stateCase {
		return stateCase{false, func(s *impl.RunState) {
			s.Threads = s.Threads[:copy(s.Threads, pickedThreads(s.Threads, places))]
			s.Asks = asksOf(s)
		}}
	}
	joins := func(places ...int) func(s *impl.RunState) {
		return func(s *impl.RunState) {
			for _, place := range places {
				s.Threads[place].Wait, s.Threads[place].Ask = 4, 0
				s.Threads[place].At = []int{0, 7, 3, 5, 9}[place]
			}
			s.Asks = asksOf(s)
		}
	}
	checkChanges(t, lines, s, map[string]stateCase{
		"the inner one outside": at(2, 6), "the inner one beyond": at(2, 10), "the inner one in the other part": at(2, 4), "both in one part": at(3, 2), "in the second part of the outer fork": at(2, 8),
		"the outer one inside": at(4, 2), "the outer one outside": at(4, 10), "the outer one in the first part": at(4, 6), "the first one inside": at(0, 1), "the second one at the outer fork": at(1, 0),
		"in no fork, with parts": at(1, 6), "the first one gone": gone(1, 2, 3, 4), "the second one gone": gone(0, 2, 3, 4), "a part gone": gone(0, 1, 2, 4), "the other part gone": gone(0, 1, 3, 4),
		"inner parts gone": gone(0, 1, 4), "the outer part gone": gone(0, 1, 2, 3), "just the first one": gone(0), "a part alone": gone(2), "nobody": gone(),
		"one at its join":            {true, joins(2)},
		"the other one at its join":  {true, joins(3)},
		"the outer one at its join":  {true, joins(4)},
		"one of each at their joins": {true, joins(2, 4)},
		"both at their joins":        {false, joins(2, 3)},
		"all at their joins":         {false, joins(2, 3, 4)},
		"joins with parts":           {false, joins(1)},
		"joins with an ask":          {false, func(s *impl.RunState) { s.Threads[2].Wait, s.Threads[2].At = 4, 3 }},
		"a fork with an ask":         {false, func(s *impl.RunState) { s.Threads[1].Ask = 1 }},
		"joins at the outer join":    {false, func(s *impl.RunState) { joins(2)(s); s.Threads[2].At = 7 }},
		"joins at the other join":    {false, func(s *impl.RunState) { joins(2)(s); s.Threads[2].At = 5 }},
		"waits for nothing":          {false, func(s *impl.RunState) { s.Threads[1].Wait = 0 }},
		"paths swapped":              {false, func(s *impl.RunState) { s.Threads[2].Path, s.Threads[3].Path = "01", "00" }},
		"threads swapped":            {false, func(s *impl.RunState) { s.Threads[2], s.Threads[3] = s.Threads[3], s.Threads[2] }},
		"two have one ask":           {false, func(s *impl.RunState) { s.Threads[3].Ask = 1 }},
		"two have one ask of two":    {false, func(s *impl.RunState) { s.Threads[3].Ask, s.Asks = 1, []impl.RunAsk{s.Asks[0], s.Asks[2]} }},
		"asks swapped":               {true, func(s *impl.RunState) { s.Threads[2].Ask, s.Threads[3].Ask = 2, 1 }},
		"asks downwards":             {false, func(s *impl.RunState) { s.Asks[0], s.Asks[1] = s.Asks[1], s.Asks[0] }},
		"one key":                    {true, func(s *impl.RunState) { s.Asks[0].Key, s.Asks[1].Key = "7", "7" }},
		"path 2":                     {false, func(s *impl.RunState) { s.Threads[4].Path = "2" }},
		"path of spaces":             {false, func(s *impl.RunState) { s.Threads[4].Path = "1 " }},
		"path 10":                    {false, func(s *impl.RunState) { s.Threads[4].Path = "10" }},
		"path of five":               {false, func(s *impl.RunState) { s.Threads[4].Path = "11111" }},
		"made of all":                {true, func(s *impl.RunState) { s.Threads[0].Made, s.Threads[1].Made, s.Threads[2].Made = 3, 0, 2 }},
		"an arg":                     {false, func(s *impl.RunState) { s.Args = []int{1} }},
	})
	// All in both parts of the inner fork are through: the one that waited for them is behind it, and alone in its part.
	s = then(t, lines, s, fired(1), fired(2))
	checkChanges(t, lines, s, map[string]stateCase{
		"still": at(1, 1), "in a part": at(1, 2), "with the other one": at(1, 8), "at the outer fork": at(1, 0), "behind both": at(1, 10), "as it is": {true, func(*impl.RunState) {}},
	})
}

func pickedThreads(threads []impl.RunThread, places []int) []impl.RunThread {
	var list []impl.RunThread
	for _, place := range places {
		list = append(list, threads[place])
	}
	return list
}

// asksOf are the asks that threads still wait for.
func asksOf(s *impl.RunState) []impl.RunAsk {
	var list []impl.RunAsk
	for _, ask := range s.Asks {
		if slices.ContainsFunc(s.Threads, func(thread impl.RunThread) bool { return thread.Ask == ask.Id }) {
			list = append(list, ask)
		}
	}
	return list
}

// A path is as long as blocks may be deep, and no longer.
func TestTheLongestPath(t *testing.T) {
	lines, s := started(t, nested(impl.FlowMaxDeep, true)+";return 1")
	if len(s.Threads) != 11 || s.Threads[9].Path != "11110" || s.Threads[10].Path != "11111" || !impl.RunOk(lines, s) {
		t.Fatalf("%+v", s)
	}
	s.Threads[10].Path = "111111"
	if impl.RunOk(lines, s) {
		t.Error("a path that is too long")
	}
}

func TestStatesOfOtherWorkflows(t *testing.T) {
	lines, s := started(t, "do a pay n;sleep a;return a", 1)
	for name, c := range map[string]struct {
		lines []impl.FlowLine
		want  bool
	}{
		"another name and head":  {linesOf(t, "workflow other x y\ndo z pay x undo back\nreturn z"), true},
		"another number":         {linesOf(t, "workflow w\ndo a pay 5\nreturn a"), true},
		"more numbers":           {linesOf(t, "workflow w\ndo a pay 5 6\nreturn a"), false},
		"something else is done": {linesOf(t, "workflow w\ndo a mail 5\nreturn a"), false},
		"something ahead":        {linesOf(t, "workflow w\nlet b is 1\ndo a pay 5\nreturn a"), false},
		"in a patch":             {linesOf(t, "workflow w\npatch p\ndo a pay 5\nend\nreturn 1"), false},
		"in a fork":              {linesOf(t, "workflow w\nboth\ndo a pay 5\nand\nend\nreturn 1"), false},
		"no lines":               {nil, false},
		"no return":              {lines[:2], false},
		"spoiled":                {append(slices.Clone(lines[:3]), impl.FlowLine{Kind: impl.FlowReturn}), false},
	} {
		if impl.RunOk(c.lines, s) != c.want {
			t.Errorf("%s: ok is not %v", name, c.want)
		}
	}
	if impl.RunOk(lines, impl.RunState{}) || impl.RunOk(nil, impl.RunState{}) || !impl.RunOk(lines, impl.RunState{Next: 1, Stands: impl.RunDone}) {
		t.Error("next to nothing")
	}
}
