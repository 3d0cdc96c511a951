package tests

import (
	"fmt"
	"slices"
	"strings"
	"testing"

	"loop.example/dunserv/impl"
)

// P23: what is safe, and what is ok, but not safe.
func TestWhatIsSafe(t *testing.T) {
	base := someWorld(t)
	if !impl.ServSafe(base) {
		t.Fatalf("%+v is not safe", base)
	}
	effects := func(change func(list []impl.ServEffect) []impl.ServEffect) func(w *impl.ServWorld) {
		return func(w *impl.ServWorld) { w.Effects = change(w.Effects) }
	}
	without := func(place int) func(w *impl.ServWorld) {
		return effects(func(list []impl.ServEffect) []impl.ServEffect { return slices.Delete(list, place, place+1) })
	}
	answer := func(place, num int) func(w *impl.ServWorld) {
		return func(w *impl.ServWorld) { w.Effects[place].Answer = num }
	}
	hist := func(place int, row string, closed bool) func(w *impl.ServWorld) {
		return func(w *impl.ServWorld) { w.Runs[place].Hist, w.Runs[place].Closed = histRead(t, row), closed }
	}
	both := func(one, other func(w *impl.ServWorld)) func(w *impl.ServWorld) {
		return func(w *impl.ServWorld) { one(w); other(w) }
	}
	undone := "start 2;ask 1 0 pay 2;done 1 3;cancel;ask 2 0- back 3;done 2 5;end 4 -9003"
	undo := effects(func(list []impl.ServEffect) []impl.ServEffect {
		return append(list, impl.ServEffect{Key: "order/0/0-", Answer: 5, Tries: 1})
	})
	for name, c := range map[string]struct {
		ok, safe bool
		change   func(w *impl.ServWorld)
	}{
		"as it is":                        {true, true, asItIs},
		"not ok":                          {false, false, func(w *impl.ServWorld) { w.Now = -1 }},
		"nothing":                         {false, false, func(w *impl.ServWorld) { *w = impl.ServWorld{} }},
		"two have a term":                 {true, false, func(w *impl.ServWorld) { w.Workers[0].Terms[0] = 2 }},
		"two have it, one of them down":   {true, false, func(w *impl.ServWorld) { w.Workers[2].Terms[0] = 2 }},
		"two have a term that is over":    {true, true, func(w *impl.ServWorld) { w.Workers[2].Terms[0] = 1 }},
		"nobody has the term":             {true, true, func(w *impl.ServWorld) { w.Workers[1].Terms[0] = 1 }},
		"another one than the owner":      {true, true, func(w *impl.ServWorld) { w.Shards[0].Owner = 0 }},
		"all have none":                   {true, true, func(w *impl.ServWorld) { *w = wider(*w, 3) }},
		"it was not done":                 {true, false, without(0)},
		"the second one was not done":     {true, false, without(1)},
		"done, but not yet written":       {true, true, without(2)},
		"another answer":                  {true, false, answer(0, 4)},
		"another answer to the second":    {true, false, answer(1, 1)},
		"another answer, not yet written": {true, true, answer(2, 4)},
		"of another chain":                {true, false, func(w *impl.ServWorld) { w.Runs[0].Chain = 2 }},
		"of another name":                 {true, false, func(w *impl.ServWorld) { w.Runs[0].Name = "d" }},
		"nothing was done":                {true, false, func(w *impl.ServWorld) { w.Effects = nil }},
		"what broke was not done":         {true, true, both(without(2), hist(2, "start 2;ask 1 0 pay 2;broke 1 3;end 2 3", true))},
		"what is undone was done":         {true, true, both(undo, hist(2, undone, true))},
		"what is undone was not done":     {true, false, hist(2, undone, true)},
		"and as it was done":              {true, false, both(undo, hist(2, strings.ReplaceAll(undone, "done 2 5", "done 2 6"), true))},
		"tried however often":             {true, true, func(w *impl.ServWorld) { w.Effects[0].Tries = 77 }},
		"effects of nobody": {true, true, effects(func(list []impl.ServEffect) []impl.ServEffect {
			return append(list, impl.ServEffect{Key: "z", Tries: 1})
		})},
		"of another shard two have none": {true, true, func(w *impl.ServWorld) { w.Shards[1] = impl.ServShard{Owner: 1, Term: 1} }},
	} {
		w := clone(base)
		c.change(&w)
		if impl.ServOk(w) != c.ok || impl.ServSafe(w) != c.safe || modelSafe(w) != c.safe {
			t.Errorf("%s: ok %v, safe %v, by the model %v", name, impl.ServOk(w), impl.ServSafe(w), modelSafe(w))
		}
	}
}

// P27: how many rounds pass.
func TestRounds(t *testing.T) {
	w := begun(t, 3, 2, orderFlow, []int{2}, "a", "b", "c")
	for rounds, want := range map[int]int{-1: 0, -1 << 63: 0, 0: 0, 1: 1, 2: 2, 299: 299, 300: 300, 301: 300, 1 << 40: 300} {
		got := impl.ServCalm(w, rounds)
		if got.Now != want || !same(got, modelCalm(w, min(want, 12))) && want < 13 || want == 0 && !same(got, w) {
			t.Errorf("%d rounds: %s", rounds, impl.ServBoard(got))
		}
	}
	if got := impl.ServCalm(impl.ServWorld{}, 3); !same(got, impl.ServWorld{}) {
		t.Errorf("%+v", got)
	}
	w.Now = impl.ServMaxTick - 2
	got := impl.ServCalm(w, 5)
	if got.Now != impl.ServMaxTick || !same(got, modelCalm(w, 5)) || got.Shards[0].Until != impl.ServMaxTick+impl.ServLease {
		t.Errorf("%+v", got)
	}
}

// calmCases are services that go on in calm rounds, in each way in which shards may be in each other's.
func calmCases(t *testing.T) map[string]impl.ServWorld {
	busy := "workflow w n\nlet i is 0\nwhile i less n\nboth\ndo a x i\nand\ndo b y i\nend\nlet i add i 1\nend\nreturn i"
	names := []string{"a", "b", "c", "d", "e", "f"}
	w := begun(t, 3, 3, busy, []int{20}, names...)
	cases := map[string]impl.ServWorld{"all effects": w}
	for _, many := range []int{195, 199, 200} {
		x := clone(w)
		newMaker(int64(many)).fillEffects(&x, many)
		cases[fmt.Sprintf("%d effects", many)] = x
	}
	x := impl.ServCalm(after(t, begun(t, 3, 3, busy, []int{3}, names...), leases(0, 0), leases(1, 1), leases(2, 2)), 1)
	for run := range names {
		x = after(t, x, signals(run, run, "no", 1))
		x, _ = impl.ServDo(x, tries(run, 1))
		who := impl.ServShardOf(x, run)
		x = after(t, x, takes(who, run), takes(who, run), takes(who, run))
	}
	cases["full hands"] = x
	y := clone(x)
	y.Workers[0].Tasks, y.Workers[1].Tasks = nil, y.Workers[1].Tasks[:1]
	cases["one task in hands"] = y
	z := clone(x)
	for i, task := range z.Workers[0].Tasks {
		// It goes well for a while, and then it is not what the run says.
		z.Workers[0].Tasks[i].Put = append(task.Put, histRead(t, "signal no 2;mark q")...)
	}
	cases["what is unlike in hands"] = z
	cases["one worker fell"] = after(t, x, falls(1))
	cases["all fell"] = after(t, x, falls(0), falls(1), falls(2))
	cases["they rose"] = after(t, x, falls(0), falls(1), falls(2), rises(0), rises(1), rises(2))
	anew := begun(t, 2, 2, "workflow w n\nsleep 1\ndo a x n\nlet n add n 1\nnext n", []int{1}, "a", "b", "c")
	cases["again and again"] = anew
	cases["nobody's"] = opened(t, 3, 3, orderFlow)
	waits := begun(t, 2, 1, "workflow w\nget a go\ndo b x a\nget c on for 3\nsleep c\nreturn b", nil, "a", "b")
	cases["waiting"] = after(t, waits, signals(0, 1, "go", 4), signals(1, 2, "on", 3), signals(1, 3, "up", 3))
	return cases
}

// P27: calm rounds are what their events are, one behind the other, whichever shards runs are of.
func TestCalmIsItsEvents(t *testing.T) {
	t.Parallel()
	for name, w := range calmCases(t) {
		want := w
		for rounds := range 10 {
			if got := impl.ServCalm(w, rounds); !same(got, want) {
				t.Fatalf("%s behind %d rounds:\n%s, not\n%s", name, rounds, impl.ServBoard(got), impl.ServBoard(want))
			}
			want = modelCalm(want, 1)
		}
	}
}

// P27: many rounds are as many at a time.
func TestCalmOfParts(t *testing.T) {
	for name, w := range calmCases(t) {
		for _, parts := range [][]int{{150, 150}, {1, 299}, {0, 300}, {299, 1}, {7, 50, 3, 40}, {-5, 60, -1}} {
			got, sum := w, 0
			for _, rounds := range parts {
				got = impl.ServCalm(got, rounds)
				sum += max(rounds, 0)
			}
			if want := impl.ServCalm(w, sum); !same(got, want) || !impl.ServOk(got) {
				t.Fatalf("%s by %v:\n%s, not\n%s", name, parts, impl.ServBoard(got), impl.ServBoard(want))
			}
		}
	}
	// Nothing is left to do in the end.
	for name, many := range map[string]int{"full hands": 42, "they rose": 42, "nobody's": 0} {
		w := impl.ServCalm(calmCases(t)[name], 300)
		if board := impl.ServBoard(w); strings.Contains(board, " live ") || len(w.Effects) != min(many-6, len(w.Effects)) && many > 0 {
			t.Errorf("%s:\n%s", name, board)
		}
	}
	w := impl.ServCalm(calmCases(t)["again and again"], 300)
	if w.Runs[0].Chain < 40 || !impl.ServSafe(w) {
		t.Errorf("%s", impl.ServBoard(w))
	}
	w = impl.ServCalm(calmCases(t)["all effects"], 300)
	if len(w.Effects) != impl.ServMaxEffects || !impl.ServSafe(w) {
		t.Errorf("%s", impl.ServBoard(w))
	}
}
