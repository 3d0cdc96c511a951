package tests

import (
	"runtime"
	"testing"
	"time"

	"loop.example/dunserv/impl"
)

// Nothing is written into an argument of the service's functions or behind its end, and no answer shares memory with one, or within itself.
func TestServicesShareNoMemory(t *testing.T) {
	t.Parallel()
	type given struct {
		World   impl.ServWorld
		Spoiled impl.ServWorld
		Events  []impl.ServEvent
		Flows   [][]impl.FlowLine
	}
	done := map[int]int{}
	for seed := range int64(250) {
		m := newMaker(seed)
		w := m.served(t, 50)
		if m.Intn(2) == 0 {
			w = m.crowded(w)
		}
		g := given{World: w, Spoiled: m.spoilWorld(w), Flows: w.Flows}
		for range 12 {
			g.Events = append(g.Events, m.event(w))
		}
		g.Events = append(g.Events, m.anyEvent(w), impl.ServEvent{})
		g = withRoom(g)
		before := wholeOf(g)
		answers := []any{g}
		for _, e := range g.Events {
			next, code := impl.ServDo(g.World, e)
			done[code]++
			answers = append(answers, next)
		}
		for run := range len(g.World.Runs) + 1 {
			s, _ := impl.ServState(g.World, run)
			answers = append(answers, s)
			impl.ServShardOf(g.World, run)
		}
		spoiled, _ := impl.ServDo(g.Spoiled, g.Events[0])
		opened, _ := impl.ServOpen(g.Flows, 3, 2)
		answers = append(answers, spoiled, opened, impl.ServCalm(g.World, 0), impl.ServCalm(g.World, 3), impl.ServCalm(g.Spoiled, 2))
		impl.ServOk(g.Spoiled)
		impl.ServSafe(g.World)
		impl.ServBoard(g.World)
		if after := wholeOf(g); after != before {
			t.Fatalf("%s\nis changed to\n%s", before, after)
		}
		sharesNothing(t, answers...)
	}
	if done[0] < 1500 || done[8] < 50 {
		t.Errorf("codes: %v", done)
	}
}

// What goes from an event, or from hands, into the world is new memory, too.
func TestWhatGoesIntoAWorldIsNew(t *testing.T) {
	w := someWorld(t)
	w.Workers[1].Tasks = []impl.ServTask{{Run: 2, Term: 2, Len: 2, Take: 1, Put: histRead(t, "signal go 3")}}
	w = withRoom(w)
	before := wholeOf(w)
	for _, e := range withRoom([]impl.ServEvent{
		{Kind: impl.ServBegins, Name: "a", Nums: []int{5}}, deploys(1, flowOf(t, "", "sleep 5;let a is 1;return a")), signals(2, 5, "go", 1), takes(1, 3), takes(1, 2), writes(1), falls(1), leases(0, 1), tries(2, 1),
	}) {
		ahead := wholeOf(e)
		next, code := impl.ServDo(w, e)
		if code != 0 || wholeOf(w) != before || wholeOf(e) != ahead {
			t.Errorf("%+v: %d, or something is changed", e, code)
		}
		sharesNothing(t, w, e, next)
	}
}

// What a run asks for that is undoing shares no memory with what is left to be undone, in spare room either.
func TestStatesOfWhatIsUndoneAreNew(t *testing.T) {
	w := someWorld(t)
	w.Runs[2].Hist = histRead(t, "start 2;ask 1 0 pay 2;done 1 3;signal go 1;ask 2 1 mail 1;cancel;ask 3 0- back 3")
	w = withRoom(w)
	s, ok := impl.ServState(w, 2)
	other, again := impl.ServState(w, 2)
	if !ok || !again || !s.Ending || len(s.Asks) != 1 {
		t.Fatalf("%v %+v", ok, s)
	}
	sharesNothing(t, w, s, other)
}

// Services at once do not disturb each other.
func TestServicesAtOnce(t *testing.T) {
	w := calmCases(t)["full hands"]
	fresh := begun(t, 3, 3, trip, []int{4}, "a", "b", "c", "d", "e", "f")
	want, other := impl.ServCalm(w, 20), impl.ServCalm(fresh, 20)
	told := make(chan bool)
	for range 16 {
		go func() {
			right := true
			for range 10 {
				next, code := impl.ServDo(w, writes(0))
				right = right && same(impl.ServCalm(w, 20), want) && same(impl.ServCalm(fresh, 20), other) && code == 0 && impl.ServOk(next)
			}
			told <- right
		}()
	}
	for range 16 {
		if !<-told {
			t.Error("another answer")
		}
	}
}

// With one processor, and with many, calm rounds come to the same.
func TestCalmByProcessors(t *testing.T) {
	defer runtime.GOMAXPROCS(runtime.GOMAXPROCS(0))
	for name, w := range calmCases(t) {
		runtime.GOMAXPROCS(1)
		want := impl.ServCalm(w, 40)
		for _, many := range []int{1, 2, 32} {
			runtime.GOMAXPROCS(many)
			for range 4 {
				if got := impl.ServCalm(w, 40); !same(got, want) {
					t.Fatalf("%s by %d processors:\n%s, not\n%s", name, many, impl.ServBoard(got), impl.ServBoard(want))
				}
			}
		}
	}
}

// Goroutines that went on with runs are through when a call answers: none is left behind.
func TestNoShardIsLeft(t *testing.T) {
	cases := calmCases(t)
	before := runtime.NumGoroutine()
	for range 5 {
		for _, w := range cases {
			impl.ServCalm(w, 10)
			impl.ServDo(w, takes(0, 0))
			impl.ServBoard(w)
		}
	}
	for range 200 {
		if runtime.NumGoroutine() <= before {
			return
		}
		time.Sleep(10 * time.Millisecond)
	}
	t.Errorf("%d goroutines, there were %d", runtime.NumGoroutine(), before)
}
