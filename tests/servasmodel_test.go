package tests

import (
	"testing"

	"loop.example/dunserv/impl"
)

// worldAsModel holds what is told of a world against the model; it tells whether the world is ok.
func worldAsModel(t *testing.T, w impl.ServWorld) bool {
	t.Helper()
	ok := modelWorldOk(w)
	if impl.ServOk(w) != ok || impl.ServSafe(w) != modelSafe(w) || impl.ServBoard(w) != modelServBoard(w) {
		t.Fatalf("%+v\nok %v, not %v; safe %v, not %v\n%q\n%q", w, impl.ServOk(w), ok, impl.ServSafe(w), modelSafe(w), impl.ServBoard(w), modelServBoard(w))
	}
	for run := -1; run <= min(len(w.Runs), 9); run++ {
		shard, want, began := -1, impl.RunState{}, false
		if ok && run >= 0 && run < len(w.Runs) {
			shard, want, began = modelShard(w, w.Runs[run].Name), modelState(w, run), len(w.Runs[run].Hist) > 0
		}
		s, has := impl.ServState(w, run)
		if impl.ServShardOf(w, run) != shard || has != began || !same(s, want) {
			t.Fatalf("%+v\nrun %d: shard %d, not %d; %v %+v, not %v %+v", w, run, impl.ServShardOf(w, run), shard, has, s, began, want)
		}
	}
	return ok
}

// doesAsModel holds what comes of an event against the model.
func doesAsModel(t *testing.T, w impl.ServWorld, e impl.ServEvent) (impl.ServWorld, int) {
	t.Helper()
	next, code := impl.ServDo(w, e)
	if want, wanted := modelDo(w, e); code != wanted || !same(next, want) {
		t.Fatalf("%+v\nthen %+v: %d, not %d\n%+v, not\n%+v", w, e, code, wanted, next, want)
	}
	return next, code
}

func calmsAsModel(t *testing.T, w impl.ServWorld, rounds int) {
	t.Helper()
	if got, want := impl.ServCalm(w, rounds), modelCalm(w, rounds); !same(got, want) {
		t.Fatalf("%+v\nbehind %d rounds\n%+v, not\n%+v", w, rounds, got, want)
	}
}

// P23 to P29: services to which all kinds of things happen, in many orders.
func TestServicesAsTheModel(t *testing.T) {
	t.Parallel()
	codes := map[[2]int]int{}
	for seed := range int64(150) {
		m := newMaker(seed)
		w := m.service(t)
		for range 100 {
			e := m.event(w)
			if m.Intn(4) == 0 {
				e = m.anyEvent(w)
			}
			next, code := doesAsModel(t, w, e)
			codes[[2]int{e.Kind, code}]++
			w = next
		}
		worldAsModel(t, w)
		calmsAsModel(t, w, m.Intn(6)-1)
	}
	allCodes(t, codes, 4, [][]int{1: {0}, 2: {0, 2, 3, 4}, 3: {0, 2, 5, 6}, 4: {0, 5, 6}, 5: {0, 5, 7}, 6: {0, 4, 5, 6, 7}, 7: {0, 5, 6, 7, 8}, 8: {0, 5, 7}, 9: {0, 5, 7}, 10: {0, 5, 7}, 11: {0, 5}, 12: {0, 2, 5, 9}})
}

// allCodes says whether each of these codes of each kind came up so often.
func allCodes(t *testing.T, codes map[[2]int]int, often int, wanted [][]int) {
	t.Helper()
	for kind, all := range wanted {
		for _, code := range all {
			if many := codes[[2]int{kind, code}]; many < often {
				t.Errorf("kind %d had code %d just %d times", kind, code, many)
			}
		}
	}
}

// P25, P27: services in which much is at its limit, or just below it.
func TestCrowdedServicesAsTheModel(t *testing.T) {
	t.Parallel()
	codes := map[[2]int]int{}
	for seed := range int64(220) {
		m := newMaker(seed)
		w := m.crowded(m.served(t, 60))
		if !worldAsModel(t, w) {
			t.Fatalf("%+v is not ok", w)
		}
		for range 30 {
			e := m.event(w)
			next, code := doesAsModel(t, w, e)
			codes[[2]int{e.Kind, code}]++
			w = next
		}
		worldAsModel(t, w)
		calmsAsModel(t, w, m.Intn(4)-1)
	}
	allCodes(t, codes, 4, [][]int{1: {0, 4}, 2: {0, 2, 3, 4}, 3: {0, 4, 5, 6}, 4: {0}, 5: {0, 4, 5, 7}, 6: {0, 4, 5, 6, 7}, 7: {0, 6, 7, 8}, 8: {0, 4, 5, 7}, 9: {0, 4, 5, 7}, 10: {0, 7}, 11: {0}, 12: {0, 9}})
}

// P28, P29: worlds in which something is spoiled, and what happens to them.
func TestSpoiledWorldsAsTheModel(t *testing.T) {
	t.Parallel()
	count := map[bool]int{}
	for seed := range int64(140) {
		m := newMaker(seed)
		w := m.served(t, 50)
		if m.Intn(2) == 0 {
			w = m.crowded(w)
		}
		for range 25 {
			spoiled := m.spoilWorld(w)
			ok := worldAsModel(t, spoiled)
			count[ok]++
			if _, code := doesAsModel(t, spoiled, m.event(w)); (code == 1) == ok {
				t.Fatalf("%+v\nok is %v, and the code %d", spoiled, ok, code)
			}
			if m.Intn(6) == 0 {
				calmsAsModel(t, spoiled, 1)
			}
		}
	}
	if count[true] < 500 || count[false] < 1400 {
		t.Errorf("how often one was ok: %v", count)
	}
}

// No function panics, whatever it is given, and what it answers is right all the same.
func TestServicesOfWhateverIsGiven(t *testing.T) {
	t.Parallel()
	for seed := range int64(1200) {
		m := newMaker(seed)
		w := wildly[impl.ServWorld](m)
		if m.Intn(4) > 0 {
			w = m.served(t, 12)
		}
		switch m.Intn(5) {
		case 0:
			w.Runs = wildly[[]impl.ServRun](m)
		case 1:
			w.Workers = wildly[[]impl.ServWorker](m)
		case 2:
			w.Shards, w.Now = wildly[[]impl.ServShard](m), wildly[int](m)
		case 3:
			w.Flows = wildly[[][]impl.FlowLine](m)
		case 4:
			w.Effects, w.Tokens = wildly[[]impl.ServEffect](m), wildly[[]int](m)
		}
		worldAsModel(t, w)
		doesAsModel(t, w, wildly[impl.ServEvent](m))
		calmsAsModel(t, w, m.Intn(3)-1)
		flows, shards, workers := wildly[[][]impl.FlowLine](m), wildly[int](m), wildly[int](m)
		if opened, ok := impl.ServOpen(flows, shards, workers); ok || !same(opened, impl.ServWorld{}) {
			t.Fatalf("%+v %d %d opens", flows, shards, workers)
		}
	}
}

// P27: what happens to a world that is ok, whatever it is.
func TestWhateverHappens(t *testing.T) {
	t.Parallel()
	count := map[bool]int{}
	for seed := range int64(200) {
		m := newMaker(seed)
		w := m.served(t, 40)
		for range 20 {
			e := wildly[impl.ServEvent](m)
			if m.Intn(3) > 0 {
				e.Kind = 1 + m.Intn(12)
			}
			next, code := doesAsModel(t, w, e)
			count[code == 0]++
			w = next
		}
		calmsAsModel(t, w, 1)
	}
	if count[true] < 200 || count[false] < 1500 {
		t.Errorf("how often it happened: %v", count)
	}
}
