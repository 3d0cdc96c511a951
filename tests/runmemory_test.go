package tests

import (
	"fmt"
	"reflect"
	"runtime"
	"slices"
	"testing"
	"time"

	"loop.example/dunserv/impl"
)

// stretchOf is the memory of a list, spare room included.
type stretchOf struct {
	from, to uintptr
	what     string
}

// memoryOf adds the memory of all lists in a value, those in spare room included.
func memoryOf(v reflect.Value, what string, all *[]stretchOf) {
	switch v.Kind() {
	case reflect.Struct:
		for i := range v.NumField() {
			memoryOf(v.Field(i), what+"."+v.Type().Field(i).Name, all)
		}
	case reflect.Slice:
		if v.Cap() == 0 {
			return
		}
		size := uintptr(v.Cap()) * v.Type().Elem().Size()
		*all = append(*all, stretchOf{v.Pointer(), v.Pointer() + size, what})
		whole := v.Slice(0, v.Cap())
		for i := range whole.Len() {
			memoryOf(whole.Index(i), fmt.Sprintf("%s[%d]", what, i), all)
		}
	}
}

// sharesNothing says whether no two lists in values share memory.
func sharesNothing(t *testing.T, values ...any) {
	t.Helper()
	var all []stretchOf
	for i, value := range values {
		memoryOf(reflect.ValueOf(value), fmt.Sprintf("%d", i), &all)
	}
	slices.SortFunc(all, func(a, b stretchOf) int { return int(int64(a.from) - int64(b.from)) })
	for i := 1; i < len(all); i++ {
		if all[i].from < all[i-1].to {
			t.Fatalf("%s and %s share memory: %+v", all[i-1].what, all[i].what, values)
		}
	}
}

// roomyCopy is a copy of a value in which each list has spare room, filled with what must stay there.
func roomyCopy(v reflect.Value) reflect.Value {
	made := reflect.New(v.Type()).Elem()
	made.Set(v)
	switch v.Kind() {
	case reflect.Struct:
		for i := range v.NumField() {
			made.Field(i).Set(roomyCopy(v.Field(i)))
		}
	case reflect.Slice:
		list := reflect.MakeSlice(v.Type(), v.Len()+3, v.Len()+3)
		for i := range list.Len() {
			if i < v.Len() {
				list.Index(i).Set(roomyCopy(v.Index(i)))
			} else {
				fillWith77(list.Index(i))
			}
		}
		made.Set(list.Slice(0, v.Len()))
	}
	return made
}

func fillWith77(v reflect.Value) {
	switch v.Kind() {
	case reflect.Struct:
		for i := range v.NumField() {
			fillWith77(v.Field(i))
		}
	case reflect.Slice:
		v.Set(reflect.MakeSlice(v.Type(), 2, 2))
		for i := range 2 {
			fillWith77(v.Index(i))
		}
	case reflect.Int:
		v.SetInt(77)
	case reflect.String:
		v.SetString("keep")
	}
}

func withRoom[T any](value T) T {
	return roomyCopy(reflect.ValueOf(&value).Elem()).Interface().(T)
}

// wholeOf is a value with all lists up to the end of their spare room.
func wholeOf[T any](value T) string {
	return fmt.Sprintf("%+v", wholeValue(reflect.ValueOf(&value).Elem()))
}

func wholeValue(v reflect.Value) any {
	var all []any
	switch v.Kind() {
	case reflect.Struct:
		for i := range v.NumField() {
			all = append(all, wholeValue(v.Field(i)))
		}
	case reflect.Slice:
		whole := v.Slice(0, v.Cap())
		all = append(all, v.Len())
		for i := range whole.Len() {
			all = append(all, wholeValue(whole.Index(i)))
		}
	default:
		return v.Interface()
	}
	return all
}

// Nothing is written into an argument or behind its end, and no answer shares memory with one, or within itself.
func TestRunsShareNoMemory(t *testing.T) {
	t.Parallel()
	type given struct {
		Lines   []impl.FlowLine
		Args    []int
		Patches []string
		State   impl.RunState
		Haps    []impl.RunHap
		Signals []impl.RunVar
		Picks   []int
	}
	for seed := range int64(2500) {
		m := newMaker(seed)
		l := m.live(t, 25)
		s := l.states[m.Intn(len(l.states))]
		switch m.Intn(4) {
		case 0:
			s = m.edited(s)
		case 1:
			s = m.spoilState(s)
		}
		g := withRoom(given{l.lines, l.args, m.patches(), s, l.haps, m.signalList(), m.picks()})
		before := wholeOf(g)
		started, _ := impl.RunStart(g.Lines, g.Args, g.Patches, false)
		impl.RunOk(g.Lines, g.State)
		impl.RunBoard(g.Lines, g.State)
		done, _ := impl.RunDo(g.Lines, g.State, m.hap(s), g.Patches, true)
		refused, _ := impl.RunDo(g.Lines, g.State, impl.RunHap{Kind: 6}, g.Patches, true)
		played, haps := impl.RunPlay(g.Lines, g.Args, g.Signals, g.Picks, 30)
		folded, _ := impl.RunFold(g.Lines, g.Args, g.Haps)
		for _, ask := range g.State.Asks {
			impl.RunAnswer(ask)
		}
		if after := wholeOf(g); after != before {
			t.Fatalf("%s\nis changed to\n%s", before, after)
		}
		sharesNothing(t, g, started, done, refused, played, haps, folded)
	}
}

// Runs at once do not disturb each other.
func TestRunsAtOnce(t *testing.T) {
	lines := linesOf(t, trip)
	want, wantHaps := impl.RunPlay(lines, []int{5}, []impl.RunVar{aVar("go", 3)}, []int{1, 0}, 200)
	told := make(chan bool)
	for range 16 {
		go func() {
			same := true
			for range 200 {
				s, haps := impl.RunPlay(lines, []int{5}, []impl.RunVar{aVar("go", 3)}, []int{1, 0}, 200)
				same = same && sameState(s, want) && slices.Equal(haps, wantHaps)
			}
			told <- same
		}()
	}
	for range 16 {
		if !<-told {
			t.Error("another answer")
		}
	}
}

// Threads that ran are through when a call answers: none is left behind.
func TestNoThreadIsLeft(t *testing.T) {
	lines := linesOf(t, trip)
	before := runtime.NumGoroutine()
	for range 500 {
		impl.RunPlay(lines, []int{3}, []impl.RunVar{aVar("go", 3)}, []int{1, 0}, 200)
		impl.RunStart(linesOf(t, "workflow w\nboth\nwhile 1 less 2\nend\nand\nsleep 1\nend\nreturn 1"), nil, nil, true)
	}
	for range 200 {
		if runtime.NumGoroutine() <= before {
			return
		}
		time.Sleep(10 * time.Millisecond)
	}
	t.Errorf("%d goroutines, there were %d", runtime.NumGoroutine(), before)
}
