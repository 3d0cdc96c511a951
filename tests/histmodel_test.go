package tests

import (
	"fmt"
	"reflect"
	"regexp"
	"slices"
	"strings"
	"testing"

	"loop.example/dunserv/impl"
)

// A model of histories: entries and texts are known by patterns, and what runs say by RunStart and RunDo, from state to state.

const (
	numPattern  = `(?:0|-?[1-9][0-9]{0,3})`
	idPattern   = `[1-9][0-9]{0,3}`
	keyPattern  = `[0-9.-]{1,24}`
	namePattern = `[a-z][a-z0-9]{0,7}`
)

// entryPatterns are of entries, each part ended by a `;`, and each of the numbers by a `,`.
var entryPatterns = [10]*regexp.Regexp{
	1: regexp.MustCompile(`^0;;;(` + numPattern + `,){0,3}$`),
	2: regexp.MustCompile(`^0;;` + namePattern + `;$`),
	3: regexp.MustCompile(`^` + idPattern + `;` + keyPattern + `;(` + namePattern + `)?;(` + numPattern + `,){0,3}$`),
	4: regexp.MustCompile(`^` + idPattern + `;;;` + numPattern + `,$`),
	5: regexp.MustCompile(`^` + idPattern + `;;;` + numPattern + `,$`),
	6: regexp.MustCompile(`^` + idPattern + `;;;$`),
	7: regexp.MustCompile(`^0;;` + namePattern + `;` + numPattern + `,$`),
	8: regexp.MustCompile(`^0;;;$`),
	9: regexp.MustCompile(`^[1-4];;;(` + numPattern + `,){1,4}$`),
}

var textPattern = regexp.MustCompile(strings.NewReplacer("NUM", numPattern, "ID", idPattern, "KEY", keyPattern, "NAME", namePattern).Replace(
	`^(?:(?:start(?: NUM){0,3}|mark NAME|ask ID KEY (?:NAME|-)(?: NUM){0,3}|done ID NUM|broke ID NUM|fired ID|signal NAME NUM|cancel|end [1-4](?: NUM){1,4})\n)*$`))

func modelEntryOk(e impl.HistEntry) bool {
	if e.Kind < 1 || e.Kind > 9 {
		return false
	}
	text := fmt.Sprintf("%d;%s;%s;", e.Id, e.Key, e.Name)
	for _, num := range e.Nums {
		text += fmt.Sprintf("%d,", num)
	}
	return entryPatterns[e.Kind].MatchString(text)
}

func modelWrite(list []impl.HistEntry) string {
	if len(list) > impl.HistMaxLen {
		return ""
	}
	var rows []string
	for _, e := range list {
		if !modelEntryOk(e) {
			return ""
		}
		words := []string{strings.Fields("- start mark ask done broke fired signal cancel end")[e.Kind]}
		if e.Id > 0 {
			words = append(words, fmt.Sprint(e.Id))
		}
		words = append(words, e.Key, e.Name)
		if e.Kind == impl.EntAsk && e.Name == "" {
			words = append(words, "-")
		}
		words = append(words, strings.Trim(fmt.Sprint(e.Nums), "[]"))
		words = slices.DeleteFunc(words, func(word string) bool { return word == "" })
		rows = append(rows, strings.Join(words, " ")+"\n")
	}
	return strings.Join(rows, "")
}

func modelReads(text string) bool {
	return len(text) <= impl.HistMaxText && strings.Count(text, "\n") <= impl.HistMaxLen && textPattern.MatchString(text)
}

// modelSays is what a run says, by the states ahead and behind.
func modelSays(ahead, behind impl.RunState) []impl.HistEntry {
	var list []impl.HistEntry
	had := map[string]bool{}
	for _, mark := range ahead.Marks {
		had[mark.Name] = true
	}
	for _, mark := range behind.Marks {
		if !had[mark.Name] && mark.Num > 0 {
			list = append(list, ent(impl.EntMark, 0, "", mark.Name))
		}
	}
	for _, ask := range behind.Asks {
		if ask.Id >= ahead.Next {
			list = append(list, ent(impl.EntAsk, ask.Id, ask.Key, ask.Name, ask.Args...))
		}
	}
	if ahead.Stands == impl.RunLive && behind.Stands != impl.RunLive {
		list = append(list, ent(impl.EntEnd, behind.Stands, "", "", slices.Concat([]int{behind.Result}, behind.Args)...))
	}
	return cloneHist(list)
}

// modelCame is the entry of what happens.
func modelCame(h impl.RunHap) impl.HistEntry {
	switch h.Kind {
	case impl.HapDone, impl.HapBroke:
		return ent(h.Kind+3, h.Id, "", "", h.Num)
	case impl.HapFired:
		return ent(impl.EntFired, h.Id, "", "")
	case impl.HapSignal:
		return ent(impl.EntSignal, 0, "", h.Name, h.Num)
	}
	return ent(impl.EntCancel, 0, "", "")
}

func modelHap(e impl.HistEntry) impl.RunHap {
	h := impl.RunHap{Kind: e.Kind - 3, Id: e.Id, Name: e.Name}
	if len(e.Nums) > 0 {
		h.Num = e.Nums[0]
	}
	return h
}

func saysWhatCame(e impl.HistEntry) bool {
	return slices.Contains([]int{impl.EntStart, impl.EntDone, impl.EntBroke, impl.EntFired, impl.EntSignal, impl.EntCancel}, e.Kind)
}

func modelReplay(lines []impl.FlowLine, list []impl.HistEntry) (impl.RunState, impl.HistFault) {
	for i, e := range list {
		if !modelEntryOk(e) || (i == 0) != (e.Kind == impl.EntStart) {
			return impl.RunState{}, histFault(i, impl.HistBad)
		}
	}
	if len(list) == 0 || len(list) > impl.HistMaxLen {
		return impl.RunState{}, histFault(0, impl.HistBad)
	}
	s := impl.RunState{Next: 1}
	for at := 0; at < len(list); {
		stands := list[at+1:]
		if n := slices.IndexFunc(stands, saysWhatCame); n >= 0 {
			stands = stands[:n]
		}
		var patches []string
		for _, e := range stands {
			if e.Kind == impl.EntMark {
				patches = append(patches, e.Name)
			}
		}
		var next impl.RunState
		may := false
		if at == 0 {
			next, may = impl.RunStart(lines, list[0].Nums, patches, false)
		} else {
			var code int
			next, code = impl.RunDo(lines, s, modelHap(list[at]), patches, false)
			may = code == 0
		}
		if !may {
			return impl.RunState{}, histFault(at, impl.HistNever)
		}
		at++
		for i, want := range modelSays(s, next) {
			if i == len(stands) {
				return impl.RunState{}, histFault(at+i, impl.HistMissing)
			}
			if !sameHist(stands[i:i+1], []impl.HistEntry{want}) {
				return impl.RunState{}, histFault(at+i, impl.HistUnlike)
			}
		}
		if n := len(modelSays(s, next)); n < len(stands) {
			return impl.RunState{}, histFault(at+n, impl.HistUnlike)
		}
		s = next
		at += len(stands)
	}
	return s, impl.HistFault{}
}

func modelMore(lines []impl.FlowLine, list []impl.HistEntry, h impl.RunHap) ([]impl.HistEntry, int) {
	s, found := modelReplay(lines, list)
	if found.Code != 0 {
		return nil, 1
	}
	next, code := impl.RunDo(lines, s, h, nil, true)
	if code != 0 {
		return list, code
	}
	more := slices.Concat(list, []impl.HistEntry{modelCame(h)}, modelSays(s, next))
	if len(more) > impl.HistMaxLen {
		return list, 10
	}
	return more, 0
}

// history makes one of a run for which, now and then, some patches are not there.
func (m *maker) history(t *testing.T, lines []impl.FlowLine, most int) ([]impl.HistEntry, impl.RunState) {
	t.Helper()
	args := m.numsFor(lines)
	always := m.Intn(3) == 0
	isLive := func() bool { return always || m.Intn(3) == 0 }
	s, ok := impl.RunStart(lines, args, m.patches(), isLive())
	if !ok {
		t.Fatalf("%s does not start with %v", impl.FlowPrint(lines), args)
	}
	list := append([]impl.HistEntry{ent(impl.EntStart, 0, "", "", args...)}, modelSays(impl.RunState{Next: 1}, s)...)
	for range most {
		h := m.hap(s)
		next, code := impl.RunDo(lines, s, h, m.patches(), isLive())
		if code != 0 {
			break
		}
		list = append(append(list, modelCame(h)), modelSays(s, next)...)
		s = next
	}
	return list, s
}

// spoilHist takes out, doubles, swaps or changes something in a history.
func (m *maker) spoilHist(list []impl.HistEntry) []impl.HistEntry {
	list = cloneHist(list)
	if len(list) == 0 {
		return []impl.HistEntry{wildly[impl.HistEntry](m)}
	}
	i, j := m.Intn(len(list)), m.Intn(len(list))
	switch m.Intn(12) {
	case 0, 1:
		return slices.Delete(list, i, i+1)
	case 2:
		return slices.Insert(list, i, cloneHist(list[j : j+1])[0])
	case 3:
		list[i], list[j] = list[j], list[i]
	case 4:
		return list[:i]
	case 5:
		return slices.Insert(list, i, ent(impl.EntMark, 0, "", m.of("p", "q", "r", "x")))
	case 6:
		return slices.Insert(list, i, modelCame(m.hap(impl.RunState{})))
	case 7:
		list[i] = wildly[impl.HistEntry](m)
	case 8, 9:
		m.spoilSomewhere(reflect.ValueOf(&list[i]).Elem())
	default:
		if n := len(list[i].Nums); n > 0 {
			list[i].Nums[m.Intn(n)] = m.num()
		} else if list[i].Id > 0 {
			list[i].Id += 1 - 2*m.Intn(2)
		}
	}
	return list
}

// replaysAsModel holds HistReplay, HistMore and HistWrite against their models; it tells the code of the fault.
func replaysAsModel(t *testing.T, lines []impl.FlowLine, list []impl.HistEntry, h impl.RunHap) int {
	t.Helper()
	s, found := impl.HistReplay(lines, list)
	if want, fault := modelReplay(lines, list); found != fault || !sameState(s, want) {
		t.Fatalf("%s\n%+v\n%+v, not %+v; %+v, not %+v", impl.FlowPrint(lines), list, found, fault, s, want)
	}
	more, code := impl.HistMore(lines, list, h)
	if want, wanted := modelMore(lines, list, h); code != wanted || !sameHist(more, want) {
		t.Fatalf("%s\n%+v, then %+v\n%d, not %d; %+v, not %+v", impl.FlowPrint(lines), list, h, code, wanted, more, want)
	}
	if got, want := impl.HistWrite(list), modelWrite(list); got != want {
		t.Fatalf("%+v: %q, not %q", list, got, want)
	}
	return found.Code
}

// P16, P17, P18: histories, and spoiled ones, by the workflow that they are of, and by others.
func TestHistoriesAsTheModel(t *testing.T) {
	t.Parallel()
	codes, others := map[int]int{}, map[int]int{}
	for seed := range int64(2500) {
		m := newMaker(seed)
		lines := m.runFlow(4 + m.Intn(26))
		list, s := m.history(t, lines, m.Intn(25))
		if again, found := impl.HistReplay(lines, list); found.Code != 0 || !sameState(again, s) {
			t.Fatalf("%s\n%q\n%+v: %+v, not %+v", impl.FlowPrint(lines), histTold(list), found, again, s)
		}
		replaysAsModel(t, lines, list, m.hap(s))
		for range 6 {
			spoiled := m.spoilHist(list)
			if m.Intn(3) == 0 {
				spoiled = m.spoilHist(spoiled)
			}
			codes[replaysAsModel(t, lines, spoiled, m.anyHap(s))]++
		}
		others[replaysAsModel(t, m.runFlow(4+m.Intn(26)), list, m.anyHap(s))]++
		others[replaysAsModel(t, m.spoil(lines), list, m.anyHap(s))]++
	}
	for code := range 5 {
		if codes[code] < 200 || code != impl.HistBad && others[code] < 20 {
			t.Errorf("codes: %v, by others: %v", codes, others)
		}
	}
}

// P18: texts, near to those of histories and far from them.
func TestTextsAsTheModel(t *testing.T) {
	t.Parallel()
	count := map[bool]int{}
	for seed := range int64(4000) {
		m := newMaker(seed)
		list, _ := m.history(t, m.runFlow(4+m.Intn(20)), m.Intn(12))
		if m.Intn(3) == 0 {
			m.Shuffle(len(list), func(i, j int) { list[i], list[j] = list[j], list[i] })
		}
		text := modelWrite(list)
		for range 12 {
			near := m.spoilText(text)
			read, ok := impl.HistRead(near)
			count[ok]++
			if ok != modelReads(near) || ok && modelWrite(read) != near || ok && impl.HistWrite(read) != near || !ok && len(read) != 0 {
				t.Fatalf("%q: %v %+v", near, ok, read)
			}
		}
		if read, ok := impl.HistRead(text); !ok || !sameHist(read, list) {
			t.Fatalf("%q: %v %+v, not %+v", text, ok, read, list)
		}
		other := m.text()
		if _, ok := impl.HistRead(other); ok != modelReads(other) {
			t.Fatalf("%q: %v", other, ok)
		}
	}
	if count[true] < 3000 || count[false] < 20000 {
		t.Errorf("how often one was read: %v", count)
	}
}

// spoilText puts something into a text, takes something out, or has one thing for another.
func (m *maker) spoilText(text string) string {
	if text == "" {
		return m.of("", "\n", " ", "start", "cancel\n")
	}
	i := m.Intn(len(text))
	to := i + m.Intn(2)
	if m.Intn(4) == 0 {
		to = min(len(text), i+m.Intn(12))
	}
	put := m.of("", "", " ", "  ", "\n", "0", "1", "-", "9", "a", ".", "+", "-0", "00", "\x00", "\xff", "\r", "\t", " 1", " -5", " - ", "A", "ask ", "cancel\n", "end 2 1\n", string([]byte{byte(m.Intn(256))}))
	return text[:i] + put + text[to:]
}

// P18: lists of anything are written just if all entries are ok.
func TestWildHistories(t *testing.T) {
	count := map[bool]int{}
	lines := linesOf(t, payFlow)
	cases := slices.DeleteFunc(entryCases(), func(c entryCase) bool { return c.want == "" })
	for seed := range int64(20000) {
		m := newMaker(seed)
		list := wildly[[]impl.HistEntry](m)
		if m.Intn(3) > 0 {
			list = nil
			for range m.Intn(5) {
				list = append(list, cases[m.Intn(len(cases))].entry)
			}
			if m.Intn(3) == 0 {
				list = m.spoilHist(list)
			}
		}
		text := impl.HistWrite(list)
		count[text != ""]++
		if text != modelWrite(list) {
			t.Fatalf("%+v: %q, not %q", list, text, modelWrite(list))
		}
		if read, ok := impl.HistRead(text); text != "" && (!ok || !sameHist(read, list)) {
			t.Fatalf("%q: %v %+v, not %+v", text, ok, read, list)
		}
		replaysAsModel(t, lines, list, wildly[impl.RunHap](m))
	}
	if count[true] < 3000 || count[false] < 3000 {
		t.Errorf("how often one was written: %v", count)
	}
}

// No function panics, whatever it is given, and what it answers is right all the same.
func TestHistoriesOfWhateverIsGiven(t *testing.T) {
	for seed := range int64(4000) {
		m := newMaker(seed)
		lines := m.anyLines()
		args := wildly[[]int](m)
		list := impl.HistOf(lines, args, wildly[[]impl.RunVar](m), wildly[[]int](m), wildly[int](m))
		if _, ok := impl.RunStart(lines, args, nil, true); ok != (len(list) > 0) {
			t.Fatalf("%+v\n%v: %v %+v", lines, args, ok, list)
		}
		replaysAsModel(t, lines, list, wildly[impl.RunHap](m))
		replaysAsModel(t, lines, wildly[[]impl.HistEntry](m), wildly[impl.RunHap](m))
		text := wildly[string](m)
		if _, ok := impl.HistRead(text); ok != modelReads(text) {
			t.Fatalf("%q: %v", text, ok)
		}
	}
}
