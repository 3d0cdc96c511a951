package tests

import (
	"reflect"
	"slices"
	"strings"
	"testing"

	"loop.example/dunserv/impl"
)

// within lays a line into a workflow of which it is the second line and a, b and n have numbers.
func within(line string) string {
	text := "workflow w a b n\n" + line + "\n"
	switch strings.Fields(line)[0] {
	case "if", "while", "patch":
		text += "end\n"
	case "return", "fail", "next":
		return text
	}
	return text + "return a\n"
}

func TestLineOfEachKind(t *testing.T) {
	for text, want := range map[string]impl.FlowLine{
		"let x is 5":                      {Kind: impl.FlowLet, To: "x", Name: "is", Args: []string{"5"}},
		"let x is n":                      {Kind: impl.FlowLet, To: "x", Name: "is", Args: []string{"n"}},
		"let is is n":                     {Kind: impl.FlowLet, To: "is", Name: "is", Args: []string{"n"}},
		"let x add a -9999":               {Kind: impl.FlowLet, To: "x", Name: "add", Args: []string{"a", "-9999"}},
		"let x sub 9999 b":                {Kind: impl.FlowLet, To: "x", Name: "sub", Args: []string{"9999", "b"}},
		"let let mul 0 0":                 {Kind: impl.FlowLet, To: "let", Name: "mul", Args: []string{"0", "0"}},
		"do x pay":                        {Kind: impl.FlowDo, To: "x", Name: "pay"},
		"do x pay a":                      {Kind: impl.FlowDo, To: "x", Name: "pay", Args: []string{"a"}},
		"do x pay a 1 b":                  {Kind: impl.FlowDo, To: "x", Name: "pay", Args: []string{"a", "1", "b"}},
		"do x pay undo back":              {Kind: impl.FlowDo, To: "x", Name: "pay", Undo: "back"},
		"do x pay a undo back":            {Kind: impl.FlowDo, To: "x", Name: "pay", Args: []string{"a"}, Undo: "back"},
		"do x pay a 1 b undo back":        {Kind: impl.FlowDo, To: "x", Name: "pay", Args: []string{"a", "1", "b"}, Undo: "back"},
		"do x pay undo undo":              {Kind: impl.FlowDo, To: "x", Name: "pay", Undo: "undo"},
		"do x undo undo back":             {Kind: impl.FlowDo, To: "x", Name: "undo", Undo: "back"},
		"do undo undo a":                  {Kind: impl.FlowDo, To: "undo", Name: "undo", Args: []string{"a"}},
		"do x undo a":                     {Kind: impl.FlowDo, To: "x", Name: "undo", Args: []string{"a"}},
		"sleep 4":                         {Kind: impl.FlowSleep, Args: []string{"4"}},
		"get x go":                        {Kind: impl.FlowGet, To: "x", Name: "go"},
		"get x go for n":                  {Kind: impl.FlowGet, To: "x", Name: "go", Args: []string{"n"}},
		"get for for for 3":               {Kind: impl.FlowGet, To: "for", Name: "for", Args: []string{"3"}},
		"if a less 1":                     {Kind: impl.FlowIf, Name: "less", Args: []string{"a", "1"}},
		"while 1 same b":                  {Kind: impl.FlowWhile, Name: "same", Args: []string{"1", "b"}},
		"if a more b":                     {Kind: impl.FlowIf, Name: "more", Args: []string{"a", "b"}},
		"while -1 other 0":                {Kind: impl.FlowWhile, Name: "other", Args: []string{"-1", "0"}},
		"return -5":                       {Kind: impl.FlowReturn, Args: []string{"-5"}},
		"fail b":                          {Kind: impl.FlowFail, Args: []string{"b"}},
		"patch fast":                      {Kind: impl.FlowPatch, Name: "fast"},
		"next":                            {Kind: impl.FlowNext},
		"next a 2 b":                      {Kind: impl.FlowNext, Args: []string{"a", "2", "b"}},
		"do a1234567 z9999999 -9999 9999": {Kind: impl.FlowDo, To: "a1234567", Name: "z9999999", Args: []string{"-9999", "9999"}},
	} {
		lines, fault := impl.FlowParse(within(text))
		if fault != (impl.FlowFault{}) || len(lines) < 2 {
			t.Errorf("%q: %+v", text, fault)
			continue
		}
		if !sameLine(lines[1], want) {
			t.Errorf("%q: read as %+v", text, lines[1])
		}
		if print := impl.FlowPrint(lines); print != within(text) {
			t.Errorf("%q: written as %q", text, print)
		}
	}
}

func TestLinesOfBlocks(t *testing.T) {
	text := "workflow w\nboth\nand\nend\nif 1 less 2\nelse\nend\nwhile 1 less 2\nend\npatch p\nelse\nend\nfail 0\n"
	lines, fault := impl.FlowParse(text)
	kinds := []int{impl.FlowHead, impl.FlowBoth, impl.FlowAnd, impl.FlowEnd, impl.FlowIf, impl.FlowElse, impl.FlowEnd, impl.FlowWhile, impl.FlowEnd, impl.FlowPatch, impl.FlowElse, impl.FlowEnd, impl.FlowFail}
	if fault != (impl.FlowFault{}) || len(lines) != len(kinds) {
		t.Fatalf("%+v, %d lines", fault, len(lines))
	}
	for i, kind := range kinds {
		if lines[i].Kind != kind {
			t.Errorf("line %d has Kind %d", i+1, lines[i].Kind)
		}
	}
	if impl.FlowPrint(lines) != text {
		t.Errorf("%q", impl.FlowPrint(lines))
	}
}

func TestHeads(t *testing.T) {
	for head, want := range map[string]impl.FlowLine{
		"workflow w":                 {Kind: impl.FlowHead, Name: "w"},
		"workflow w c b a":           {Kind: impl.FlowHead, Name: "w", Args: []string{"c", "b", "a"}},
		"workflow w w":               {Kind: impl.FlowHead, Name: "w", Args: []string{"w"}},
		"workflow workflow undo":     {Kind: impl.FlowHead, Name: "workflow", Args: []string{"undo"}},
		"workflow w0 z09 z9":         {Kind: impl.FlowHead, Name: "w0", Args: []string{"z09", "z9"}},
		"  workflow   w1   a2b3c4d5": {Kind: impl.FlowHead, Name: "w1", Args: []string{"a2b3c4d5"}},
	} {
		lines, fault := impl.FlowParse(head + "\nreturn 1")
		if fault != (impl.FlowFault{}) || !sameLine(lines[0], want) {
			t.Errorf("%q: %+v %+v", head, fault, lines)
		}
	}
	for _, head := range []string{
		"workflow", "workflow 1", "workflow W", "workflow w 1", "workflow w a b a", "workflow w a a", "workflow w a b c d",
		"workflow abcdefghi", "workflow w abcdefghi", "workflow 9a", "workflow w -a", "Workflow w", "workflow w a,b", "workflo w",
	} {
		if lines, fault := impl.FlowParse(head + "\nreturn 1"); fault != (impl.FlowFault{Line: 1, Code: impl.FlowBadLine}) || len(lines) != 0 {
			t.Errorf("%q: %+v %+v", head, fault, lines)
		}
	}
}

func TestBadLines(t *testing.T) {
	for _, line := range []string{
		"let", "let x", "let x is", "let x is a b", "let x add a", "let x add a b n", "let x div a b", "let 1 is a", "let x a is", "let x is A",
		"do", "do x", "do 1 pay", "do x 1", "do x pay a b n 1", "do x pay a b n 1 undo back", "do x pay undo 5", "do x pay a undo 5",
		"do x pay a undo -back", "do x pay a b n undo", "do x pay a b undo n undo", "do x undo undo 5", "do x pay +1",
		"sleep", "sleep 1 2", "sleep x-1", "sleep A",
		"get", "get x", "get x go for", "get x go 5", "get x go for a b", "get x go to a", "get 1 go", "get x 1", "get x go for 05",
		"if", "if a", "if a less", "if a less b n", "if less a b", "if a equal b", "while a less", "while a is b",
		"else a", "both a", "and 1", "end end", "return", "return a b", "fail", "fail 1 1", "patch", "patch 1", "patch p q", "next a b n 1", "next x.y",
		"return 10000", "return -10000", "return 00", "return 01", "return -0", "return -01", "return +1", "return 1.0", "return --1", "return -",
		"return 99999999999999999999", "return 1_0", "return 0x1", "return abcdefghi",
		"return\ta", "return a\r", "returns a", "return é", "return \xff", "return a\x00", "\t", "\r", "retur", "5", "a",
	} {
		// It is found ahead of what is wrong with how lines stand, and of lines that are too many.
		for _, behind := range []string{"\nreturn a", "\nend", strings.Repeat("\nsleep 1", impl.FlowMaxLines)} {
			text := "workflow w a b n\n\n" + line + behind
			if lines, fault := impl.FlowParse(text); fault != (impl.FlowFault{Line: 3, Code: impl.FlowBadLine}) || len(lines) != 0 {
				t.Errorf("%q: %+v %+v", line, fault, lines)
			}
		}
	}
}

func TestSpacesAndEmptyLines(t *testing.T) {
	lines, fault := impl.FlowParse("\n   \n  workflow    w  \n\n let  a   is 1\n\n   return a   ")
	if fault != (impl.FlowFault{}) || impl.FlowPrint(lines) != "workflow w\nlet a is 1\nreturn a\n" {
		t.Errorf("%+v %q", fault, impl.FlowPrint(lines))
	}
	for _, text := range []string{"", "\n", "   ", " \n \n\n "} {
		if lines, fault := impl.FlowParse(text); fault != (impl.FlowFault{Code: impl.FlowUneven}) || len(lines) != 0 {
			t.Errorf("%q: %+v %+v", text, fault, lines)
		}
	}
}

func TestFaultsAreToldByLinesOfTheText(t *testing.T) {
	for text, want := range map[string]impl.FlowFault{
		"\n\nworkflow w\n\n":                          {Line: 3, Code: impl.FlowNoReturn},
		"workflow w\n\n \nlet a is b\n\nreturn a":     {Line: 4, Code: impl.FlowUnknown},
		"\nreturn 1":                                  {Line: 2, Code: impl.FlowUneven},
		"workflow w\n\nif 1 less 2\n\nreturn 1\n\n\n": {Line: 5, Code: impl.FlowUneven},
		"workflow w\nlet a is b\nbad line":            {Line: 3, Code: impl.FlowBadLine},
		"workflow w\n\nboth\n\nlet a is 1\n\nand\n\nlet a is 2\n\nend\n\nreturn 1": {Line: 7, Code: impl.FlowTwice},
	} {
		if lines, fault := impl.FlowParse(text); fault != want || len(lines) != 0 {
			t.Errorf("%q: %+v", text, fault)
		}
	}
}

func TestTextsThatAreTooLong(t *testing.T) {
	text := "workflow w\nreturn 1\n"
	full := text + strings.Repeat(" ", impl.FlowMaxText-len(text))
	if lines, fault := impl.FlowParse(full); fault != (impl.FlowFault{}) || len(lines) != 2 {
		t.Errorf("as long as may be: %+v", fault)
	}
	for _, text := range []string{full + " ", strings.Repeat("?", impl.FlowMaxText+1), strings.Repeat("\n", impl.FlowMaxText+1)} {
		if lines, fault := impl.FlowParse(text); fault != (impl.FlowFault{Code: impl.FlowTooLong}) || len(lines) != 0 {
			t.Errorf("one byte more: %+v", fault)
		}
	}
	if _, fault := impl.FlowParse(strings.Repeat("?", impl.FlowMaxText)); fault != (impl.FlowFault{Line: 1, Code: impl.FlowBadLine}) {
		t.Errorf("as long as may be, but no line: %+v", fault)
	}
}

func TestTooManyLines(t *testing.T) {
	most := "workflow w\n" + strings.Repeat("\nsleep 1\n", impl.FlowMaxLines-2)
	if lines, fault := impl.FlowParse(most + "return 1\n\n"); fault != (impl.FlowFault{}) || len(lines) != impl.FlowMaxLines {
		t.Errorf("as many as may be: %+v", fault)
	}
	last := strings.Count(most, "\n") + 2
	for tail, want := range map[string]impl.FlowFault{
		"sleep 1\nreturn 1":        {Line: last, Code: impl.FlowTooLong},
		"sleep 1\nreturn 1\nbad":   {Line: last, Code: impl.FlowTooLong},
		"sleep 1\nbad":             {Line: last, Code: impl.FlowBadLine},
		"bad\nreturn 1":            {Line: last - 1, Code: impl.FlowBadLine},
		"sleep b\n\n\nreturn 1":    {Line: last + 2, Code: impl.FlowTooLong},
		"sleep b\n\n\n":            {Line: last - 1, Code: impl.FlowUnknown},
		"workflow w\n\n\nreturn 1": {Line: last + 2, Code: impl.FlowTooLong},
	} {
		if lines, fault := impl.FlowParse(most + tail); fault != want || len(lines) != 0 {
			t.Errorf("%q: %+v", tail, fault)
		}
	}
}

func sameLine(a, b impl.FlowLine) bool {
	if len(a.Args) == 0 && len(b.Args) == 0 {
		a.Args, b.Args = nil, nil
	}
	return reflect.DeepEqual(a, b)
}

func sameLines(a, b []impl.FlowLine) bool {
	return slices.EqualFunc(a, b, sameLine)
}
