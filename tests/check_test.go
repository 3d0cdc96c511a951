package tests

import (
	"strings"
	"testing"

	"loop.example/dunserv/impl"
)

// checkCase is a text whose lines are all lines, and what is wrong with them.
type checkCase struct {
	text string
	want impl.FlowFault
}

func runCases(t *testing.T, cases []checkCase) {
	t.Helper()
	for _, c := range cases {
		lines, fault := impl.FlowParse(c.text)
		if fault != c.want {
			t.Errorf("%q: %+v, not %+v", c.text, fault, c.want)
		}
		if (fault.Code == 0) != (len(lines) > 0) {
			t.Errorf("%q: %+v, and %d lines", c.text, fault, len(lines))
		}
	}
}

func fault(line int, code int) impl.FlowFault {
	return impl.FlowFault{Line: line, Code: code}
}

func TestUneven(t *testing.T) {
	runCases(t, []checkCase{
		{"return 1", fault(1, impl.FlowUneven)},
		{"end\nworkflow w\nreturn 1", fault(1, impl.FlowUneven)},
		{"workflow w\nreturn 1\nworkflow w", fault(3, impl.FlowUneven)},
		{"workflow w\nif 1 less 2\nworkflow w\nend\nreturn 1", fault(3, impl.FlowUneven)},
		{"workflow w\nelse", fault(2, impl.FlowUneven)},
		{"workflow w\nand\nreturn 1", fault(2, impl.FlowUneven)},
		{"workflow w\nend\nreturn 1", fault(2, impl.FlowUneven)},
		{"workflow w\nif 1 less 2\nelse\nelse\nend\nreturn 1", fault(4, impl.FlowUneven)},
		{"workflow w\npatch p\nelse\nelse\nend\nreturn 1", fault(4, impl.FlowUneven)},
		{"workflow w\nwhile 1 less 2\nelse\nend\nreturn 1", fault(3, impl.FlowUneven)},
		{"workflow w\nboth\nelse\nand\nend\nreturn 1", fault(3, impl.FlowUneven)},
		{"workflow w\nboth\nand\nelse\nend\nreturn 1", fault(4, impl.FlowUneven)},
		{"workflow w\nif 1 less 2\nwhile 1 less 2\nelse\nend\nend\nreturn 1", fault(4, impl.FlowUneven)},
		{"workflow w\nboth\nand\nand\nend\nreturn 1", fault(4, impl.FlowUneven)},
		{"workflow w\nboth\nif 1 less 2\nand\nend\nend\nreturn 1", fault(4, impl.FlowUneven)},
		{"workflow w\nif 1 less 2\nand\nend\nreturn 1", fault(3, impl.FlowUneven)},
		{"workflow w\nwhile 1 less 2\nand\nend\nreturn 1", fault(3, impl.FlowUneven)},
		{"workflow w\nboth\nend\nreturn 1", fault(3, impl.FlowUneven)},
		{"workflow w\nboth\nand\nboth\nend\nend\nreturn 1", fault(5, impl.FlowUneven)},
		{"workflow w\nif 1 less 2\nend\nend\nreturn 1", fault(4, impl.FlowUneven)},
		{"workflow w\nif 1 less 2\nsleep 1\nreturn 1", fault(4, impl.FlowUneven)},
		{"workflow w\nif 1 less 2\nelse\nreturn 1", fault(4, impl.FlowUneven)},
		{"workflow w\nwhile 1 less 2", fault(2, impl.FlowUneven)},
		{"workflow w\nboth\nand", fault(3, impl.FlowUneven)},
		{"workflow w\nif 1 less 2\npatch p\nend", fault(4, impl.FlowUneven)},
		// How lines stand is looked at first, in all of them.
		{"workflow w\nlet a is b\nreturn 1\nsleep 1\nelse", fault(5, impl.FlowUneven)},
		{"workflow w\nboth\nif 1 less 2\nend\nand\npatch p\nelse\nend\nend\nreturn 1", fault(0, 0)},
	})
}

func TestDeep(t *testing.T) {
	for _, opener := range []string{"if 1 less 2\n", "while 1 less 2\n", "patch p\n"} {
		five := "workflow w\n" + strings.Repeat(opener, impl.FlowMaxDeep)
		ends := strings.Repeat("end\n", impl.FlowMaxDeep)
		runCases(t, []checkCase{
			{five + ends + "return 1", fault(0, 0)},
			{five + opener + "end\n" + ends + "return 1", fault(impl.FlowMaxDeep+2, impl.FlowTooDeep)},
			{five + "both\nand\nend\n" + ends + "return 1", fault(impl.FlowMaxDeep+2, impl.FlowTooDeep)},
			{five + "end\n" + opener + "end\n" + ends + "return 1", fault(2*impl.FlowMaxDeep+4, impl.FlowUneven)},
			{five + "end\n" + opener + ends + "return 1", fault(0, 0)},
			{five + opener, fault(impl.FlowMaxDeep+2, impl.FlowUneven)},
			{five + opener + "sleep 1", fault(impl.FlowMaxDeep+2, impl.FlowTooDeep)},
			{five + opener + "else", fault(impl.FlowMaxDeep+2, impl.FlowTooDeep)},
		})
	}
	boths := "workflow w\n" + strings.Repeat("both\n", impl.FlowMaxDeep)
	ends := strings.Repeat("and\nend\n", impl.FlowMaxDeep)
	runCases(t, []checkCase{
		{boths + ends + "return 1", fault(0, 0)},
		{boths + "both\nand\nend\n" + ends + "return 1", fault(impl.FlowMaxDeep+2, impl.FlowTooDeep)},
		{boths + "and\npatch p\nend\nend\n" + strings.Repeat("and\nend\n", impl.FlowMaxDeep-1) + "return 1", fault(impl.FlowMaxDeep+3, impl.FlowTooDeep)},
	})
}

func TestKnown(t *testing.T) {
	runCases(t, []checkCase{
		{"workflow w a\nreturn a", fault(0, 0)},
		{"workflow w a\nreturn w", fault(2, impl.FlowUnknown)},
		{"workflow w\nlet a is a\nreturn a", fault(2, impl.FlowUnknown)},
		{"workflow w a\nlet a is a\nreturn a", fault(0, 0)},
		{"workflow w\nlet a add 1 b\nreturn 1", fault(2, impl.FlowUnknown)},
		{"workflow w\ndo a pay b\nreturn 1", fault(2, impl.FlowUnknown)},
		{"workflow w\ndo a pay\nreturn pay", fault(3, impl.FlowUnknown)},
		{"workflow w\ndo a pay undo back\nreturn back", fault(3, impl.FlowUnknown)},
		{"workflow w\ndo a pay 1 undo back\nreturn a", fault(0, 0)},
		{"workflow w\nsleep a\nreturn 1", fault(2, impl.FlowUnknown)},
		{"workflow w\nget a go for a\nreturn 1", fault(2, impl.FlowUnknown)},
		{"workflow w\nget a go\nreturn go", fault(3, impl.FlowUnknown)},
		{"workflow w\nget a go for 3\nreturn a", fault(0, 0)},
		{"workflow w\nif 1 less a\nend\nreturn 1", fault(2, impl.FlowUnknown)},
		{"workflow w\nwhile a less 1\nlet a is 1\nend\nreturn 1", fault(2, impl.FlowUnknown)},
		{"workflow w\npatch p\nend\nreturn p", fault(4, impl.FlowUnknown)},
		{"workflow w\nfail a", fault(2, impl.FlowUnknown)},
		{"workflow w\nnext 1 a", fault(2, impl.FlowUnknown)},
	})
}

func TestKnownBehindBlocks(t *testing.T) {
	runCases(t, []checkCase{
		{"workflow w\nif 1 less 2\nlet a is 1\nelse\nlet a is 2\nend\nreturn a", fault(0, 0)},
		{"workflow w\npatch p\nlet a is 1\nelse\nlet a is 2\nend\nreturn a", fault(0, 0)},
		{"workflow w\nif 1 less 2\nlet a is 1\nelse\nlet b is 2\nend\nreturn a", fault(7, impl.FlowUnknown)},
		{"workflow w\nif 1 less 2\nlet a is 1\nelse\nlet b is 2\nend\nreturn b", fault(7, impl.FlowUnknown)},
		{"workflow w\nif 1 less 2\nlet a is 1\nelse\nlet b is a\nend\nreturn 1", fault(5, impl.FlowUnknown)},
		{"workflow w\nif 1 less 2\nlet a is 1\nend\nreturn a", fault(5, impl.FlowUnknown)},
		{"workflow w\npatch p\nlet a is 1\nend\nreturn a", fault(5, impl.FlowUnknown)},
		{"workflow w\nif 1 less 2\nreturn 1\nelse\nlet a is 2\nend\nreturn a", fault(0, 0)},
		{"workflow w\nif 1 less 2\nlet a is 2\nelse\nfail 1\nend\nreturn a", fault(0, 0)},
		{"workflow w\npatch p\nlet a is 2\nelse\nnext 1\nend\nreturn a", fault(0, 0)},
		{"workflow w\nif 1 less 2\nlet a is 1\nreturn 1\nend\nreturn a", fault(6, impl.FlowUnknown)},
		{"workflow w\nif 1 less 2\nlet a is 1\nreturn 1\nelse\nend\nreturn a", fault(7, impl.FlowUnknown)},
		{"workflow w\nwhile 1 less 2\nlet a is 1\nsleep a\nend\nreturn 1", fault(0, 0)},
		{"workflow w\nwhile 1 less 2\nlet a is 1\nend\nsleep a\nreturn 1", fault(5, impl.FlowUnknown)},
		{"workflow w\nwhile 1 less 2\nsleep a\nlet a is 1\nend\nreturn 1", fault(3, impl.FlowUnknown)},
		{"workflow w\nboth\nlet a is 1\nand\nlet b is 1\nend\nlet c add a b\nreturn c", fault(0, 0)},
		{"workflow w\nboth\nlet a is 1\nsleep a\nand\nlet b is a\nend\nreturn 1", fault(6, impl.FlowUnknown)},
		{"workflow w c\nboth\nlet a is c\nand\nlet b is c\nend\nreturn b", fault(0, 0)},
		{"workflow w\nif 1 less 2\nboth\nlet a is 1\nand\nend\nelse\nif 1 less 2\nlet a is 1\nelse\nlet a is 2\nend\nend\nreturn a", fault(0, 0)},
		{"workflow w\nif 1 less 2\nif 1 less 2\nreturn 1\nelse\nfail 1\nend\nelse\nlet a is 1\nend\nreturn a", fault(0, 0)},
	})
}

func TestDead(t *testing.T) {
	for _, leave := range []string{"return 1", "fail 1", "next 1"} {
		runCases(t, []checkCase{
			{"workflow w\n" + leave + "\nsleep 1\nreturn 1", fault(3, impl.FlowDead)},
			{"workflow w\n" + leave + "\n" + leave, fault(3, impl.FlowDead)},
			{"workflow w\n" + leave + "\nif 1 less 2\nend", fault(3, impl.FlowDead)},
			{"workflow w\n" + leave + "\nwhile 1 less 2\nend", fault(3, impl.FlowDead)},
			{"workflow w\n" + leave + "\nboth\nand\nend", fault(3, impl.FlowDead)},
			{"workflow w\n" + leave + "\npatch p\nend", fault(3, impl.FlowDead)},
			{"workflow w\nif 1 less 2\n" + leave + "\nelse\nsleep 1\nend\nreturn 1", fault(0, 0)},
			{"workflow w\nif 1 less 2\n" + leave + "\nelse\n" + leave + "\nend", fault(0, 0)},
			{"workflow w\npatch p\n" + leave + "\nelse\n" + leave + "\nend\nlet a is 1", fault(7, impl.FlowDead)},
			{"workflow w\nif 1 less 2\n" + leave + "\nend\nreturn 1", fault(0, 0)},
			{"workflow w\nwhile 1 less 2\n" + leave + "\nend\nreturn 1", fault(0, 0)},
			{"workflow w\nwhile 1 less 2\n" + leave + "\nsleep 1\nend\nreturn 1", fault(4, impl.FlowDead)},
			{"workflow w\nwhile 1 less 2\nif 1 less 2\n" + leave + "\nelse\n" + leave + "\nend\nend\nreturn 1", fault(0, 0)},
			{"workflow w\nif 1 less 2\nif 1 less 2\n" + leave + "\nelse\n" + leave + "\nend\nsleep 1\nend\nreturn 1", fault(8, impl.FlowDead)},
			// Of one line it is ahead of the others.
			{"workflow w\n" + leave + "\nsleep zz", fault(3, impl.FlowDead)},
			{"workflow w\nboth\nand\nend\n" + leave + "\nreturn zz", fault(6, impl.FlowDead)},
		})
	}
}

func TestLeavingABoth(t *testing.T) {
	for _, leave := range []string{"return 1", "fail 1", "next"} {
		runCases(t, []checkCase{
			{"workflow w\nboth\n" + leave + "\nand\nend\nreturn 1", fault(3, impl.FlowUneven)},
			{"workflow w\nboth\nand\n" + leave + "\nend\nreturn 1", fault(4, impl.FlowUneven)},
			{"workflow w\nboth\nand\nif 1 less 2\nwhile 1 less 2\n" + leave + "\nend\nend\nend\nreturn 1", fault(6, impl.FlowUneven)},
			{"workflow w\nboth\nboth\nand\nend\n" + leave + "\nand\nend\nreturn 1", fault(6, impl.FlowUneven)},
			{"workflow w\nboth\nand\nend\n" + leave, fault(0, 0)},
		})
	}
	runCases(t, []checkCase{
		{"workflow w\nboth\nreturn zz\nand\nend\nreturn 1", fault(3, impl.FlowUnknown)},
		{"workflow w\nboth\nreturn 1\nsleep zz\nand\nend\nreturn 1", fault(3, impl.FlowUneven)},
	})
}

func TestTwice(t *testing.T) {
	runCases(t, []checkCase{
		{"workflow w\nboth\nlet a is 1\nand\nlet a is 2\nend\nreturn 1", fault(4, impl.FlowTwice)},
		{"workflow w\nboth\ndo a pay\nand\nget a go\nend\nreturn 1", fault(4, impl.FlowTwice)},
		{"workflow w a\nboth\nlet a is 1\nand\nsleep a\nend\nreturn 1", fault(4, impl.FlowTwice)},
		{"workflow w a\nboth\nsleep a\nand\nlet a is 1\nend\nreturn 1", fault(4, impl.FlowTwice)},
		{"workflow w a\nboth\nif a less 1\nend\nand\nwhile 1 less 2\nlet a is 1\nend\nend\nreturn 1", fault(5, impl.FlowTwice)},
		{"workflow w a\nboth\nsleep a\nand\nsleep a\nend\nreturn 1", fault(0, 0)},
		{"workflow w a\nboth\nlet a is a\nand\nend\nreturn 1", fault(0, 0)},
		{"workflow w\nboth\nlet a is 1\nand\ndo b a\nend\nreturn 1", fault(0, 0)},
		{"workflow w\nboth\nlet a is 1\nand\ndo b pay undo a\nend\nreturn 1", fault(0, 0)},
		{"workflow w\nboth\nlet a is 1\nand\nget b a\nend\nreturn 1", fault(0, 0)},
		{"workflow w\nboth\nget a go\nand\nget b go\nend\nreturn 1", fault(4, impl.FlowTwice)},
		{"workflow w\nboth\nget a go\nget b go\nand\nend\nreturn 1", fault(0, 0)},
		{"workflow w\nboth\nget a go\nand\ndo b go\nend\nreturn 1", fault(0, 0)},
		{"workflow w\nboth\npatch p\nend\nand\npatch p\nend\nend\nreturn 1", fault(0, 0)},
		{"workflow w\nboth\nlet a is 1\nand\nend\nlet a is 2\nreturn a", fault(0, 0)},
		// Behind its end, so that what is wrong in its second part is ahead; an inner one ends ahead of an outer one.
		{"workflow w\nboth\nlet a is 1\nand\nlet a is 2\nsleep zz\nend\nreturn 1", fault(6, impl.FlowUnknown)},
		{"workflow w\nboth\nlet a is 1\nand\nlet a is 2\nend\nsleep zz\nreturn 1", fault(4, impl.FlowTwice)},
		{"workflow w\nboth\nlet a is 1\nand\nboth\nlet a is 2\nand\nlet a is 3\nend\nend\nreturn 1", fault(7, impl.FlowTwice)},
		{"workflow w\nboth\nlet a is 1\nand\nboth\nlet a is 2\nand\nend\nend\nreturn 1", fault(4, impl.FlowTwice)},
		{"workflow w\nboth\nlet a is 1\nand\nlet a is 1\nend", fault(4, impl.FlowTwice)},
	})
}

func TestNoReturn(t *testing.T) {
	runCases(t, []checkCase{
		{"workflow w", fault(1, impl.FlowNoReturn)},
		{"workflow w a\nlet a is 1", fault(2, impl.FlowNoReturn)},
		{"workflow w\nif 1 less 2\nreturn 1\nend", fault(4, impl.FlowNoReturn)},
		{"workflow w\nif 1 less 2\nreturn 1\nelse\nend", fault(5, impl.FlowNoReturn)},
		{"workflow w\nif 1 less 2\nreturn 1\nelse\nfail 1\nend", fault(0, 0)},
		{"workflow w\npatch p\nnext\nelse\nreturn 1\nend", fault(0, 0)},
		{"workflow w\nwhile 1 same 1\nreturn 1\nend", fault(4, impl.FlowNoReturn)},
		{"workflow w\nboth\nand\nend", fault(4, impl.FlowNoReturn)},
		{"workflow w\nsleep zz", fault(2, impl.FlowUnknown)},
	})
}
