package session

import (
	"fmt"
	"slices"
	"strings"
	"testing"

	"dotterel/api"
	"dotterel/plan"
)

// waits: a rule that waits for 3: it is fired by an a, unless a c begins with it and ends 1 to 3 behind it.
const waits = "rule waits { when x : a ; not u : c ; where u startedby ( 1 , 3 ) x ; } "

// wantDelay of a rule that the tests lean on.
func wantDelay(t *testing.T, rules string, rule, want int) {
	t.Helper()
	c := courseOf(t, types+rules)
	if p, e := plan.Rule(c.book, rule); e != api.OK || p.Delay != want {
		t.Errorf("%s: %d: %v, %v", rules, rule, p, e)
	}
}

// TestAdvance: P14.5: the time goes on, and is told, with and without Collect.
func TestAdvance(t *testing.T) {
	wantAnswers(t, "", ops(step(0), step(3), collect(0), collect(4), step(0), step(1)), "0; 3; 3; 7; 7; 8")
	wantAnswers(t, "", ops(step(api.MaxTime), step(0), step(1), collect(1), step(api.MaxTime)), "1099511627776; 1099511627776; !10; !10; !10")
	wantAnswers(t, "", ops(step(1), step(api.MaxTime), step(api.MaxTime-1), collect(0)), "1; !10; 1099511627776; 1099511627776")
}

// TestZero: P14.5: an Advance by 0 fires nothing, not what came at that time either; and what was fired is fired once.
func TestZero(t *testing.T) {
	const rule = "rule one { when x : a ; }"
	wantAnswers(t, rule, ops(evA(0, 1), step(0), collect(0), step(1), step(0), step(1)), "1; 0; 0; 1 (@1 0: 1); 1; 2")
	wantAnswers(t, waits, ops(evA(0, 1), step(4), step(0), collect(0), step(9)), "1; 4 (@4 0: 1); 4; 4; 13")
}

// TestLookedAt: P14.5: a tuple is looked at just at its time and not a tick sooner, in one step or in several.
func TestLookedAt(t *testing.T) {
	wantDelay(t, waits, 0, 3)
	wantAnswers(t, waits, ops(evA(0, 1), step(3), step(1), step(1)), "1; 3; 4 (@4 0: 1); 5")
	wantAnswers(t, waits, ops(evA(0, 1), step(4)), "1; 4 (@4 0: 1)")
	wantAnswers(t, waits, ops(evA(0, 1), step(1), step(1), step(1), step(1)), "1; 1; 2; 3; 4 (@4 0: 1)")
	wantAnswers(t, waits, ops(step(10), evA(10, 1), step(90)), "10; 1; 100 (@14 0: 1)")
	// It is the tuple's latest End that counts, whichever event has it.
	const two = "rule two { when x : a ; when y : c ; not u : d ; where u startedby ( 1 , 3 ) x ; where x before ( 0 , 5 ) or after ( 0 , 5 ) y ; }"
	wantDelay(t, two, 0, 3)
	wantFired(t, two, ops(evA(0, 1), step(2), evC(2), step(3)), "")
	wantFired(t, two, ops(evA(0, 1), step(2), evC(2), step(3), step(1)), "@6 0: 1 2")
	wantFired(t, two, ops(evC(0), step(2), evA(2, 1), step(9)), "@6 0: 2 1")
	wantFired(t, two, ops(evA(0, 1), step(2), evC(2), step(1), insert("d", 0, 3), step(9)), "")
}

// TestEnds: P14.5: at the end of time: what would be looked at behind it never is.
func TestEnds(t *testing.T) {
	const rule = "rule one { when x : a ; emit c ( ) ; } rule two { when x : c ; }"
	last := api.MaxTime - 1
	wantAnswers(t, rule, ops(step(last), evA(last, 1), step(1), evA(api.MaxTime, 1), step(0), query("a"), query("c")), "1099511627775; 1; 1099511627776 (@1099511627776 0: 1 > 2); 3; 1099511627776; 2; 1")
	wantAnswers(t, waits, ops(step(last-3), evA(last-3, 1), step(1), evA(last-2, 1), step(3), step(0)), "1099511627772; 1; 1099511627773; 2; 1099511627776 (@1099511627776 0: 1); 1099511627776")
}

// split an Advance into many, by 1.
func split(l []api.Operation) []api.Operation {
	var out []api.Operation
	for _, o := range l {
		if o.Kind != api.Advance {
			out = append(out, o)
			continue
		}
		out = append(out, times(o.Delta, api.Operation{Kind: api.Advance, Delta: 1, Collect: o.Collect})...)
	}
	return out
}

// TestSteps: P14.5: by steps of 1 and by one great step over several times at which something is looked at: the same firings.
func TestSteps(t *testing.T) {
	rules := waits + "rule one { when x : a ; emit b ( x . n , \"s\" ) ; } rule two { when y : b ; emit d ( ) ; } rule three { when z : d ; }"
	l := ops(evA(0, 1), step(1), evA(1, 2), insert("c", 0, 1), step(1), evA(2, 3), evA(2, 4), step(20))
	want := "@1 1: 1 > 2, @2 1: 3 > 5, @2 2: 2 > 6, @3 1: 7 > 9, @3 1: 8 > 10, @3 2: 5 > 11, @3 3: 6, @4 2: 9 > 12, @4 2: 10 > 13, @4 3: 11, @5 0: 3, @5 3: 12, @5 3: 13, @6 0: 7, @6 0: 8"
	wantFired(t, rules, l, want)
	wantFired(t, rules, split(l), want)
	wantFired(t, waits, ops(evA(0, 1), step(1<<40)), "@4 0: 1")
}

// TestOrder: P14.5: what is fired at one time, by the rules' places, then by the events' Numbers; whatever waited longer.
func TestOrder(t *testing.T) {
	const rules = "rule one { when x : a ; when y : a ; } rule two { when x : a ; } rule three { when x : c ; when y : a ; }"
	l := ops(evC(0), evA(0, 1), evA(0, 1), evC(0), evA(0, 1), step(1))
	wantFired(t, rules, l, "@1 0: 2 3, @1 0: 2 5, @1 0: 3 2, @1 0: 3 5, @1 0: 5 2, @1 0: 5 3, @1 1: 2, @1 1: 3, @1 1: 5, @1 2: 1 2, @1 2: 1 3, @1 2: 1 5, @1 2: 4 2, @1 2: 4 3, @1 2: 4 5")
	// The one that waits longer goes first, by its rule's place, though it came first; and last, as a later rule.
	const short = "rule short { when x : a ; } "
	at := ops(evA(0, 1), step(3), evA(3, 1), step(1))
	wantFired(t, waits+short, at, "@1 1: 1, @4 0: 1, @4 1: 2")
	wantFired(t, short+waits, at, "@1 0: 1, @4 0: 2, @4 1: 1")
	// By Numbers, not by their digits.
	wantFired(t, short, slices.Concat(times(11, evA(0, 1)), ops(step(1))), "@1 0: 1, @1 0: 2, @1 0: 3, @1 0: 4, @1 0: 5, @1 0: 6, @1 0: 7, @1 0: 8, @1 0: 9, @1 0: 10, @1 0: 11")
	// Time goes ahead of the rules' places.
	wantFired(t, waits+short, ops(evA(0, 1), step(1), evA(1, 1), step(9)), "@1 1: 1, @2 1: 2, @4 0: 1, @5 0: 2")
}

// TestHeard: P14.5, P14.6: what is emitted at one time is heard by other rules behind it, and what these emit by others.
func TestHeard(t *testing.T) {
	const rules = "rule one { when x : a ; emit b ( x . n , \"s\" ) ; } rule two { when x : b ; emit c ( ) ; } rule three { when x : c ; emit d ( ) ; } rule four { when x : d ; } rule five { when x : a ; when y : d ; }"
	chain := "@1 0: 1 > 2, @2 1: 2 > 3, @3 2: 3 > 4, @4 3: 4, @4 4: 1 4"
	wantFired(t, rules, ops(evA(0, 1), step(4)), chain)
	wantFired(t, rules, ops(evA(0, 1), step(9)), chain)
	wantFired(t, rules, ops(evA(0, 1), step(3)), "@1 0: 1 > 2, @2 1: 2 > 3, @3 2: 3 > 4")
	wantFired(t, rules, split(ops(evA(0, 1), step(4))), chain)
	// It comes too late for what is looked at when it is emitted: it is not counted, and is in none of it.
	wantFired(t, "rule one { when x : a ; emit c ( ) ; } rule two { when x : a ; many 1 p : c within 9 ; }", ops(evA(0, 1), step(1), evA(1, 1), step(9)), "@1 0: 1 > 2, @2 0: 3 > 4, @2 1: 3")
	wantFired(t, "rule one { when x : a ; emit c ( ) ; } rule two { when x : a ; when y : c ; }", ops(evA(0, 1), step(1), step(1)), "@1 0: 1 > 2, @2 1: 1 2")
	// What comes of several rules at one time comes in the order of the firings.
	wantFired(t, "rule one { when x : a ; emit c ( ) ; } rule two { when x : a ; emit d ( ) ; } rule three { when x : d ; when y : c ; }", ops(evA(0, 1), evA(0, 1), step(2)),
		"@1 0: 1 > 3, @1 0: 2 > 4, @1 1: 1 > 5, @1 1: 2 > 6, @2 2: 5 3, @2 2: 5 4, @2 2: 6 3, @2 2: 6 4")
}

// TestNot: P14.5: a not whose event comes just in time, and a tick too late; in its span's place; and by its condition.
func TestNot(t *testing.T) {
	for at, want := range []string{"@4 0: 1", "", "", "", "@4 0: 1", "@4 0: 1"} {
		wantFired(t, waits, ops(evA(0, 1), step(at), insert("c", 0, at), step(20)), want)
	}
	wantFired(t, waits, ops(step(1), evA(1, 1), step(3), insert("c", 0, 4), step(20)), "@5 0: 1")
	wantFired(t, waits, ops(step(1), evA(1, 1), step(3), insert("c", 1, 4), step(20)), "")
	// It goes with what it blocks, and with nothing else.
	wantFired(t, waits, ops(evA(0, 1), step(1), evA(1, 1), insert("c", 0, 1), step(20)), "@5 0: 2")
	const above = "rule one { when x : a ; not u : a [ n > x . n ] ; where u startedby ( 1 , 2 ) x ; }"
	wantFired(t, above, ops(evA(0, 1), step(2), insert("a", 0, 2, num(1)), step(20)), "@3 0: 1, @5 0: 2")
	wantFired(t, above, ops(evA(0, 1), step(2), insert("a", 0, 2, num(2)), step(20)), "@5 0: 2")
	// What came ahead blocks, too, however long ago it was.
	const ever = "rule one { when x : a ; not u : c ; where u before x ; }"
	wantFired(t, ever, ops(evA(0, 1), step(1), evC(1), evA(1, 1), step(1), evA(2, 1), step(999), evA(1001, 1), step(9)), "@1 0: 1, @2 0: 3")
	// What is emitted blocks, too.
	wantFired(t, waits+"rule two { when x : a [ n = 2 ] ; emit c ( ) ; }", ops(evA(0, 1), evA(0, 2), step(9)), "@1 1: 2 > 3")
	// An event that is the tuple's own does not.
	wantFired(t, "rule one { when x : a ; not u : a ; where u equals x ; }", ops(evA(0, 1), step(1), evA(1, 1), evA(1, 1), step(1)), "@1 0: 1")
}

// TestMany: P14.5: as many events as a many asks for, up to the tuple's latest End, and so long ahead of it.
func TestMany(t *testing.T) {
	const none, some = "rule one { when x : a ; many 2 p : c within 0 ; }", "rule one { when x : a ; many 2 p : c within 3 ; }"
	wantFired(t, none, ops(evC(0), evC(0), evA(0, 1), step(1), evC(1), evA(1, 1), step(1)), "@1 0: 3")
	wantFired(t, none, ops(evA(0, 1), evC(0), step(1)), "")
	wantFired(t, none, ops(evA(0, 1), evC(0), evC(0), step(1)), "@1 0: 1")
	wantFired(t, some, ops(evC(0), evC(0), step(3), evA(3, 1), step(1), evA(4, 1), step(1)), "@4 0: 3")
	wantFired(t, some, ops(evC(0), step(2), evC(2), step(1), evA(3, 1), step(1), evA(4, 1), step(9)), "@4 0: 3")
	wantFired(t, "rule one { when x : a ; many 2 p : c within 1073741824 ; }", ops(evC(0), evC(0), step(1<<30), evA(1<<30, 1), step(1), evA(1<<30+1, 1), step(9)), "@1073741825 0: 3")
	// The values of a field, the tuple's own ones too.
	wantFired(t, "rule one { when x : a ; many 5 of n p : a within 3 ; }", ops(evA(0, 2), step(2), evA(2, 3), step(3), evA(5, 1), step(1), evA(6, 4), evA(6, -3), evA(6, 3), step(9)), "@3 0: 2, @7 0: 4, @7 0: 5, @7 0: 6")
	wantFired(t, "rule one { when x : a ; many 1 p : a [ n < x . n ] within 3 ; }", ops(evA(0, 2), step(2), evA(2, 3), evA(2, 2), step(2)), "@3 0: 2")
	// It is not counted what comes behind the tuple, while it waits.
	const wait = "rule waits { when x : a ; not u : c ; many 2 p : a within 9 ; where u startedby ( 1 , 3 ) x ; }"
	wantFired(t, wait, ops(evA(0, 1), step(1), evA(1, 1), step(9)), "@5 0: 2")
	wantFired(t, wait, ops(evA(0, 1), evA(0, 1), step(9)), "@4 0: 1, @4 0: 2")
	// What is emitted is counted.
	wantFired(t, "rule one { when x : a ; emit c ( ) ; } rule two { when x : c ; many 3 p : c within 1 ; }", ops(evA(0, 1), evA(0, 1), step(1), evA(1, 1), step(9)), "@1 0: 1 > 3, @1 0: 2 > 4, @2 0: 5 > 6, @3 1: 6")
}

// TestWindows: P14.5: windows of whens, of time and of the last ones, are those of P11.2.
func TestWindows(t *testing.T) {
	const time = "rule one { when x : a over time 3 ; when y : c ; }"
	wantFired(t, time, ops(evA(0, 1), step(3), evC(3), step(1), evC(4), step(9)), "@4 0: 1 2")
	wantFired(t, time, ops(evC(0), step(7), evA(7, 1), step(9)), "@8 0: 2 1")
	wantFired(t, "rule one { when x : a over time 3 ; when y : c over time 2 ; }", ops(evC(0), step(2), evA(2, 1), step(1), evA(3, 1), step(9)), "@3 0: 2 1")
	const last = "rule one { when x : a over last 2 ; when y : c ; }"
	wantFired(t, last, ops(evA(0, 1), evA(0, 1), evA(0, 1), step(99), evC(99), step(1)), "@100 0: 2 4, @100 0: 3 4")
	wantFired(t, last, ops(evA(0, 1), evA(0, 1), evC(0), evA(0, 1), evC(0), step(1)), "@1 0: 1 3, @1 0: 2 3, @1 0: 2 5, @1 0: 4 3, @1 0: 4 5")
	// Those that the when does not take count, too; what comes while the tuple waits does not.
	wantFired(t, "rule one { when x : a [ n = 1 ] over last 2 ; when y : c ; }", ops(evA(0, 1), evA(0, 2), evC(0), evA(0, 2), evC(0), step(1)), "@1 0: 1 3")
	wantFired(t, "rule one { when x : a over last 1 ; not u : c ; where u startedby ( 1 , 3 ) x ; }", ops(evA(0, 1), step(1), evA(1, 1), step(9)), "@4 0: 1, @5 0: 2")
	// With collections, too.
	const starts = "rule one { when x : a over last 2 ; when y : c ; where x starts ( 0 , 3 ) y ; }"
	l := ops(evA(0, 1), collect(1), insert("a", 0, 1, num(1)), collect(1), insert("a", 0, 2, num(1)), collect(1), insert("c", 0, 3), collect(1), insert("c", 0, 4), query("a"), collect(1))
	wantAnswers(t, starts, l, "1; 1; 2; 2; 3; 3; 4; 4 (@4 0: 2 4, @4 0: 3 4); 5; 2; 5 (@5 0: 2 5, @5 0: 3 5)")
}

// TestRules: P14.2, P14.5: a rule that never can be, or waits without end, lets no session begin; as many rules as may be have each its own tuples and time.
func TestRules(t *testing.T) {
	wantPlayRefused(t, types+never, ops(evA(0, 1)), 0, api.ErrNever)
	wantPlayRefused(t, types+endless, ops(evA(0, 1)), 0, api.ErrEndless)
	rules := ""
	for i := range api.MaxRules {
		rules += fmt.Sprint("rule r", i, " { when x : a [ n <= ", i, " ] ; not u : c ; where u startedby ( 1 , ", api.MaxRules-i, " ) x ; } ")
	}
	wantFired(t, rules, ops(evA(0, 0), step(9)), "@2 4: 1, @3 3: 1, @4 2: 1, @5 1: 1, @6 0: 1")
	wantFired(t, rules, ops(evA(0, 2), step(2), evA(2, 3), step(9)), "@2 4: 1, @3 3: 1, @4 2: 1, @4 4: 2, @5 3: 2")
	wantFired(t, rules, ops(evA(0, 2), step(3), insert("c", 0, 3), step(9)), "@2 4: 1, @3 3: 1")
	// A not that can't be with its rule blocks nothing.
	wantFired(t, "rule one { when x : a ; not u : c ; where u meets ( 1 , 2 ) x ; }", ops(evC(0), evA(0, 1), evC(0), step(9)), "@1 0: 2")
	// Conditions that never hold are for nobody to know.
	wantFired(t, "rule one { when x : a [ n < n ] ; }", ops(evA(0, 1), step(9)), "")
}

// heard: rules that tell by their firings what values came in an event of the type b.
const heard = "rule r0 { when x : b [ n = 0 ] ; } rule r7 { when x : b [ n = 7 ] ; } rule rs { when x : b [ s = \"s\" ] ; } rule rt { when x : b [ s = \"t\" ] ; } "

// TestValues: P14.6: the Values of what is emitted: constants, and values of fields of events of any when.
func TestValues(t *testing.T) {
	const whens = "rule r { when x : a ; when y : d ; when z : a [ n > x . n ] ; emit b ( "
	l := ops(evA(0, 0), insert("d", 0, 0), evA(0, 7), step(2))
	for values, want := range map[string]string{
		`0 , "s"`:      "@2 0: 4, @2 2: 4",
		`7 , "t"`:      "@2 1: 4, @2 3: 4",
		`- 7 , ""`:     "",
		`x . n , "t"`:  "@2 0: 4, @2 3: 4",
		`z . n , "st"`: "@2 1: 4",
	} {
		wantFired(t, heard+whens+values+" ) ; }", l, strings.TrimSuffix("@1 4: 1 2 3 > 4, "+want, ", "))
	}
	// Two fields of one event, and texts; and the least and the greatest number.
	const pass = "type e { s : text , n : int , m : int } rule r { when x : e ; emit b ( x . m , x . s ) ; } "
	e := insert("e", 0, 0, text("t"), num(7), num(0))
	wantFired(t, heard+pass, ops(e, step(2)), "@1 4: 1 > 2, @2 0: 2, @2 3: 2")
	for _, n := range []string{"1125899906842624", "- 1125899906842624"} {
		rules := fmt.Sprint("rule r { when x : a ; emit b ( ", n, " , \"", strings.Repeat("s", api.MaxText), "\" ) ; } rule s { when x : b [ n = ", n, " and s = \"", strings.Repeat("s", api.MaxText), "\" ] ; }")
		wantFired(t, rules, ops(evA(0, 0), step(2)), "@1 0: 1 > 2, @2 1: 2")
	}
}

// TestSpan: P14.6: what is emitted begins with the earliest Start of the tuple's events, whichever has it, and ends when it is fired.
func TestSpan(t *testing.T) {
	const rules = "rule one { when x : a ; when y : c ; emit d ( ) ; } rule two { when x : d ; when y : a ; where y starts ( 1 , 1 ) x ; } rule three { when x : d ; when y : c ; where y starts ( 1 , 1 ) x ; } rule four { when x : d ; when y : b ; where x meets y ; }"
	met := insert("b", 7, 9, num(1), text("s"))
	for _, c := range []struct {
		a, c int
		want string
	}{
		{3, 5, "@7 1: 3 1, @10 3: 3 4"},
		{5, 2, "@7 2: 3 2, @10 3: 3 4"},
		{0, 0, "@7 1: 3 1, @7 2: 3 2, @10 3: 3 4"},
		{6, 6, "@7 1: 3 1, @7 2: 3 2, @10 3: 3 4"},
	} {
		l := ops(step(6), insert("a", c.a, 6, num(1)), insert("c", c.c, 6), step(3), met, step(1))
		wantFired(t, rules, l, "@7 0: 1 2 > 3, "+strings.ReplaceAll(c.want, "@7", "@8"))
	}
	// Behind a wait it ends at that time, too.
	const wait = waits + "rule two { when x : d ; when y : a ; where y starts ( 4 , 4 ) x ; }"
	wantFired(t, strings.Replace(wait, "x ; }", "x ; emit d ( ) ; }", 1), ops(evA(0, 1), step(9)), "@4 0: 1 > 2, @5 1: 2 1")
	// Where the events are gone long since, as well.
	wantFired(t, "rule one { when x : a ; when y : c ; emit d ( ) ; } rule two { when x : d ; when y : a ; where y starts ( 91 , 91 ) x ; }", ops(evA(0, 1), step(90), evC(90), step(9)), "@91 0: 1 2 > 3, @92 1: 3 1")
}

// TestMade: P14.6: the Number of what is emitted, among those that come by Inserts; 0 where the rule emits nothing, or it is refused.
func TestMade(t *testing.T) {
	const rules = "rule one { when x : a ; emit c ( ) ; } rule two { when x : a ; } rule three { when x : a ; emit d ( ) ; }"
	wantAnswers(t, rules, ops(evA(0, 1), step(1), evA(1, 1), step(1), evC(2), query("c"), query("d")), "1; 1 (@1 0: 1 > 2, @1 1: 1, @1 2: 1 > 3); 4; 2 (@2 0: 4 > 5, @2 1: 4, @2 2: 4 > 6); 7; 3; 2")
	// With room for one, for two, and for none.
	for room, want := range []string{"@1 0: 1, @1 1: 1, @1 2: 1", "@1 0: 1 > 120, @1 1: 1, @1 2: 1", "@1 0: 1 > 119, @1 1: 1, @1 2: 1 > 120"} {
		b := insert("b", 0, 0, num(1), text("s"))
		l := slices.Concat(ops(evA(0, 1)), times(api.MaxLive-1-room, b), ops(step(1), query("c"), query("d"), evC(1)))
		got := play(t, types+rules, l)[api.MaxLive-room:]
		if s := answers(got); s != fmt.Sprint("1 (", want, "); ", min(room, 1), "; ", max(room-1, 0), "; !8") {
			t.Errorf("room for %d: %s", room, s)
		}
	}
	// What is refused has no Number, and is heard by nobody.
	hears := "rule one { when x : a ; emit c ( ) ; } rule two { when x : c ; }"
	l := slices.Concat(ops(evA(0, 1)), times(api.MaxLive-1, insert("d", 0, 0)), ops(collect(1), evC(1), step(9)))
	if s := fired(play(t, types+hears, l)); s != "@1 0: 1, @2 1: 121" {
		t.Error(s)
	}
}

// TestCollect: P14.5: an event is kept till just the tick ahead of its type's offset, and no more at it, whatever it is an event of.
func TestCollect(t *testing.T) {
	rules := waits + "rule two { when x : d ; many 1 p : b within 5 ; }"
	c := courseOf(t, types+rules)
	offsets, _ := plan.Offsets(c.book)
	if !slices.Equal(offsets, []int{4, 6, 3, 1}) {
		t.Fatalf("%v", offsets)
	}
	b := insert("b", 9, 9, num(1), text("s"))
	for kind, x := range map[string]api.Operation{"a": evA(9, 1), "b": b, "c": insert("c", 2, 9), "d": insert("d", 9, 9)} {
		at := slices.IndexFunc(c.book.Types, func(t api.Type) bool { return t.Name == kind })
		n := offsets[at]
		for _, l := range [][]api.Operation{
			ops(collect(n-1), query(kind), collect(1), query(kind)),
			ops(step(n-1), query(kind), collect(1), query(kind)),
			ops(step(n+5), query(kind), collect(0), query(kind)),
			ops(step(n-1), query(kind), collect(20), query(kind)),
			ops(collect(n-1), query(kind), step(1), query(kind), collect(0), query(kind)),
			ops(step(n-1), collect(0), query(kind), step(1), collect(0), query(kind)),
		} {
			got := play(t, types+rules, slices.Concat(ops(collect(9), x), l))
			counts := ""
			for i, o := range l {
				if o.Kind == api.Query {
					counts += fmt.Sprint(got[2+i].Number)
				}
			}
			if counts != "10" && counts != "110" {
				t.Errorf("%s: %v: %s", kind, l, counts)
			}
		}
	}
	// Without a pattern a type's offset is 0: by an Advance of 0, too. Those of other types stay.
	wantAnswers(t, "rule one { when x : a ; }", ops(evA(0, 1), evC(0), step(0), query("c"), collect(0), query("c"), query("a"), evC(0), query("c")), "1; 2; 0; 1; 0; 0; 1; 3; 1")
	// What is emitted is collected as other events are: by its End.
	wantAnswers(t, "rule one { when x : a ; emit c ( ) ; } rule two { when x : c ; }", ops(evA(0, 1), collect(1), query("a"), query("c"), collect(1), query("c")), "1; 1 (@1 0: 1 > 2); 0; 1; 2 (@2 1: 2); 0")
}

// TestNone: P14.5: events of types whose offset is None are kept for ever.
func TestNone(t *testing.T) {
	const rules = "rule one { when x : a ; when y : c ; } rule two { when x : d ; }"
	wantAnswers(t, rules, ops(evA(0, 1), insert("d", 0, 0), collect(1<<39), query("a"), query("d"), evC(1<<39), collect(1), collect(1<<38), query("a"), query("c")),
		"1; 2; 549755813888 (@1 1: 2); 1; 0; 3; 549755813889 (@549755813889 0: 1 3); 824633720833; 1; 1")
	const before = "rule one { when x : a ; not u : c ; where u before x ; }"
	wantAnswers(t, before, ops(evC(0), collect(1<<39), query("c"), evA(1<<39, 1), collect(1), query("a"), query("c")), "1; 549755813888; 1; 2; 549755813889; 0; 1")
}

// TestRoom: P14.4, P14.5: where MaxLive events are kept, there is room again behind a collection, for as many as it took.
func TestRoom(t *testing.T) {
	const rules = "rule one { when x : a ; when y : c ; } rule two { when x : d ; }"
	d := insert("d", 0, 0)
	l := slices.Concat(times(api.MaxLive-2, evA(0, 1)), ops(d, d, d, collect(0), d, step(1), insert("d", 1, 1), collect(0), insert("d", 1, 1), insert("d", 0, 1), insert("d", 1, 1), query("a"), query("d")))
	got := play(t, types+rules, l)[api.MaxLive:]
	if s := answers(got); s != "!8; 0; !8; 1 (@1 1: 119, @1 1: 120); !8; 1; 121; 122; !8; 118; 2" {
		t.Error(s)
	}
	// Again and again.
	l = nil
	for i := range 15 {
		l = append(l, slices.Concat(times(api.MaxLive, insert("d", i, i)), ops(insert("d", i, i), collect(1)))...)
	}
	full := 0
	for _, a := range play(t, types+rules, l) {
		if a.Code == api.ErrFull {
			full++
		}
	}
	if full != 15 {
		t.Errorf("%d are refused", full)
	}
}

// TestForgotten: P14.5: what is kept no more is held on to nowhere: not among the events, not in what waits, and not where events are joined.
func TestForgotten(t *testing.T) {
	c := courseOf(t, types+"rule one { when x : a over time 2 ; when y : c over time 2 ; } rule two { when x : a ; }")
	for _, o := range ops(evA(0, 1), evC(0), collect(3)) {
		c.do(o)
	}
	if len(c.kept) != 0 || len(c.waiting) != 0 {
		t.Errorf("%d events, %d times", len(c.kept), len(c.waiting))
	}
	// Would it be there still, an event that ends with it would make a tuple whole.
	if l := c.networks[0].Take(api.Event{Number: 3, Type: 2}); len(l) != 0 {
		t.Errorf("%v", l)
	}
}

// TestGreat: P14.5: MaxLive events, with as many tuples as there are of them; each is fired once, in its order.
func TestGreat(t *testing.T) {
	l := slices.Concat(times(api.MaxLive, evA(0, 1)), ops(step(1), step(9)))
	got := play(t, types+"rule one { when x : a ; when y : a ; when z : a [ n < 2 ] ; emit c ( ) ; }", l)[api.MaxLive:]
	firings := got[0].Firings
	if want := api.MaxLive * (api.MaxLive - 1) * (api.MaxLive - 2); len(firings) != want || len(got[1].Firings) != 0 {
		t.Fatalf("%d, then %d firings; want %d", len(firings), len(got[1].Firings), want)
	}
	if !slices.IsSortedFunc(firings, func(a, b api.Firing) int { return slices.Compare(a.Events, b.Events) }) {
		t.Error("not in order")
	}
	for i, f := range firings {
		if i > 0 && slices.Equal(f.Events, firings[i-1].Events) || f.At != 1 || f.Rule != 0 || f.Made != 0 {
			t.Fatalf("%d: %v", i, f)
		}
	}
}
