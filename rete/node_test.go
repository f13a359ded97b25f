package rete

import (
	"testing"

	"dotterel/api"
)

// TestKeys: events and tokens wait at the second when by what it joins on: as many groups as there are such values, and one where it joins on nothing.
func TestKeys(t *testing.T) {
	l := events(evD(1, 0, 0, 1, "p", 1, "p"), evD(2, 0, 0, 1, "q", 1, "p"), evD(3, 0, 0, 2, "p", 1, "p"), evD(4, 0, 0, 2, "p", 1, "q"))
	for where, groups := range map[string]int{
		"n = n":                            1,
		"n = 2":                            1,
		"n < x . n":                        1,
		"n /= x . n":                       1,
		"x . n = 1":                        1,
		"x . n = x . m":                    1,
		"not n = x . n":                    1,
		"n = x . n or s = x . s":           1,
		"n = x . n":                        2,
		"x . n = n":                        2,
		"s = x . s":                        2,
		"m = x . m":                        1,
		"n = x . n and s = x . s":          3,
		"n = x . n and ( s = x . s )":      3,
		"n = x . n and not s = x . s":      2,
		"n = x . n and t = x . t":          3,
		"x . s = s and x . t = t":          3,
		"n = x . n and s = s and s < \"\"": 2,
		"n = x . n and s = x . s and m = x . m and x . t = t": 4,
	} {
		b := one(t, "when x : d ; when y : d [ "+where+" ] ;")
		n := newNetwork(b.Types, b.Rules[0])
		for _, x := range l {
			n.take(x)
		}
		if got := len(n.nodes[1].tokens); got != groups {
			t.Errorf("%s: %d groups of tokens, want %d", where, got, groups)
		}
		kept := 0
		for k, places := range n.nodes[1].events {
			kept += len(places)
			for _, tokens := range n.nodes[1].tokens[k] {
				if len(tokens) != 1 {
					t.Errorf("%s: %v is no token ahead of the second when", where, tokens)
				}
			}
		}
		if got := len(n.nodes[1].events); kept == len(l) && got != groups {
			t.Errorf("%s: %d groups of events, want %d", where, got, groups)
		}
		if len(n.nodes[0].tokens) != 1 || len(n.nodes[0].events) != 1 {
			t.Errorf("%s: the first when joins on something: %v", where, n.nodes[0])
		}
	}
}

// TestAlone: what a when asks of its event alone is asked ahead of all else: others do not wait there.
func TestAlone(t *testing.T) {
	b := one(t, `when x : a [ n > 1 ] ; when y : b [ n = x . n and ( s = "p" and n < 9 ) ] ; when z : c ;`)
	n := newNetwork(b.Types, b.Rules[0])
	l := events(evA(1, 0, 0, 1), evA(2, 0, 0, 2), evB(3, 0, 0, "p", 2), evB(4, 0, 0, "q", 2), evB(5, 0, 0, "p", 9), evB(6, 0, 0, "p", 3))
	for _, x := range l {
		n.take(x)
	}
	for i, want := range []int{1, 2, 0} {
		kept := 0
		for _, places := range n.nodes[i].events {
			kept += len(places)
		}
		if kept != want {
			t.Errorf("%d events wait at %d, want %d", kept, i, want)
		}
	}
	if got := n.nodes[2].tokens[key{}]; len(got) != 1 || len(got[0]) != 2 || got[0][0] != 1 || got[0][1] != 2 {
		t.Errorf("tokens at the last when: %v", got)
	}
}

// TestParts: a condition falls apart at each And that is not within another kind.
func TestParts(t *testing.T) {
	for where, want := range map[string]int{
		"n = 1":                                       1,
		"n = 1 and n = 2":                             2,
		"n = 1 and n = 2 and n = 3":                   3,
		"n = 1 and ( n = 2 and n = 3 )":               3,
		"n = 1 and ( n = 2 or n = 3 and n = 4 )":      2,
		"n = 1 or n = 2 and n = 3":                    1,
		"not ( n = 1 and n = 2 )":                     1,
		"( n = 1 and n = 2 ) and ( n = 3 and n = 4 )": 4,
	} {
		if got := parts(one(t, "when x : a [ "+where+" ] ;").Rules[0].Whens[0].Where); len(got) != want {
			t.Errorf("%s: %v", where, got)
		}
	}
	if got := parts(api.Condition{}); len(got) != 0 {
		t.Errorf("Always: %v", got)
	}
}
