package network

import (
	"fmt"
	"testing"

	"dotterel/api"
)

// dropBelow: the events with lower Numbers are over.
func dropBelow(n *Network, number int) {
	n.Drop(func(x api.Event) bool { return x.Number < number })
}

// TestDrop: what is over is in no tuple any more, in any when; what is not goes on as it was.
func TestDrop(t *testing.T) {
	for rule, want := range map[string]string{
		"when x : a ;":                                         "[[5]]",
		"when x : a ; when y : a ;":                            "[[3 5] [4 5] [5 3] [5 4]]",
		"when x : a ; when y : a [ n = x . n ] ;":              "[[3 5] [5 3]]",
		"when x : a ; when y : a ; when z : a ;":               "[[3 4 5] [3 5 4] [4 3 5] [4 5 3] [5 3 4] [5 4 3]]",
		"when x : a ; when y : a ; when z : a [ n = y . n ] ;": "[[4 3 5] [4 5 3]]",
		"when x : a over time 1 ; when y : a ;":                "[[4 5] [5 3] [5 4]]",
	} {
		n := networkOf(one(t, rule), evA(1, 1, 1), evA(2, 2, 2), evA(3, 3, 1), evA(4, 4, 2))
		dropBelow(n, 3)
		if got := fmt.Sprint(n.Take(evA(5, 5, 1))); got != want {
			t.Errorf("%s: %s, want %s", rule, got, want)
		}
	}
}

// TestDropNone: where nothing is over, nothing is lost.
func TestDropNone(t *testing.T) {
	n := networkOf(one(t, "when x : a ; when y : a ;"), evA(1, 1, 1), evA(2, 2, 2))
	dropBelow(n, 1)
	if got := fmt.Sprint(n.Take(evA(3, 3, 1))); got != "[[1 3] [2 3] [3 1] [3 2]]" {
		t.Error(got)
	}
}

// TestDropCounts: a window of the last events counts those that are over, too.
func TestDropCounts(t *testing.T) {
	n := networkOf(one(t, "when x : a over last 3 ; when y : b ;"), evA(1, 1, 1), evA(2, 2, 1), evA(3, 3, 1))
	n.Drop(func(x api.Event) bool { return x.Number == 2 })
	if got := fmt.Sprint(n.Take(evB(4, 4, "s", 1))); got != "[[1 4] [3 4]]" {
		t.Error(got)
	}
	n.Take(evA(5, 5, 1))
	if got := fmt.Sprint(n.Take(evB(6, 6, "s", 1))); got != "[[3 6] [5 6]]" {
		t.Error(got)
	}
}

// TestDropAll: nothing of what is over is held on to; what comes behind it begins anew.
func TestDropAll(t *testing.T) {
	n := networkOf(one(t, "when x : a ; when y : a [ n = x . n ] ; when z : b ;"), evA(1, 1, 1), evA(2, 2, 1), evB(3, 3, "s", 1), evA(4, 4, 2))
	dropBelow(n, 5)
	for i, d := range n.nodes {
		// Ahead of the first when the token of no events stays.
		first := 0
		if i == 0 {
			first = 1
		}
		if events, tokens := waits(d); events != 0 || len(d.events) != 0 || tokens != first || len(d.tokens) != first {
			t.Errorf("at %d: %d events and %d tokens, of %d and %d values", i, events, tokens, len(d.events), len(d.tokens))
		}
	}
	n.Take(evA(5, 5, 3))
	n.Take(evB(6, 6, "s", 3))
	if got := fmt.Sprint(n.Take(evA(7, 7, 3))); got != "[[5 7 6] [7 5 6]]" {
		t.Error(got)
	}
}
