package lines

import "dotterel/api"

// acts: their words, by their Kinds.
var acts = [5]string{api.Do: "do", api.Sync: "sync", api.Crash: "crash", api.Swap: "swap"}

// operations: their words, by their Kinds.
var operations = [4]string{api.Insert: "insert", api.Advance: "advance", api.Query: "query"}

const (
	yes    = "yes"
	no     = "no"
	blank  = " "  // between two words
	end    = "\n" // of a line
	dot    = '.'  // ahead of a text's digits
	digits = "0123456789abcdef"
)

// actKind of a word; 0, which is no Kind, has the empty one.
func actKind(word string) int {
	for kind, w := range acts {
		if w == word {
			return kind
		}
	}
	return 0
}

// operationKind of a word; 0, which is no Kind, has the empty one.
func operationKind(word string) int {
	for kind, w := range operations {
		if w == word {
			return kind
		}
	}
	return 0
}
