package check

import (
	"strings"

	"dotterel/api"
)

// relations: their words, by their numbers, which are counted from 1 on.
var relations = [13]string{
	"before", "after", "meets", "metby", "overlaps", "overlapped", "starts",
	"startedby", "during", "contains", "finishes", "finishedby", "equals",
}

// comparisons: their marks, from that of Equal on.
var comparisons = [4]string{"=", "/=", "<", "<="}

// Show a book as tokens.
func Show(b api.Book) ([]api.Token, api.Errno) {
	if e := Check(b); e != api.OK {
		return nil, e
	}
	var w writer
	for _, t := range b.Types {
		w.eventType(t)
	}
	for _, r := range b.Rules {
		w.rule(r)
	}
	if len(w.tokens) > api.MaxTokens {
		return nil, api.ErrFull
	}
	return w.tokens, api.OK
}

// writer of tokens, of what may be in a book.
type writer struct{ tokens []api.Token }

func (w *writer) put(t api.Token) {
	// One too many is enough to tell that there are too many.
	if len(w.tokens) <= api.MaxTokens {
		w.tokens = append(w.tokens, t)
	}
}

// word: a copy, so that a token does not hold on to the book that it was shown from.
func (w *writer) word(s string) { w.put(api.Token{Kind: api.Word, Text: strings.Clone(s)}) }

func (w *writer) mark(s string) { w.put(api.Token{Kind: api.Mark, Text: s}) }

func (w *writer) number(n int) { w.put(api.Token{Kind: api.Number, Int: n}) }

// listed: parts, and what stands between two of them.
func listed[T any](l []T, between func(), part func(T)) {
	for i, x := range l {
		if i > 0 {
			between()
		}
		part(x)
	}
}

func (w *writer) comma() { w.mark(",") }

func (w *writer) eventType(t api.Type) {
	w.word("type")
	w.word(t.Name)
	w.mark("{")
	listed(t.Fields, w.comma, w.field)
	w.mark("}")
}

func (w *writer) field(f api.Field) {
	w.word(f.Name)
	w.mark(":")
	if f.Kind == api.Int {
		w.word("int")
	} else {
		w.word("text")
	}
}

func (w *writer) rule(r api.Rule) {
	w.word("rule")
	w.word(r.Name)
	w.mark("{")
	for _, p := range r.Whens {
		w.when(p)
	}
	for _, p := range r.Nots {
		w.word("not")
		w.pattern(p)
		w.mark(";")
	}
	for _, m := range r.Manies {
		w.many(m)
	}
	for _, k := range r.Links {
		w.link(k)
	}
	if r.Emit.Type != "" {
		w.emit(r.Emit)
	}
	w.mark("}")
}

func (w *writer) when(p api.Pattern) {
	w.word("when")
	w.pattern(p)
	switch p.Window {
	case api.Time:
		w.over("time", p.N)
	case api.Last:
		w.over("last", p.N)
	}
	w.mark(";")
}

func (w *writer) over(window string, n int) {
	w.word("over")
	w.word(window)
	w.number(n)
}

func (w *writer) many(m api.Many) {
	w.word("many")
	w.number(m.Count)
	if m.Field != "" {
		w.word("of")
		w.word(m.Field)
	}
	w.pattern(m.Pattern)
	w.word("within")
	w.number(m.Pattern.N)
	w.mark(";")
}

func (w *writer) link(k api.Link) {
	w.word("where")
	w.word(k.Left)
	listed(k.Options, func() { w.word("or") }, w.option)
	w.word(k.Right)
	w.mark(";")
}

func (w *writer) option(o api.Option) {
	w.word(relations[o.Relation-1])
	if o.Low == 0 && o.High == -1 {
		return
	}
	w.mark("(")
	w.number(o.Low)
	w.comma()
	if o.High == -1 {
		w.word("any")
	} else {
		w.number(o.High)
	}
	w.mark(")")
}

func (w *writer) emit(m api.Emit) {
	w.word("emit")
	w.word(m.Type)
	w.mark("(")
	listed(m.Values, w.comma, w.side)
	w.mark(")")
	w.mark(";")
}

func (w *writer) pattern(p api.Pattern) {
	w.word(p.Var)
	w.mark(":")
	w.word(p.Type)
	if p.Where.Kind == api.Always {
		return
	}
	w.mark("[")
	w.condition(p.Where, api.Always)
	w.mark("]")
}

// condition within one of a Kind; Always: within none.
func (w *writer) condition(c api.Condition, around int) {
	if !hasBrackets(c.Kind, around) {
		w.bare(c)
		return
	}
	w.mark("(")
	w.bare(c)
	w.mark(")")
}

// hasBrackets: without them the grammar would read something else.
func hasBrackets(kind, around int) bool {
	switch kind {
	case api.Or:
		return around != api.Always
	case api.And:
		return around == api.And || around == api.Not
	}
	return false
}

// bare condition, without brackets of its own.
func (w *writer) bare(c api.Condition) {
	switch c.Kind {
	case api.And:
		w.subs(c, "and")
	case api.Or:
		w.subs(c, "or")
	case api.Not:
		w.word("not")
		w.condition(c.Subs[0], api.Not)
	default:
		w.side(c.Left)
		w.mark(comparisons[c.Kind-api.Equal])
		w.side(c.Right)
	}
}

func (w *writer) subs(c api.Condition, word string) {
	listed(c.Subs, func() { w.word(word) }, func(sub api.Condition) { w.condition(sub, c.Kind) })
}

func (w *writer) side(o api.Operand) {
	switch o.Kind {
	case api.Constant:
		w.constant(o.Value)
	case api.Own:
		w.word(o.Field)
	case api.Other:
		w.word(o.Var)
		w.mark(".")
		w.word(o.Field)
	}
}

func (w *writer) constant(v api.Value) {
	switch {
	case v.Kind == api.Text:
		w.put(api.Token{Kind: api.String, Text: strings.Clone(v.Text)})
	case v.Int < 0:
		w.mark("-")
		w.number(-v.Int)
	default:
		w.number(v.Int)
	}
}
