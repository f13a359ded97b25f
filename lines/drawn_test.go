package lines

import (
	"encoding/hex"
	"fmt"
	"math/big"
	"math/rand"
	"regexp"
	"strings"
	"testing"

	"dotterel/api"
	"dotterel/tape"
)

const (
	number = `(0|-?[1-9][0-9]*)`
	digest = `\.((?:[0-9a-f]{2})*)`
	name   = `([^ ]*)`
	value  = `(?: (?:0|-?[1-9][0-9]*|\.(?:[0-9a-f]{2})*))`
)

// forms of lines, by the chapter's words: only values are of a number that is not told.
var (
	syncForm    = regexp.MustCompile(`^sync$`)
	crashForm   = regexp.MustCompile(`^crash ` + number + `$`)
	swapForm    = regexp.MustCompile(`^swap ` + digest + `$`)
	queryForm   = regexp.MustCompile(`^do query ` + name + `$`)
	advanceForm = regexp.MustCompile(`^do advance ` + number + ` (yes|no)$`)
	insertForm  = regexp.MustCompile(`^do insert ` + name + ` ` + number + ` ` + number + `(` + value + `*)$`)
)

// slowNumber of digits; false: it does not fit into 64 bits.
func slowNumber(s string) (int, bool) {
	n, ok := new(big.Int).SetString(s, 10)
	if !ok || !n.IsInt64() {
		return 0, false
	}
	return int(n.Int64()), true
}

func slowText(s string) string {
	b, err := hex.DecodeString(s)
	if err != nil {
		panic(err)
	}
	return string(b)
}

// slowLine: the act of a line (without the byte 10); false: Show would write no act so.
func slowLine(s string) (api.Act, bool) {
	// Of bytes that are no runes a pattern makes one rune each: they are put into runes of their own first.
	s = runes(s)
	if syncForm.MatchString(s) {
		return synced(), true
	}
	if m := crashForm.FindStringSubmatch(s); m != nil {
		n, ok := slowNumber(m[1])
		return crash(n), ok
	}
	if m := swapForm.FindStringSubmatch(s); m != nil {
		return swap(slowText(m[1])), true
	}
	if m := queryForm.FindStringSubmatch(s); m != nil {
		return do(query(plain(m[1]))), true
	}
	if m := advanceForm.FindStringSubmatch(s); m != nil {
		n, ok := slowNumber(m[1])
		return do(api.Operation{Kind: api.Advance, Delta: n, Collect: m[2] == "yes"}), ok
	}
	m := insertForm.FindStringSubmatch(s)
	if m == nil {
		return api.Act{}, false
	}
	start, ok := slowNumber(m[2])
	end, also := slowNumber(m[3])
	o := api.Operation{Kind: api.Insert, Type: plain(m[1]), Span: api.Span{Start: start, End: end}}
	for _, w := range strings.Fields(m[4]) {
		if w[0] == '.' {
			o.Values = append(o.Values, text(slowText(w[1:])))
			continue
		}
		n, fits := slowNumber(w)
		ok = ok && fits
		o.Values = append(o.Values, num(n))
	}
	return do(o), ok && also
}

// runes: each byte of a text as a rune; plain: the other way round.
func runes(s string) string {
	var l []rune
	for i := range len(s) {
		l = append(l, rune(s[i]))
	}
	return string(l)
}

func plain(s string) string {
	var b []byte
	for _, c := range s {
		b = append(b, byte(c))
	}
	return string(b)
}

// slowCheck: P17.1, asked of a printed act.
func slowCheck(a api.Act) api.Errno {
	if a.Kind != api.Sync && a.Kind != api.Crash {
		return tape.Check(a)
	}
	bare := api.Act{Kind: a.Kind}
	if a.Kind == api.Crash {
		bare.Pick = a.Pick
	}
	if fmt.Sprint(a) != fmt.Sprint(bare) {
		return api.ErrForm
	}
	if a.Pick < 0 || a.Pick > api.MaxTape {
		return api.ErrRange
	}
	return api.OK
}

// slowRead: all lines are cut first, then asked one after another.
func slowRead(s string) ([]api.Act, int, api.Errno) {
	var l []api.Act
	for place, line := range strings.SplitAfter(s, "\n") {
		if line == "" { // behind the last byte 10
			break
		}
		if place >= api.MaxActs {
			return nil, place, api.ErrSize
		}
		bare, ended := strings.CutSuffix(line, "\n")
		a, ok := slowLine(bare)
		if !ended || !ok {
			return nil, place, api.ErrForm
		}
		if e := slowCheck(a); e != api.OK {
			return nil, place, e
		}
		l = append(l, a)
	}
	return l, 0, api.OK
}

// slowWord: what stands of a value.
func slowWord(v api.Value) string {
	if v.Kind == api.Text {
		return fmt.Sprintf(".%x", v.Text)
	}
	return fmt.Sprint(v.Int)
}

// slowShow acts that may be.
func slowShow(l []api.Act) string {
	s := ""
	for _, a := range l {
		o := a.Operation
		switch {
		case a.Kind == api.Sync:
			s += "sync\n"
		case a.Kind == api.Crash:
			s += fmt.Sprintf("crash %d\n", a.Pick)
		case a.Kind == api.Swap:
			s += fmt.Sprintf("swap .%x\n", a.Source)
		case o.Kind == api.Query:
			s += fmt.Sprintf("do query %s\n", o.Type)
		case o.Kind == api.Advance:
			s += fmt.Sprintf("do advance %d %s\n", o.Delta, map[bool]string{true: "yes", false: "no"}[o.Collect])
		default:
			s += fmt.Sprintf("do insert %s %d %d", o.Type, o.Span.Start, o.Span.End)
			for _, v := range o.Values {
				s += " " + slowWord(v)
			}
			s += "\n"
		}
	}
	return s
}

// drawnText of so many bytes at most.
func drawnText(r *rand.Rand, most int) string {
	b := make([]byte, r.Intn(most+1))
	for i := range b {
		b[i] = []byte{0, '\n', ' ', '.', 'a', 0x7f, 0x80, 0xff, byte(r.Intn(256))}[r.Intn(9)]
	}
	return string(b)
}

// drawnNumber from -most to most.
func drawnNumber(r *rand.Rand, most int) int {
	return []int{0, 1, -1, 9, 10, -10, 99, r.Intn(most + 1), -r.Intn(most + 1), most, -most}[r.Intn(11)]
}

// drawnTime: one that may be.
func drawnTime(r *rand.Rand) int { return max(drawnNumber(r, api.MaxTime), 0) }

// drawnOperation, one that may be.
func drawnOperation(r *rand.Rand) api.Operation {
	kind := []string{"a", "b", "door", "no", "abcdefghij"}[r.Intn(5)]
	switch r.Intn(4) {
	case 0:
		return api.Operation{Kind: api.Advance, Delta: drawnTime(r), Collect: r.Intn(2) == 0}
	case 1:
		return query(kind)
	}
	x, y := drawnTime(r), drawnTime(r)
	o := insert(min(x, y), max(x, y))
	o.Type = kind
	for range r.Intn(api.MaxFields + 1) {
		v := num(drawnNumber(r, api.MaxInt))
		if r.Intn(2) == 0 {
			v = text(drawnText(r, api.MaxText))
		}
		o.Values = append(o.Values, v)
	}
	return o
}

// drawnAct, one that may be.
func drawnAct(r *rand.Rand) api.Act {
	switch r.Intn(6) {
	case 0:
		return synced()
	case 1:
		return crash(max(drawnNumber(r, api.MaxTape), 0))
	case 2:
		return swap(drawnText(r, 40))
	}
	return do(drawnOperation(r))
}

// drawnActs that may be, so many at most.
func drawnActs(r *rand.Rand, most int) []api.Act {
	var l []api.Act
	for range r.Intn(most + 1) {
		l = append(l, drawnAct(r))
	}
	return l
}

// spoilAct: another Kind, Pick, Source or part of an Operation.
func spoilAct(r *rand.Rand, a api.Act) api.Act {
	switch r.Intn(9) {
	case 0:
		a.Kind = r.Intn(7) - 1
	case 1:
		a.Pick = []int{1, -1, api.MaxTape, api.MaxTape + 1}[r.Intn(4)]
	case 2:
		a.Source = letters([]int{1, api.MaxSource, api.MaxSource + 1}[r.Intn(3)])
	case 3:
		a.Operation.Kind = r.Intn(6) - 1
	case 4:
		a.Operation.Type = []string{"", "a", "A", "abcdefghijk"}[r.Intn(4)]
	case 5:
		a.Operation.Span = api.Span{Start: r.Intn(4) - 1, End: r.Intn(4) - 1}
	case 6:
		a.Operation.Values = []api.Value{num(1), text("x"), {}, num(api.MaxInt + 1)}[:r.Intn(5)]
	case 7:
		a.Operation.Delta = []int{1, -1, api.MaxTime + 1}[r.Intn(3)]
	case 8:
		a.Operation.Collect = !a.Operation.Collect
	}
	return a
}

// TestDrawn: P17.2, P17.3: what is shown is what the judge writes, and is read as it was.
func TestDrawn(t *testing.T) {
	r := rand.New(rand.NewSource(17))
	for range 3000 {
		l := drawnActs(r, 8)
		s := slowShow(l)
		wantShown(t, l, s)
		wantRead(t, s, l)
		if k, _, e := slowRead(s); !same(k, l) || e != api.OK {
			t.Fatalf("the judge reads %q as %+v, %v", s, k, e)
		}
	}
}

// TestSpoiltActs: P17.1, P17.2: of drawn acts of which some may not be the first one of these tells.
func TestSpoiltActs(t *testing.T) {
	r := rand.New(rand.NewSource(18))
	wrong := map[api.Errno]int{}
	for range 12000 {
		l := drawnActs(r, 6)
		for range r.Intn(3) {
			if len(l) > 0 {
				at := r.Intn(len(l))
				l[at] = spoilAct(r, l[at])
			}
		}
		text, place, want := slowShow(l), 0, api.OK
		for i, a := range l {
			e := slowCheck(a)
			if got := Check(a); got != e {
				t.Errorf("Check(%+v): %v, want %v", a, got, e)
			}
			if e != api.OK && want == api.OK {
				text, place, want = "", i, e
			}
		}
		wrong[want]++
		if s, at, e := Show(l); s != text || at != place || e != want {
			t.Errorf("Show(%+v): %q, %d, %v; want %q, %d, %v", l, s, at, e, text, place, want)
		}
	}
	for _, e := range []api.Errno{api.OK, api.ErrSize, api.ErrRange, api.ErrKind, api.ErrForm} {
		if wrong[e] < 100 {
			t.Errorf("too few of %v: %d", e, wrong[e])
		}
	}
}

// pieces that stand in lines, and others.
var pieces = []string{
	"", " ", "  ", "\n", "0", "1", "9", "-", "-0", "-1", "+", ".", ".7", ".78", "a", "f", "A", "F", "g", "yes", "no", "sync", "crash ", "swap ", "do ", "query ", "advance ", "insert ",
	"\r", "\x00", "\xff", "é", "9223372036854775807", "9223372036854775808", " 0 0", "sync\n", "x", "_",
}

// spoilText: a few bytes of it are gone, and a piece may stand in their place.
func spoilText(r *rand.Rand, s string) string {
	at := r.Intn(len(s) + 1)
	end := min(at+[]int{0, 0, 1, 1, 2, 5}[r.Intn(6)], len(s))
	return s[:at] + pieces[r.Intn(len(pieces))] + s[end:]
}

// wantSlow: what the judge reads is what is read; and what is read is shown as the same text.
func wantSlow(t *testing.T, s string) api.Errno {
	t.Helper()
	want, place, e := slowRead(s)
	if l, at, got := Read(s); !same(l, want) || at != place || got != e {
		t.Errorf("Read(%q): %+v, %d, %v; want %+v, %d, %v", s, l, at, got, want, place, e)
	}
	if e == api.OK {
		wantShown(t, want, s)
	}
	return e
}

// TestSpoiltTexts: P17.3: drawn lines with pieces that are gone, or too many, or other ones.
func TestSpoiltTexts(t *testing.T) {
	r := rand.New(rand.NewSource(19))
	wrong := map[api.Errno]int{}
	for range 60000 {
		s := slowShow(drawnActs(r, 4))
		for range 1 + r.Intn(2) {
			s = spoilText(r, s)
		}
		wrong[wantSlow(t, s)]++
	}
	for _, e := range []api.Errno{api.OK, api.ErrSize, api.ErrRange, api.ErrOrder, api.ErrForm} {
		if wrong[e] < 20 {
			t.Errorf("too few of %v: %d", e, wrong[e])
		}
	}
}

// TestPieces: P17.3: texts of pieces alone.
func TestPieces(t *testing.T) {
	r := rand.New(rand.NewSource(20))
	for range 30000 {
		s := []string{"", "do ", "do insert ", "do insert a 0 0", "do query", "do advance", "crash", "swap"}[r.Intn(8)]
		for range r.Intn(6) {
			s += pieces[r.Intn(len(pieces))]
		}
		wantSlow(t, s)
		wantSlow(t, s+"\n")
	}
}
