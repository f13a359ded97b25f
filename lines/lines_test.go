package lines

import (
	"math"
	"reflect"
	"strings"
	"testing"

	"dotterel/api"
)

// told: acts that may be, each with its line.
var told = []struct {
	a    api.Act
	want string
}{
	{synced(), "sync\n"},
	// A Crash: numbers of one digit and of more, up to the greatest.
	{crash(0), "crash 0\n"},
	{crash(9), "crash 9\n"},
	{crash(10), "crash 10\n"},
	{crash(100), "crash 100\n"},
	{crash(1234), "crash 1234\n"},
	{crash(api.MaxTape), "crash 200000\n"},
	// A Swap.
	{swap(""), "swap .\n"},
	{swap("a"), "swap .61\n"},
	{swap("type a { }"), "swap .747970652061207b207d\n"},
	{swap("\x00\x09\n\x0f\x10 é\x7f\x80\x9a\xa9\xff"), "swap .00090a0f1020c3a97f809aa9ff\n"},
	{swap(letters(api.MaxSource)), "swap ." + strings.Repeat("78", api.MaxSource) + "\n"},
	// A Query.
	{do(query("a")), "do query a\n"},
	{do(query("z9")), "do query z9\n"},
	{do(query("query")), "do query query\n"},
	{do(query("abcdefghij")), "do query abcdefghij\n"},
	// An Advance.
	{do(step(0)), "do advance 0 no\n"},
	{do(step(3)), "do advance 3 no\n"},
	{do(collect(0)), "do advance 0 yes\n"},
	{do(collect(70)), "do advance 70 yes\n"},
	{do(step(api.MaxTime)), "do advance 1099511627776 no\n"},
	{do(collect(api.MaxTime)), "do advance 1099511627776 yes\n"},
	// An Insert without Values.
	{do(insert(0, 0)), "do insert a 0 0\n"},
	{do(insert(1, 2)), "do insert a 1 2\n"},
	{do(insert(0, api.MaxTime)), "do insert a 0 1099511627776\n"},
	{do(insert(api.MaxTime, api.MaxTime)), "do insert a 1099511627776 1099511627776\n"},
	{do(api.Operation{Kind: api.Insert, Type: "door", Values: []api.Value{}}), "do insert door 0 0\n"},
	// Ints.
	{do(insert(0, 0, num(0))), "do insert a 0 0 0\n"},
	{do(insert(0, 0, num(1))), "do insert a 0 0 1\n"},
	{do(insert(0, 0, num(-1))), "do insert a 0 0 -1\n"},
	{do(insert(0, 0, num(-10))), "do insert a 0 0 -10\n"},
	{do(insert(0, 0, num(api.MaxInt))), "do insert a 0 0 1125899906842624\n"},
	{do(insert(0, 0, num(-api.MaxInt))), "do insert a 0 0 -1125899906842624\n"},
	// Texts.
	{do(insert(0, 0, text(""))), "do insert a 0 0 .\n"},
	{do(insert(0, 0, text("x"))), "do insert a 0 0 .78\n"},
	{do(insert(0, 0, text("\x00"))), "do insert a 0 0 .00\n"},
	{do(insert(0, 0, text("-1"))), "do insert a 0 0 .2d31\n"},
	{do(insert(0, 0, text(". \n\xff"))), "do insert a 0 0 .2e200aff\n"},
	{do(insert(0, 0, text(letters(api.MaxText)))), "do insert a 0 0 ." + strings.Repeat("78", api.MaxText) + "\n"},
	// More than one Value.
	{do(insert(1, 2, num(-3), text("x"))), "do insert a 1 2 -3 .78\n"},
	{do(insert(0, 7, text(""), text(""), num(0))), "do insert a 0 7 . . 0\n"},
	{do(insert(3, 7, num(1), text("b"), num(300), text("cd"))), "do insert a 3 7 1 .62 300 .6364\n"},
}

// same acts, by what is in them: a list without elements may be nil or not.
func same(a, b []api.Act) bool {
	if len(a) != len(b) {
		return false
	}
	for i := range a {
		x, y := a[i], b[i]
		if len(x.Operation.Values) == 0 && len(y.Operation.Values) == 0 {
			x.Operation.Values, y.Operation.Values = nil, nil
		}
		if !reflect.DeepEqual(x, y) {
			return false
		}
	}
	return true
}

// wantShown: acts as a text.
func wantShown(t *testing.T, l []api.Act, want string) {
	t.Helper()
	if s, place, e := Show(l); s != want || place != 0 || e != api.OK {
		t.Errorf("Show(%+v): %q, %d, %v; want %q", l, s, place, e, want)
	}
}

// wantRead: a text as acts.
func wantRead(t *testing.T, s string, want []api.Act) {
	t.Helper()
	if l, place, e := Read(s); !same(l, want) || place != 0 || e != api.OK {
		t.Errorf("Read(%q): %+v, %d, %v; want %+v", s, l, place, e, want)
	}
}

// wantWrong: a text that is refused, at a place, and no acts.
func wantWrong(t *testing.T, s string, place int, want api.Errno) {
	t.Helper()
	if l, at, e := Read(s); len(l) > 0 || at != place || e != want {
		t.Errorf("Read(%q): %+v, %d, %v; want %d, %v", s, l, at, e, place, want)
	}
}

// TestTold: P17.2, P17.3: acts that may be, there and back, alone and all together.
func TestTold(t *testing.T) {
	wantShown(t, nil, "")
	wantShown(t, []api.Act{}, "")
	wantRead(t, "", nil)
	var all []api.Act
	text := ""
	for _, c := range told {
		wantFine(t, c.a)
		wantShown(t, []api.Act{c.a}, c.want)
		wantRead(t, c.want, []api.Act{c.a})
		wantShown(t, []api.Act{c.a, c.a}, c.want+c.want)
		wantRead(t, c.want+c.want, []api.Act{c.a, c.a})
		all = append(all, c.a)
		text += c.want
	}
	wantShown(t, all, text)
	wantRead(t, text, all)
}

// TestBytes: P17.2, P17.3: texts and Sources with each byte that there is, alone, in pairs, and all together.
func TestBytes(t *testing.T) {
	const digits = "0123456789abcdef"
	all, shown := "", ""
	for c := range 256 {
		s := string([]byte{byte(c)})
		pair := digits[c/16:c/16+1] + digits[c%16:c%16+1]
		wantShown(t, []api.Act{swap(s), do(insert(0, 0, text(s+s)))}, "swap ."+pair+"\ndo insert a 0 0 ."+pair+pair+"\n")
		wantRead(t, "swap ."+pair+"\ndo insert a 0 0 ."+pair+pair+"\n", []api.Act{swap(s), do(insert(0, 0, text(s+s)))})
		all, shown = all+s, shown+pair
	}
	wantShown(t, []api.Act{swap(all)}, "swap ."+shown+"\n")
	wantRead(t, "swap ."+shown+"\n", []api.Act{swap(all)})
}

// TestShowFirst: P17.2: of more than one act that may not be the first one tells, and no text is shown.
func TestShowFirst(t *testing.T) {
	for _, c := range []struct {
		l     []api.Act
		place int
		want  api.Errno
	}{
		{[]api.Act{{}}, 0, api.ErrKind},
		{[]api.Act{crash(-1), {}}, 0, api.ErrRange},
		{[]api.Act{synced(), {}, crash(-1)}, 1, api.ErrKind},
		{[]api.Act{synced(), do(query("A")), {}}, 1, api.ErrForm},
		{[]api.Act{synced(), swap("x"), crash(3), do(insert(2, 1)), swap(letters(api.MaxSource + 1))}, 3, api.ErrOrder},
		{[]api.Act{synced(), swap("x"), crash(3), do(insert(1, 2)), swap(letters(api.MaxSource + 1)), {}}, 4, api.ErrSize},
	} {
		if s, place, e := Show(c.l); s != "" || place != c.place || e != c.want {
			t.Errorf("Show(%+v): %q, %d, %v; want %d, %v", c.l, s, place, e, c.place, c.want)
		}
	}
}

// TestShowMany: P17.2: just MaxActs acts, and one more, which is told ahead of what is wrong with an act.
func TestShowMany(t *testing.T) {
	l := make([]api.Act, api.MaxActs+2)
	for i := range l {
		l[i] = crash(i)
	}
	want := ""
	for _, a := range l[:api.MaxActs] {
		s, _, _ := Show([]api.Act{a})
		want += s
	}
	wantShown(t, l[:api.MaxActs], want)
	wantRead(t, want, l[:api.MaxActs])
	for _, place := range []int{-1, 0, 1, api.MaxActs - 1, api.MaxActs} {
		if place >= 0 {
			l[place] = api.Act{}
		}
		for _, n := range []int{api.MaxActs + 1, api.MaxActs + 2} {
			if s, at, e := Show(l[:n]); s != "" || at != 0 || e != api.ErrSize {
				t.Errorf("%d acts, one wrong at %d: %q, %d, %v", n, place, s, at, e)
			}
		}
	}
	l = make([]api.Act, api.MaxActs)
	for i := range l {
		l[i] = synced()
	}
	l[api.MaxActs-1] = crash(-1)
	if s, at, e := Show(l); s != "" || at != api.MaxActs-1 || e != api.ErrRange {
		t.Errorf("the last one is wrong: %q, %d, %v", s, at, e)
	}
}

// TestReadMany: P17.3: just MaxActs lines, and one more, which is told ahead of what is wrong with it, but behind what is wrong with one ahead of it.
func TestReadMany(t *testing.T) {
	most := strings.Repeat("sync\n", api.MaxActs)
	if l, place, e := Read(most); len(l) != api.MaxActs || place != 0 || e != api.OK {
		t.Errorf("as many as may be: %d, %d, %v", len(l), place, e)
	}
	for _, more := range []string{"sync\n", "sync", "\n", "x", " ", "crash -1\n", "do insert a 2 1\n", most} {
		wantWrong(t, most+more, api.MaxActs, api.ErrSize)
		wantWrong(t, most[5:]+"crash 01\n"+more, api.MaxActs-1, api.ErrForm)
		wantWrong(t, most[5:]+"crash -1\n"+more, api.MaxActs-1, api.ErrRange)
		wantWrong(t, "swap\n"+most[5:]+more, 0, api.ErrForm)
	}
	wantWrong(t, most[:len(most)-1], api.MaxActs-1, api.ErrForm)
	wantWrong(t, most[5:]+"\n", api.MaxActs-1, api.ErrForm)
}

// wantLine: a line (without the byte 10) that is refused, alone, and wherever it stands.
func wantLine(t *testing.T, line string, want api.Errno) {
	t.Helper()
	for _, behind := range []string{"", "sync\n", "\n", "crash -1\n", "crash 01\n", "x"} {
		wantWrong(t, line+"\n"+behind, 0, want)
		wantWrong(t, "sync\n"+line+"\n"+behind, 1, want)
		wantWrong(t, "swap .\ndo advance 1 yes\ncrash 0\n"+line+"\n"+behind, 3, want)
	}
}

// TestEnd: P17.3: each line without the byte 10 at its end, and each of its beginnings, ahead of what Check would refuse.
func TestEnd(t *testing.T) {
	for _, c := range told {
		line := strings.TrimSuffix(c.want, "\n")
		for i := 1; i <= len(line); i += 1 + len(line)/500 {
			wantWrong(t, line[:i], 0, api.ErrForm)
			wantWrong(t, "sync\n"+line[:i], 1, api.ErrForm)
		}
		wantWrong(t, line, 0, api.ErrForm)
		wantWrong(t, c.want+line, 1, api.ErrForm)
	}
	for _, s := range []string{"crash -1", "do query A", "do query ", "do insert a 2 1", "do advance -1 no", " ", "x", "\r", "\x00"} {
		wantWrong(t, s, 0, api.ErrForm)
		wantWrong(t, "sync\n"+s, 1, api.ErrForm)
	}
}

// TestBlanks: P17.3: each line with a blank ahead, behind, two of them at any place, or another byte for the first one; and without what is behind a blank.
func TestBlanks(t *testing.T) {
	wantLine(t, "", api.ErrForm)
	wantLine(t, " ", api.ErrForm)
	wantLine(t, "  ", api.ErrForm)
	for _, c := range told {
		line := strings.TrimSuffix(c.want, "\n")
		wantLine(t, " "+line, api.ErrForm)
		wantLine(t, line+" ", api.ErrForm)
		first, rest, _ := strings.Cut(line, " ")
		for _, other := range []string{"", "\t", "_", "\x00", "\u00a0", "\n"} {
			if rest != "" {
				wantLine(t, first+other+rest, api.ErrForm)
			}
		}
		for i, words := 0, 1; i < len(line); i++ {
			if line[i] != ' ' {
				continue
			}
			wantLine(t, line[:i]+"  "+line[i+1:], api.ErrForm)
			wantLine(t, line[:i]+"   "+line[i+1:], api.ErrForm)
			if words < 5 {
				wantLine(t, line[:i], api.ErrForm)
			}
			if line[:i] != "do query" { // an empty Type is in form
				wantLine(t, line[:i+1], api.ErrForm)
			}
			words++
		}
	}
}

// TestWords: P17.3: other words, and a part too few or too many.
func TestWords(t *testing.T) {
	for _, line := range []string{
		"x", "0", ".", "-", "0 0", "insert", "query a", "advance 1 no", "insert a 0 0",
		"Sync", "SYNC", "syn", "syncs", "sync sync", "sync 0", "sync .", "sync crash 1", "sync\x00", "\ufeffsync",
		"crash", "crash ", "crash x", "crash .", "crash .31", "crash 1 2", "crash 1 no", "crashes 1", "Crash 1", "crash1",
		"swap", "swap ", "swap 1", "swap 61", "swap 616", "swap a", "swap . .", "swap .61 .62", "swap .61 0", "Swap .", "swaps .", "swap.",
		"do", "do ", "do do", "do do query a", "do sync", "do crash 1", "do swap .", "Do query a", "do Query a", "doo query a", "do  ",
		"do query", "do query a b", "do query a 1", "do query a ", "do query  a", "do queries a", "do  query a", "do query  ",
		"do advance", "do advance 1", "do advance no", "do advance 1 no no", "do advance 1 no 1", "do advance no 1", "do advance a 1 no", "do Advance 1 no",
		"do advance 1 ", "do advance  no", "do advance .31 no", "do advance . no",
		"do insert", "do insert a", "do insert a 0", "do insert 0 0", "do insert a 0 0 ", "do insert a  0 0", "do insert a 0  0",
		"do insert a 0 0 x", "do insert a 0 0 a", "do insert a 0 0  1", "do insert a 0 0 1  1", "do insert a 0 0 1 ", "do insert a 0 0 1 x", "do insert a 0 0 1 2 3 x",
		"do insert a 0 0 yes", "do insert a .30 0", "do insert a 0 .30", "do insert a b 0 0", "do Insert a 0 0", "do inserts a 0 0", "do insert a x 0", "do insert a 0 x",
	} {
		wantLine(t, line, api.ErrForm)
	}
}

// TestFlag: P17.3: yes and no, written otherwise.
func TestFlag(t *testing.T) {
	for _, w := range []string{"", "y", "n", "Yes", "No", "YES", "NO", "yess", "noo", "nono", "true", "false", "1", "0", ".", ".6e6f", "yes\t", "no\r", "yesno"} {
		wantLine(t, "do advance 1 "+w, api.ErrForm)
		wantLine(t, "do advance -1 "+w, api.ErrForm)
	}
}

// numbers: lines with a number left out.
var numbers = []struct{ ahead, behind string }{
	{"crash ", ""},
	{"do advance ", " no"},
	{"do advance ", " yes"},
	{"do insert a ", " 5"},
	{"do insert a ", " 1099511627777 .78"},
	{"do insert a 0 ", ""},
	{"do insert a 0 ", " 1 2 3 4 5 6"},
	{"do insert a 0 0 ", ""},
	{"do insert a 0 0 ", " 1"},
	{"do insert A 0 0 .78 -5 ", " ."},
}

// TestNumbersForm: P17.3: what is no number as it is written, or one that does not fit into 64 bits, ahead of what Check refuses.
func TestNumbersForm(t *testing.T) {
	for _, w := range []string{
		"", "-", "+", "+0", "+1", "-0", "00", "01", "-00", "-01", "--1", "-+1", "+-1", "1-", "1+", "0x1", "0b1", "0o7", "1_0", "1e3", "1.0", "1.", "0.", "1,0",
		"a", "1a", "a1", "١", "１", "1\t", "\t1", "1\r", "\x001", "1\x00", "-\xff",
		"000000000000000000000001", "-01125899906842624",
		"9223372036854775808", "-9223372036854775809", "9223372036854775810", "18446744073709551615", "18446744073709551616", "18446744073709551617", "-18446744073709551615",
		"10000000000000000000", "99999999999999999999", strings.Repeat("1", 40), "-" + strings.Repeat("9", 400), strings.Repeat("0", 30),
	} {
		for _, n := range numbers {
			wantLine(t, n.ahead+w+n.behind, api.ErrForm)
		}
	}
}

// TestNumbersBounds: P17.3: numbers that fit into 64 bits are in form: whether they may be is what Check tells.
func TestNumbersBounds(t *testing.T) {
	for _, c := range []struct {
		line string
		want api.Errno
	}{
		{"crash -1", api.ErrRange},
		{"crash 200001", api.ErrRange},
		{"crash 9223372036854775807", api.ErrRange},
		{"crash -9223372036854775808", api.ErrRange},
		{"do advance -1 no", api.ErrRange},
		{"do advance 1099511627777 yes", api.ErrRange},
		{"do advance 9223372036854775807 no", api.ErrRange},
		{"do advance -9223372036854775808 yes", api.ErrRange},
		{"do insert a -1 0", api.ErrRange},
		{"do insert a 0 1099511627777", api.ErrRange},
		{"do insert a -9223372036854775808 9223372036854775807", api.ErrRange},
		{"do insert a 2 1", api.ErrOrder},
		{"do insert a 10 9", api.ErrOrder},
		{"do insert a 0 0 1125899906842625", api.ErrRange},
		{"do insert a 0 0 -1125899906842625", api.ErrRange},
		{"do insert a 0 0 .78 9223372036854775807", api.ErrRange},
		{"do insert a 0 0 -9223372036854775808 .", api.ErrRange},
	} {
		wantLine(t, c.line, c.want)
	}
	if math.MaxInt != 9223372036854775807 {
		t.Errorf("a number has other than 64 bits")
	}
}

// texts: lines with a text left out.
var texts = []struct{ ahead, behind string }{
	{"swap ", ""},
	{"do insert a 0 0 ", ""},
	{"do insert a 0 0 ", " 1"},
	{"do insert a 2 1 -5 .78 ", " . 7"},
}

// TestTextsForm: P17.3: what is no text as it is written.
func TestTextsForm(t *testing.T) {
	for _, w := range []string{
		"", "..", "...", ".6", ".616", ".61626", ".6g", ".g6", ".A1", ".1A", ".aA", ".Aa", ".4A4a", ".FF", ".fF", ".Ff", ".61.62", ".61.", ".-1", ".+1", ".0x41", ".6 1",
		"x61", "\"61\"", "-.61", "a", ".61\x00", ".\x0061", ".\r\r", ".6\r", ".61\r", ".//", ".::", ".@@", ".``", ".\xff\xff", ".é", ".１",
		"." + strings.Repeat("78", api.MaxSource) + "7", "." + strings.Repeat("78", api.MaxSource+1) + "7", "." + strings.Repeat("78", 30) + "7X",
	} {
		for _, x := range texts {
			wantLine(t, x.ahead+w+x.behind, api.ErrForm)
		}
	}
	// Each byte that is no digit (and ends no word), as the higher one, and as the lower one.
	for c := range 256 {
		if s := string([]byte{byte(c)}); !strings.Contains("0123456789abcdef \n", s) {
			for _, x := range texts {
				wantWrong(t, x.ahead+"."+s+"0"+x.behind+"\n", 0, api.ErrForm)
				wantWrong(t, x.ahead+".0"+s+x.behind+"\n", 0, api.ErrForm)
			}
		}
	}
}

// TestBounds: P17.3: what is in form, but too long, or no name: what Check refuses, in its order.
func TestBounds(t *testing.T) {
	long := "." + strings.Repeat("78", api.MaxText+1)
	for _, c := range []struct {
		line string
		want api.Errno
	}{
		{"swap ." + strings.Repeat("78", api.MaxSource+1), api.ErrSize},
		{"swap ." + strings.Repeat("00", 10*api.MaxSource), api.ErrSize},
		{"do insert a 0 0 " + long, api.ErrSize},
		{"do insert a 0 0 1 2 3 " + long, api.ErrSize},
		{"do insert a 0 0 ." + strings.Repeat("00", api.MaxSource+1), api.ErrSize},
		// A Type is whatever stands there, were it empty.
		{"do query ", api.ErrSize},
		{"do query abcdefghijk", api.ErrSize},
		{"do query " + letters(5000), api.ErrSize},
		{"do query A", api.ErrForm},
		{"do query 0", api.ErrForm},
		{"do query .61", api.ErrForm},
		{"do query a\r", api.ErrForm},
		{"do query abcdefghij\r", api.ErrSize},
		{"do query \x00\xff\t", api.ErrForm},
		{"do insert  0 0", api.ErrSize},
		{"do insert  0 0 1 .", api.ErrSize},
		{"do insert abcdefghijk 0 0", api.ErrSize},
		{"do insert A 0 0", api.ErrForm},
		{"do insert a\r 0 0", api.ErrForm},
		{"do insert abcdefghij\r 0 0", api.ErrSize},
		{"do insert -1 0 0 1", api.ErrForm},
		// More Values than may be are in form, too.
		{"do insert a 0 0 1 2 3 4 5", api.ErrSize},
		{"do insert a 0 0 . . . . .", api.ErrSize},
		{"do insert a 0 0" + strings.Repeat(" 1", 3000), api.ErrSize},
		// Each ahead of those behind it.
		{"do insert  -1 0 1 2 3 4 5", api.ErrRange},
		{"do insert  2 1 1 2 3 4 5", api.ErrOrder},
		{"do insert A 0 0 1 2 3 4 1125899906842625", api.ErrSize},
		{"do insert  0 0 1125899906842625 " + long, api.ErrRange},
		{"do insert A 0 0 " + long + " 1125899906842625", api.ErrSize},
		{"do insert A 0 0 1125899906842625", api.ErrRange},
	} {
		wantLine(t, c.line, c.want)
	}
	wantRead(t, "do insert no 0 0\ndo query do\ndo insert yes 0 0\ndo query sync\n", []api.Act{
		do(api.Operation{Kind: api.Insert, Type: "no"}), do(query("do")), do(api.Operation{Kind: api.Insert, Type: "yes"}), do(query("sync")),
	})
}

// TestReturn: P17.3: a byte 13 ahead of the byte 10, or for it.
func TestReturn(t *testing.T) {
	for _, c := range told {
		line := strings.TrimSuffix(c.want, "\n")
		want := api.ErrForm
		if line == "do query abcdefghij" { // the byte 13 makes the Type too long
			want = api.ErrSize
		}
		wantWrong(t, line+"\r\n", 0, want)
		wantWrong(t, "sync\n"+line+"\r\nx", 1, want)
		wantWrong(t, line+"\r", 0, api.ErrForm)
		wantWrong(t, "\r"+line+"\n", 0, api.ErrForm)
	}
}

// TestReadFirst: P17.3: of more than one line that is wrong the first one tells.
func TestReadFirst(t *testing.T) {
	wantWrong(t, "crash -1\ncrash 01\n", 0, api.ErrRange)
	wantWrong(t, "crash 01\ncrash -1\n", 0, api.ErrForm)
	wantWrong(t, "sync\ncrash 1\ndo query \ncrash 01\nsync", 2, api.ErrSize)
	wantWrong(t, "sync\ncrash 1\ndo insert a 2 1\nsync", 2, api.ErrOrder)
	wantWrong(t, "sync\ncrash 1\nsync\nsync", 3, api.ErrForm)
	wantWrong(t, "sync\n\nsync\n", 1, api.ErrForm)
	wantWrong(t, "\n\n", 0, api.ErrForm)
	wantWrong(t, "sync\n\n", 1, api.ErrForm)
}
