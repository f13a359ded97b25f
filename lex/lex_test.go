package lex

import (
	"math"
	"math/big"
	"math/rand"
	"regexp"
	"slices"
	"strconv"
	"strings"
	"testing"

	"dotterel/api"
)

// word, number, quoted and mark: tokens written short.
func word(s string) api.Token   { return api.Token{Kind: api.Word, Text: s} }
func number(n int) api.Token    { return api.Token{Kind: api.Number, Int: n} }
func quoted(s string) api.Token { return api.Token{Kind: api.String, Text: s} }
func mark(s string) api.Token   { return api.Token{Kind: api.Mark, Text: s} }

// allMarks, as the chapter names them.
var allMarks = strings.Fields("<= >= /= { } [ ] ( ) : ; , . = < > -")

// long: a text of so many bytes.
func long(n int) string { return strings.Repeat("a", n) }

// times: a text so many times.
func times(n int, s string) string { return strings.Repeat(s, n) }

// many: a token so many times.
func many(n int, t api.Token) []api.Token { return slices.Repeat([]api.Token{t}, n) }

// cut: a text, and what Cut must answer of it.
type cut struct {
	s     string
	want  []api.Token
	place int
	e     api.Errno
}

func (c cut) try(t *testing.T) {
	t.Helper()
	got, place, e := Cut(c.s)
	if !slices.Equal(got, c.want) || place != c.place || e != c.e {
		t.Errorf("Cut(%.200q) = %+v, %d, %v, want %+v, %d, %v", c.s, got, place, e, c.want, c.place, c.e)
	}
}

// TestBetween: P5.1: blanks, tabs, the bytes 10 and 13, and notes stand between tokens, and are no tokens.
func TestBetween(t *testing.T) {
	a, b := word("a"), word("b")
	for _, c := range []cut{
		{"", nil, 0, api.OK},
		{" ", nil, 0, api.OK},
		{" \t\r\n", nil, 0, api.OK},
		{"#", nil, 0, api.OK},
		{"##", nil, 0, api.OK},
		{"#\n", nil, 0, api.OK},
		{"# a \" 01 A /", nil, 0, api.OK},
		{"#\x00\xff\xc3é\r\t", nil, 0, api.OK},
		{" a", []api.Token{a}, 0, api.OK},
		{"\ta", []api.Token{a}, 0, api.OK},
		{"\na", []api.Token{a}, 0, api.OK},
		{"\ra", []api.Token{a}, 0, api.OK},
		{"#\na", []api.Token{a}, 0, api.OK},
		{"a ", []api.Token{a}, 0, api.OK},
		{"a\t", []api.Token{a}, 0, api.OK},
		{"a\n", []api.Token{a}, 0, api.OK},
		{"a\r", []api.Token{a}, 0, api.OK},
		{"a#", []api.Token{a}, 0, api.OK},
		{"a#b", []api.Token{a}, 0, api.OK},
		{"a#\n", []api.Token{a}, 0, api.OK},
		{"a b", []api.Token{a, b}, 0, api.OK},
		{"a\tb", []api.Token{a, b}, 0, api.OK},
		{"a\nb", []api.Token{a, b}, 0, api.OK},
		{"a\rb", []api.Token{a, b}, 0, api.OK},
		{"a#\nb", []api.Token{a, b}, 0, api.OK},
		{"a#x#y\"\nb", []api.Token{a, b}, 0, api.OK},
		{"a#x\n#y\nb", []api.Token{a, b}, 0, api.OK},
		{"a \t\r\n#x\n\n\r\t b", []api.Token{a, b}, 0, api.OK},
		// A note goes on behind a byte 13, and none begins within a String.
		{"a#x\rb", []api.Token{a}, 0, api.OK},
		{"a#x\r\nb", []api.Token{a, b}, 0, api.OK},
		{"\"#\"b", []api.Token{quoted("#"), b}, 0, api.OK},
		{"#\"\nb\"\"", []api.Token{b, quoted("")}, 0, api.OK},
	} {
		c.try(t)
	}
}

// TestNothingElseBetween: P5.1, P5.2: no other byte stands between tokens, and none but those that the chapter names begins one.
func TestNothingElseBetween(t *testing.T) {
	for i := range 256 {
		c := byte(i)
		s := string([]byte{'a', ' ', c})
		want := cut{s, nil, 2, api.ErrForm}
		switch {
		case strings.IndexByte(" \t\n\r#", c) >= 0:
			want = cut{s, []api.Token{word("a")}, 0, api.OK}
		case c >= 'a' && c <= 'z':
			want = cut{s, []api.Token{word("a"), word(s[2:])}, 0, api.OK}
		case c >= '0' && c <= '9':
			want = cut{s, []api.Token{word("a"), number(i - '0')}, 0, api.OK}
		case c == '"':
			want = cut{s, nil, 2, api.ErrShort}
		case slices.Contains(allMarks, s[2:]):
			want = cut{s, []api.Token{word("a"), mark(s[2:])}, 0, api.OK}
		}
		want.try(t)
	}
}

// TestWords: P5.2: a Word.
func TestWords(t *testing.T) {
	for _, c := range []cut{
		{"a", []api.Token{word("a")}, 0, api.OK},
		{"z", []api.Token{word("z")}, 0, api.OK},
		{"when", []api.Token{word("when")}, 0, api.OK},
		{"a0z9", []api.Token{word("a0z9")}, 0, api.OK},
		{"a01", []api.Token{word("a01")}, 0, api.OK},
		{long(api.MaxName), []api.Token{word(long(api.MaxName))}, 0, api.OK},
		{long(api.MaxName - 1), []api.Token{word(long(api.MaxName - 1))}, 0, api.OK},
		{"a123456789", []api.Token{word("a123456789")}, 0, api.OK},
		{long(api.MaxName + 1), nil, 0, api.ErrSize},
		{"a1234567890", nil, 0, api.ErrSize},
		{" " + long(api.MaxSource-1), nil, 1, api.ErrSize},
		{"a:" + long(api.MaxName+1) + " A", nil, 2, api.ErrSize},
		{long(api.MaxName) + "A", nil, api.MaxName, api.ErrForm},
		{"aB", nil, 1, api.ErrForm},
		{"a_b", nil, 1, api.ErrForm},
		{"aé", nil, 1, api.ErrForm},
		{"a`", nil, 1, api.ErrForm},
		{"a{", []api.Token{word("a"), mark("{")}, 0, api.OK},
		{"a\"b\"c", []api.Token{word("a"), quoted("b"), word("c")}, 0, api.OK},
	} {
		c.try(t)
	}
}

// TestNumbers: P5.2: a Number; that it is above MaxInt is told ahead of its form.
func TestNumbers(t *testing.T) {
	most, above := strconv.Itoa(api.MaxInt), strconv.Itoa(api.MaxInt+1)
	for _, c := range []cut{
		{"0", []api.Token{number(0)}, 0, api.OK},
		{"1", []api.Token{number(1)}, 0, api.OK},
		{"9", []api.Token{number(9)}, 0, api.OK},
		{"10", []api.Token{number(10)}, 0, api.OK},
		{"100", []api.Token{number(100)}, 0, api.OK},
		{"1234567890", []api.Token{number(1234567890)}, 0, api.OK},
		{strconv.Itoa(api.MaxInt - 1), []api.Token{number(api.MaxInt - 1)}, 0, api.OK},
		{most, []api.Token{number(api.MaxInt)}, 0, api.OK},
		{"a " + above, nil, 2, api.ErrRange},
		{most + "0", nil, 0, api.ErrRange},
		{"9223372036854775807", nil, 0, api.ErrRange},
		{"9223372036854775808", nil, 0, api.ErrRange},
		{"18446744073709551615", nil, 0, api.ErrRange},
		{"18446744073709551616", nil, 0, api.ErrRange},
		{"18446744073709551621", nil, 0, api.ErrRange},
		{times(api.MaxSource, "9"), nil, 0, api.ErrRange},
		{"1" + times(api.MaxSource-1, "0"), nil, 0, api.ErrRange},
		{"00", nil, 0, api.ErrForm},
		{"01", nil, 0, api.ErrForm},
		{"a 01", nil, 2, api.ErrForm},
		{"0" + most, nil, 0, api.ErrForm},
		{times(api.MaxSource, "0"), nil, 0, api.ErrForm},
		{"0a", nil, 0, api.ErrForm},
		{"12a", nil, 0, api.ErrForm},
		{"12z", nil, 0, api.ErrForm},
		{": 12a", nil, 2, api.ErrForm},
		{most + "a", nil, 0, api.ErrForm},
		{"01a", nil, 0, api.ErrForm},
		// Where several apply, the one that is named first.
		{"0" + above, nil, 0, api.ErrRange},
		{above + "a", nil, 0, api.ErrRange},
		{"0" + above + "a", nil, 0, api.ErrRange},
		{times(100, "0") + above, nil, 0, api.ErrRange},
		// What is behind the digits is looked at where it begins.
		{"12A", nil, 2, api.ErrForm},
		{"12`", nil, 2, api.ErrForm},
		{"12{", []api.Token{number(12), mark("{")}, 0, api.OK},
		{"12\"a\"", []api.Token{number(12), quoted("a")}, 0, api.OK},
		{"12 a", []api.Token{number(12), word("a")}, 0, api.OK},
		{"0 1", []api.Token{number(0), number(1)}, 0, api.OK},
		{"0.1", []api.Token{number(0), mark("."), number(1)}, 0, api.OK},
		{"-5", []api.Token{mark("-"), number(5)}, 0, api.OK},
		{"/12", nil, 0, api.ErrForm},
		{"+1", nil, 0, api.ErrForm},
	} {
		c.try(t)
	}
}

// TestStrings: P5.2: a String; that it does not end is told ahead of its size.
func TestStrings(t *testing.T) {
	for _, c := range []cut{
		{`""`, []api.Token{quoted("")}, 0, api.OK},
		{`"a"`, []api.Token{quoted("a")}, 0, api.OK},
		{`" a "`, []api.Token{quoted(" a ")}, 0, api.OK},
		{`"a""b"`, []api.Token{quoted("a"), quoted("b")}, 0, api.OK},
		{`"\"`, []api.Token{quoted(`\`)}, 0, api.OK},
		{`"<="`, []api.Token{quoted("<=")}, 0, api.OK},
		{"\"a\nb\"", []api.Token{quoted("a\nb")}, 0, api.OK},
		{"\"\n\"", []api.Token{quoted("\n")}, 0, api.OK},
		{"\"\x00\x7f\x80\xff\"", []api.Token{quoted("\x00\x7f\x80\xff")}, 0, api.OK},
		{"\"é世\"", []api.Token{quoted("é世")}, 0, api.OK},
		{`"` + long(api.MaxText) + `"`, []api.Token{quoted(long(api.MaxText))}, 0, api.OK},
		{`"` + times(api.MaxText/2, "é") + `"`, []api.Token{quoted(times(api.MaxText/2, "é"))}, 0, api.OK},
		{`"` + long(api.MaxText+1) + `"`, nil, 0, api.ErrSize},
		{`a "` + times(api.MaxText/2, "é") + ` "`, nil, 2, api.ErrSize},
		{`a "` + long(api.MaxSource-4) + `"`, nil, 2, api.ErrSize},
		{`"`, nil, 0, api.ErrShort},
		{`"a`, nil, 0, api.ErrShort},
		{"a \"b\n", nil, 2, api.ErrShort},
		{`"a" "`, nil, 4, api.ErrShort},
		{`"a"b"`, nil, 4, api.ErrShort},
		{`"` + long(api.MaxText+1), nil, 0, api.ErrShort},
		{`"` + long(api.MaxSource-1), nil, 0, api.ErrShort},
		{`'a'`, nil, 0, api.ErrForm},
	} {
		c.try(t)
	}
}

// TestMarks: P5.2: every Mark, alone, and each one right behind each other one: the longest one is taken.
func TestMarks(t *testing.T) {
	for _, m := range allMarks {
		cut{m, []api.Token{mark(m)}, 0, api.OK}.try(t)
		cut{m + "a", []api.Token{mark(m), word("a")}, 0, api.OK}.try(t)
		cut{"1" + m, []api.Token{number(1), mark(m)}, 0, api.OK}.try(t)
		cut{m + " /", nil, len(m) + 1, api.ErrForm}.try(t)
		for _, n := range allMarks {
			want := []api.Token{mark(m), mark(n)}
			if (m == "<" || m == ">") && n == "=" {
				want = []api.Token{mark(m + n)}
			}
			cut{m + n, want, 0, api.OK}.try(t)
			cut{m + " " + n, []api.Token{mark(m), mark(n)}, 0, api.OK}.try(t)
		}
	}
	for _, c := range []cut{
		{"<==", []api.Token{mark("<="), mark("=")}, 0, api.OK},
		{"<<=", []api.Token{mark("<"), mark("<=")}, 0, api.OK},
		{"==", []api.Token{mark("="), mark("=")}, 0, api.OK},
		{"=<", []api.Token{mark("="), mark("<")}, 0, api.OK},
		{"<>", []api.Token{mark("<"), mark(">")}, 0, api.OK},
		{"<#=\n=", []api.Token{mark("<"), mark("=")}, 0, api.OK},
		{"/", nil, 0, api.ErrForm},
		{"//=", nil, 0, api.ErrForm},
		{"/ =", nil, 0, api.ErrForm},
		{"=/", nil, 1, api.ErrForm},
		{"!=", nil, 0, api.ErrForm},
	} {
		c.try(t)
	}
}

// TestCut: P5.3: the tokens in their order; how long the text may be, how many tokens there may be, and the place.
func TestCut(t *testing.T) {
	a := word("a")
	full := times(api.MaxTokens, "a ")
	for _, c := range []cut{
		{"when x:a # n\n<= 12 \"s\"", []api.Token{word("when"), word("x"), mark(":"), a, mark("<="), number(12), quoted("s")}, 0, api.OK},
		{times(api.MaxSource, " "), nil, 0, api.OK},
		{times(api.MaxSource-1, " ") + "a", []api.Token{a}, 0, api.OK},
		{times(api.MaxSource-1, " ") + "A", nil, api.MaxSource - 1, api.ErrForm},
		{"#" + times(api.MaxSource-1, "x"), nil, 0, api.OK},
		{times(api.MaxSource+1, " "), nil, 0, api.ErrSize},
		{times(api.MaxSource, " ") + "a", nil, 0, api.ErrSize},
		{times(1<<20, "x"), nil, 0, api.ErrSize},
		{times(api.MaxTokens-1, "a "), many(api.MaxTokens-1, a), 0, api.OK},
		{full, many(api.MaxTokens, a), 0, api.OK},
		{times(api.MaxTokens, "."), many(api.MaxTokens, mark(".")), 0, api.OK},
		{full + "\n#x", many(api.MaxTokens, a), 0, api.OK},
		{full + "#x\n \t\r\n", many(api.MaxTokens, a), 0, api.OK},
		{full + "a", nil, len(full), api.ErrFull},
		{full + "a a A", nil, len(full), api.ErrFull},
		{full + "#x\n  0", nil, len(full) + 5, api.ErrFull},
		{full + `"a"`, nil, len(full), api.ErrFull},
		{times(api.MaxTokens+1, "."), nil, api.MaxTokens, api.ErrFull},
		{times(api.MaxTokens, "<") + "/=", nil, api.MaxTokens, api.ErrFull},
		{times(api.MaxTokens-1, "<") + "<=", append(many(api.MaxTokens-1, mark("<")), mark("<=")), 0, api.OK},
		// One that begins is one too many, whatever is wrong with it.
		{full + long(api.MaxName+1), nil, len(full), api.ErrFull},
		{full + "01", nil, len(full), api.ErrFull},
		{full + "1a", nil, len(full), api.ErrFull},
		{full + times(30, "9"), nil, len(full), api.ErrFull},
		{full + `"`, nil, len(full), api.ErrFull},
		{full + `"` + long(api.MaxText+1) + `"`, nil, len(full), api.ErrFull},
		// Where none begins, there is not one too many.
		{full + "A", nil, len(full), api.ErrForm},
		{full + "/", nil, len(full), api.ErrForm},
		// What is wrong is told where it comes first.
		{times(api.MaxTokens-1, "a ") + "01 a", nil, 2*api.MaxTokens - 2, api.ErrForm},
		{times(api.MaxTokens-1, "a ") + "A a", nil, 2*api.MaxTokens - 2, api.ErrForm},
		{"01 " + full, nil, 0, api.ErrForm},
		{"a 01 A", nil, 2, api.ErrForm},
		{"a \" 01", nil, 2, api.ErrShort},
		{"a " + times(20, "9") + " 01", nil, 2, api.ErrRange},
		// The size of the text goes ahead of all that is in it.
		{"01" + times(api.MaxSource, " "), nil, 0, api.ErrSize},
		{times(api.MaxSource+1, "."), nil, 0, api.ErrSize},
		{" A" + times(api.MaxSource, " "), nil, 0, api.ErrSize},
	} {
		c.try(t)
	}
}

// checks: tokens, and what Check must answer of them.
var checks = []struct {
	t    api.Token
	want api.Errno
}{
	{word("a"), api.OK},
	{word("z9"), api.OK},
	{word("when"), api.OK},
	{word(long(api.MaxName)), api.OK},
	{word(""), api.ErrSize},
	{word(long(api.MaxName + 1)), api.ErrSize},
	{word("A123456789a"), api.ErrSize},
	{word("0"), api.ErrForm},
	{word("1a"), api.ErrForm},
	{word("A"), api.ErrForm},
	{word("a b"), api.ErrForm},
	{word("a "), api.ErrForm},
	{word("é"), api.ErrForm},
	{word("<="), api.ErrForm},
	{api.Token{Kind: api.Word, Text: "a", Int: 1}, api.ErrForm},
	{api.Token{Kind: api.Word, Text: "a", Int: -1}, api.ErrForm},
	{api.Token{Kind: api.Word, Text: "", Int: 1}, api.ErrForm},
	{api.Token{Kind: api.Word, Text: long(api.MaxName + 1), Int: 1}, api.ErrForm},

	{number(0), api.OK},
	{number(1), api.OK},
	{number(api.MaxInt), api.OK},
	{number(-1), api.ErrRange},
	{number(-api.MaxInt), api.ErrRange},
	{number(api.MaxInt + 1), api.ErrRange},
	{number(math.MaxInt), api.ErrRange},
	{number(math.MinInt), api.ErrRange},
	{api.Token{Kind: api.Number, Text: "0"}, api.ErrForm},
	{api.Token{Kind: api.Number, Text: "5", Int: 5}, api.ErrForm},
	{api.Token{Kind: api.Number, Text: "\x00", Int: -1}, api.ErrForm},
	{api.Token{Kind: api.Number, Text: "a", Int: api.MaxInt + 1}, api.ErrForm},

	{quoted(""), api.OK},
	{quoted("a"), api.OK},
	{quoted("A b\n#\x00\xff"), api.OK},
	{quoted("'"), api.OK},
	{quoted(long(api.MaxText)), api.OK},
	{quoted(times(api.MaxText/2, "é")), api.OK},
	{quoted(long(api.MaxText + 1)), api.ErrSize},
	{quoted(times(api.MaxText/2, "é") + "a"), api.ErrSize},
	{quoted(`"`), api.ErrForm},
	{quoted(`"a`), api.ErrForm},
	{quoted(`a"`), api.ErrForm},
	{quoted(`a"b`), api.ErrForm},
	{quoted(long(api.MaxText) + `"`), api.ErrForm},
	{quoted(`"` + long(api.MaxText)), api.ErrForm},
	{api.Token{Kind: api.String, Int: 1}, api.ErrForm},
	{api.Token{Kind: api.String, Text: "a", Int: -1}, api.ErrForm},
	{api.Token{Kind: api.String, Text: long(api.MaxText + 1), Int: 1}, api.ErrForm},

	{mark(""), api.ErrForm},
	{mark("=="), api.ErrForm},
	{mark("=<"), api.ErrForm},
	{mark("/"), api.ErrForm},
	{mark("< "), api.ErrForm},
	{mark(" <"), api.ErrForm},
	{mark("<=="), api.ErrForm},
	{mark("{}"), api.ErrForm},
	{mark("!"), api.ErrForm},
	{mark("a"), api.ErrForm},
	{mark("0"), api.ErrForm},
	{mark(`"`), api.ErrForm},
	{mark("#"), api.ErrForm},
	{mark(long(3000)), api.ErrForm},

	{api.Token{}, api.ErrKind},
	{api.Token{Kind: -1, Text: "a"}, api.ErrKind},
	{api.Token{Kind: 5, Text: "a"}, api.ErrKind},
	{api.Token{Kind: math.MaxInt, Text: long(3000), Int: 1}, api.ErrKind},
	{api.Token{Kind: math.MinInt, Text: `"`, Int: -1}, api.ErrKind},
	{api.Token{Text: "<=", Int: 1}, api.ErrKind},
}

// TestCheck: P5.4: tokens that may be, and others, each with the error that is named first.
func TestCheck(t *testing.T) {
	for _, c := range checks {
		if e := Check(c.t); e != c.want {
			t.Errorf("Check(%+v) = %v, want %v", c.t, e, c.want)
		}
	}
	for _, m := range allMarks {
		if e := Check(mark(m)); e != api.OK {
			t.Errorf("Check(%+v) = %v", mark(m), e)
		}
		for _, n := range []int{1, -1, math.MaxInt, math.MinInt} {
			if e := Check(api.Token{Kind: api.Mark, Text: m, Int: n}); e != api.ErrForm {
				t.Errorf("Check(%q, %d) = %v, want %v", m, n, e, api.ErrForm)
			}
		}
	}
}

// TestCheckAllShort: P5.4: of all texts of one byte, and of two, just the marks that the chapter names are Marks.
func TestCheckAllShort(t *testing.T) {
	for i := range 256 * 257 {
		s := string([]byte{byte(i)})
		if i >= 256 {
			s += string([]byte{byte(i/256 - 1)})
		}
		if got, want := Check(mark(s)) == api.OK, slices.Contains(allMarks, s); got != want {
			t.Errorf("a Mark %q may be: %v, want %v", s, got, want)
		}
	}
}

// TestJoin: P5.5: each token as it is read, and a blank behind each one.
func TestJoin(t *testing.T) {
	for _, c := range []struct {
		l    []api.Token
		want string
		e    api.Errno
	}{
		{nil, "", api.OK},
		{[]api.Token{}, "", api.OK},
		{[]api.Token{word("a")}, "a ", api.OK},
		{[]api.Token{number(0)}, "0 ", api.OK},
		{[]api.Token{number(api.MaxInt)}, "1125899906842624 ", api.OK},
		{[]api.Token{quoted("")}, `"" `, api.OK},
		{[]api.Token{quoted("a\n \xff")}, "\"a\n \xff\" ", api.OK},
		{[]api.Token{mark("<=")}, "<= ", api.OK},
		{[]api.Token{mark("<"), mark("=")}, "< = ", api.OK},
		{[]api.Token{word("a"), number(5), quoted("x")}, `a 5 "x" `, api.OK},
		{[]api.Token{word("a"), word("b"), number(1), number(2)}, "a b 1 2 ", api.OK},
		{many(api.MaxTokens, word("a")), times(api.MaxTokens, "a "), api.OK},
		{many(api.MaxTokens+1, word("a")), "", api.ErrFull},
		{many(api.MaxTokens+1, api.Token{}), "", api.ErrFull},
		{many(api.MaxTokens+1, word(long(api.MaxName))), "", api.ErrFull},
		// 300 tokens of 10 bytes each, the last one as it is needed.
		{many(300, word(long(9))), times(300, long(9)+" "), api.OK},
		{append(many(299, word(long(9))), word(long(10))), "", api.ErrSize},
		{append(many(299, number(100000000)), quoted(long(7))), times(299, "100000000 ") + `"` + long(7) + `" `, api.OK},
		{append(many(299, number(100000000)), quoted(long(8))), "", api.ErrSize},
		{append(many(299, quoted(long(7))), mark("<="), mark("<="), number(123)), times(299, `"`+long(7)+`" `) + "<= <= 123 ", api.OK},
		{append(many(299, quoted(long(7))), mark("<="), mark("<="), number(1234)), "", api.ErrSize},
		{many(api.MaxTokens, quoted(long(api.MaxText))), "", api.ErrSize},
		// The first token that may not be tells, ahead of the size.
		{[]api.Token{{}}, "", api.ErrKind},
		{[]api.Token{word("a"), word(""), {}}, "", api.ErrSize},
		{[]api.Token{word("a"), {}, word("")}, "", api.ErrKind},
		{[]api.Token{number(-1), quoted(`"`)}, "", api.ErrRange},
		{[]api.Token{quoted(`"`), number(-1)}, "", api.ErrForm},
		{append(many(api.MaxTokens-1, quoted(long(api.MaxText))), number(-1)), "", api.ErrRange},
		{append(many(api.MaxTokens-1, quoted(long(api.MaxText))), mark("==")), "", api.ErrForm},
	} {
		if got, e := Join(c.l); got != c.want || e != c.e {
			t.Errorf("Join(%d tokens) = %.200q, %v, want %.200q, %v", len(c.l), got, e, c.want, c.e)
		}
	}
}

// TestJoinRefuses: P5.5: what Check refuses of a token, Join refuses wherever it stands.
func TestJoinRefuses(t *testing.T) {
	for _, c := range checks {
		for i := range 3 {
			l := many(3, word("a"))
			l[i] = c.t
			if s, e := Join(l); e != c.want || (s == "") != (e != api.OK) {
				t.Errorf("Join(%+v) = %q, %v, want %v", l, s, e, c.want)
			}
		}
	}
}

// TestUnchanged: Join changes none of the tokens that it is given, nor the room behind them; what Cut answers is its own each time.
func TestUnchanged(t *testing.T) {
	for _, bad := range []api.Token{word("b"), {}, number(-1), quoted(`"`), mark("==")} {
		room := []api.Token{word("a"), number(5), quoted("x"), mark("<="), bad, word("spare"), {Kind: 9, Text: "spare", Int: 9}}
		kept := slices.Clone(room)
		Join(room[:5])
		if !slices.Equal(room, kept) {
			t.Errorf("Join left %+v of %+v", room, kept)
		}
	}
	const s = "a 5 \"x\" <="
	one, _, _ := Cut(s)
	other, _, _ := Cut(s)
	want := slices.Clone(other)
	for i := range one[:cap(one)] {
		one[:cap(one)][i] = api.Token{}
	}
	if !slices.Equal(other, want) {
		t.Errorf("Cut(%q) shares its tokens: %+v, want %+v", s, other, want)
	}
	cut{s, want, 0, api.OK}.try(t)
}

// The chapter's words as patterns, for slowCut.
var (
	gap        = regexp.MustCompile(`^(?:[ \t\n\r]|#[^\n]*)*`)
	aWord      = regexp.MustCompile(`^[a-z][a-z0-9]*`)
	someDigits = regexp.MustCompile(`^[0-9]+`)
	zeroFirst  = regexp.MustCompile(`^0[0-9]`)
	letterNext = regexp.MustCompile(`^[0-9]+[a-z]`)
	aString    = regexp.MustCompile(`^"[^"]*"`)
	aMark      = regexp.MustCompile(`^(?:[<>/]=|[][{}():;,.=<>-])`)
)

// slowToken: the token that a text begins with, and its text there, by the patterns.
func slowToken(s string) (api.Token, string, api.Errno) {
	if w := aWord.FindString(s); w != "" {
		if len(w) > 10 {
			return api.Token{}, "", api.ErrSize
		}
		return word(w), w, api.OK
	}
	if w := someDigits.FindString(s); w != "" {
		n, _ := new(big.Int).SetString(w, 10)
		if n.Cmp(big.NewInt(1<<50)) > 0 {
			return api.Token{}, "", api.ErrRange
		}
		if zeroFirst.MatchString(s) || letterNext.MatchString(s) {
			return api.Token{}, "", api.ErrForm
		}
		return number(int(n.Int64())), w, api.OK
	}
	if s[0] == '"' {
		w := aString.FindString(s)
		if w == "" {
			return api.Token{}, "", api.ErrShort
		}
		if len(w) > 20+2 {
			return api.Token{}, "", api.ErrSize
		}
		return quoted(w[1 : len(w)-1]), w, api.OK
	}
	if w := aMark.FindString(s); w != "" {
		return mark(w), w, api.OK
	}
	return api.Token{}, "", api.ErrForm
}

// slowCut: what Cut must answer of a text of at most MaxSource bytes and MaxTokens tokens.
func slowCut(s string) cut {
	var l []api.Token
	for rest := s; ; {
		rest = rest[len(gap.FindString(rest)):]
		if rest == "" {
			return cut{s, l, 0, api.OK}
		}
		t, w, e := slowToken(rest)
		if e != api.OK {
			return cut{s, nil, len(s) - len(rest), e}
		}
		l, rest = append(l, t), rest[len(w):]
	}
}

// pieces of which texts are drawn.
var pieces = []string{
	" ", "\t", "\n", "\r", "#", "# x\n", "\"", "\"a\"", "\"\"", "a", "b9", "when", "abcdefghij", "k", "0", "1", "10", "1125899906842624",
	"1125899906842625", "112589990684262", "99", "<", ">", "=", "<=", ">=", "/=", "/", "-", ".", ",", ";", ":", "(", ")", "[", "]", "{", "}",
	"A", "é", "\xff", "\x00", "_", "'", "\v", "\f",
}

// TestDrawn: P5.1 to P5.3, P5.5: drawn texts are cut as the patterns say; what is joined is cut into the same tokens.
func TestDrawn(t *testing.T) {
	r := rand.New(rand.NewSource(5))
	for i := range 40000 {
		// Wrong pieces stand last: with fewer of them more texts are cut to their end.
		most := []int{len(pieces), len(pieces) - 8, 6}[i%3]
		var b strings.Builder
		for range r.Intn(14) {
			b.WriteString(pieces[r.Intn(most)])
			if r.Intn(2) == 0 {
				b.WriteByte(' ')
			}
		}
		want := slowCut(b.String())
		want.try(t)
		s, e := Join(want.want)
		if e != api.OK {
			t.Fatalf("Join(%+v) = %v", want.want, e)
		}
		cut{s, want.want, 0, api.OK}.try(t)
	}
}

// draw a token that may be.
func draw(r *rand.Rand) api.Token {
	switch r.Intn(4) {
	case 0:
		b := []byte{byte('a' + r.Intn(26))}
		for range r.Intn(api.MaxName) {
			b = append(b, "abcxyz0189"[r.Intn(10)])
		}
		return word(string(b))
	case 1:
		return number(r.Intn(api.MaxInt+1) >> r.Intn(51))
	case 2:
		b := make([]byte, r.Intn(api.MaxText+1))
		for i := range b {
			if b[i] = byte(r.Intn(256)); b[i] == '"' {
				b[i] = '#'
			}
		}
		return quoted(string(b))
	}
	return mark(allMarks[r.Intn(len(allMarks))])
}

// TestThereAndBack: what is joined is cut into the same tokens, up to just MaxSource bytes.
func TestThereAndBack(t *testing.T) {
	r := rand.New(rand.NewSource(55))
	full := 0
	for range 3000 {
		l := make([]api.Token, r.Intn(400))
		size := 0
		for i := range l {
			l[i] = draw(r)
			switch l[i].Kind {
			case api.Number:
				size += len(strconv.Itoa(l[i].Int)) + 1
			case api.String:
				size += len(l[i].Text) + 3
			default:
				size += len(l[i].Text) + 1
			}
		}
		s, e := Join(l)
		if size > api.MaxSource {
			full++
			if s != "" || e != api.ErrSize {
				t.Fatalf("Join(%d bytes) = %q, %v", size, s, e)
			}
			continue
		}
		if len(s) != size || e != api.OK {
			t.Fatalf("Join(%+v) = %q, %v", l, s, e)
		}
		cut{s, l, 0, api.OK}.try(t)
	}
	if full == 0 || full == 3000 {
		t.Errorf("%d of the lists are too long", full)
	}
}

// FuzzCut: no text makes Cut panic, and none is cut otherwise than the patterns say.
func FuzzCut(f *testing.F) {
	f.Add("when x:a # n\n<= 12 \"s\"")
	f.Add("a 01")
	f.Add("\"a")
	f.Fuzz(func(t *testing.T, s string) {
		if len(s) > api.MaxSource {
			cut{s, nil, 0, api.ErrSize}.try(t)
			return
		}
		if want := slowCut(s); len(want.want) <= api.MaxTokens && want.place < api.MaxTokens {
			want.try(t)
		}
	})
}
