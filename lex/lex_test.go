package lex_test

import (
	"math"
	"math/big"
	"math/rand"
	"regexp"
	"slices"
	"strconv"
	"strings"
	"testing"

	"weathercock/api"
	"weathercock/lex"
)

// words are those of the chapter.
const words = "select distinct from join left semi on where group by union all order desc and or not is null true false count sum min max"

// signs are those of the chapter.
const signs = "<= >= <> < > = + - * / ( ) , ."

func word(s string, at int) lex.Token { return lex.Token{Kind: lex.Word, S: s, At: at} }

func name(s string, at int) lex.Token { return lex.Token{Kind: lex.Name, S: s, At: at} }

func number(n, at int) lex.Token { return lex.Token{Kind: lex.Number, N: n, At: at} }

func text(s string, at int) lex.Token { return lex.Token{Kind: lex.Text, S: s, At: at} }

func param(n, at int) lex.Token { return lex.Token{Kind: lex.Param, N: n, At: at} }

func sign(s string, at int) lex.Token { return lex.Token{Kind: lex.Sign, S: s, At: at} }

// brief is s as it is written, without the middle of a long one.
func brief(s string) string {
	if len(s) <= 200 {
		return strconv.Quote(s)
	}
	return strconv.Quote(s[:100]) + ".." + strconv.Quote(s[len(s)-60:]) + ", of " + strconv.Itoa(len(s)) + " bytes"
}

// is checks that s has exactly these tokens.
func is(t *testing.T, s string, want ...lex.Token) {
	t.Helper()
	l, e, at := lex.Lex(s)
	if !slices.Equal(l, want) || e != api.OK || at != 0 {
		t.Errorf("%s: %v, error %d at %d, want %v", brief(s), l, e, at, want)
	}
}

// fails checks that s has that error, there, and no tokens.
func fails(t *testing.T, s string, want api.Errno, wantAt int) {
	t.Helper()
	l, e, at := lex.Lex(s)
	if len(l) != 0 || e != want || at != wantAt {
		t.Errorf("%s: %v, error %d at %d, want error %d at %d", brief(s), l, e, at, want, wantAt)
	}
}

// TestExamples: P7.1, the chapter's examples.
func TestExamples(t *testing.T) {
	is(t, "SELECT a<=1", word("select", 0), name("a", 7), sign("<=", 8), number(1, 10))
	is(t, "'it''s'", text("it's", 0))
	fails(t, "'a", api.ErrLex, 2)
	fails(t, "a;", api.ErrLex, 1)
}

// TestKinds: P7.1, the numbers of the kinds.
func TestKinds(t *testing.T) {
	l, e, _ := lex.Lex("on a 1 'a' $1 =")
	if e != api.OK || len(l) != 6 {
		t.Fatal(l, e)
	}
	for i, x := range l {
		if x.Kind != i+1 {
			t.Error(i, x)
		}
	}
}

// TestQuery: P7.1, a whole query, over several lines.
func TestQuery(t *testing.T) {
	is(t, "Select DISTINCT t.a_1, Count(*)\r\n\tFROM Tab T -- 5\nWHERE x<>$2 and y='B''' ",
		word("select", 0), word("distinct", 7), name("t", 16), sign(".", 17), name("a_1", 18), sign(",", 21),
		word("count", 23), sign("(", 28), sign("*", 29), sign(")", 30),
		word("from", 34), name("tab", 39), name("t", 43), sign("-", 45), sign("-", 46), number(5, 48),
		word("where", 50), name("x", 56), sign("<>", 57), param(2, 59), word("and", 62), name("y", 66), sign("=", 67), text("B'", 68))
}

// TestNothing: P7.1, a query without tokens is not an error.
func TestNothing(t *testing.T) {
	for _, s := range []string{"", " ", "\t", "\n", "\r", " \t\n\r \r\n\t ", strings.Repeat(" ", api.MaxSQL), strings.Repeat("\n\t\r ", api.MaxSQL/4)} {
		is(t, s)
	}
}

// TestBlanks: P7.1, the four blank characters are skipped ahead of, between and behind tokens; no others are.
func TestBlanks(t *testing.T) {
	for _, b := range []string{" ", "\t", "\n", "\r", "  ", "\r\n", " \t\r\n "} {
		n := len(b)
		is(t, b+"a", name("a", n))
		is(t, "a"+b, name("a", 0))
		is(t, b+"a"+b+"b"+b, name("a", n), name("b", 2*n+1))
		is(t, "1"+b+"2", number(1, 0), number(2, n+1))
		is(t, "<"+b+"=", sign("<", 0), sign("=", n+1))
		is(t, "'a'"+b+"'b'", text("a", 0), text("b", n+3))
		fails(t, "$"+b+"1", api.ErrLex, 0)
	}
	for _, b := range []string{"\v", "\f", "\x00", "\x1f", "\x08", "\x0e", "\x7f", "\x85", "\xa0", "\u00a0", "\u2003", "\ufeff"} {
		fails(t, "a "+b+" b", api.ErrLex, 2)
	}
}

// TestBytes: P7.1, each byte as the first one of a token, behind another token, and each one behind a letter.
func TestBytes(t *testing.T) {
	for c := range 256 {
		s := string([]byte{byte(c)})
		behind := "= " + s + "1"
		switch {
		case strings.Contains(" \t\n\r", s):
			is(t, behind, sign("=", 0), number(1, 3))
		case regexp.MustCompile(`^[a-zA-Z]$`).MatchString(s):
			is(t, behind, sign("=", 0), name(strings.ToLower(s)+"1", 2))
		case regexp.MustCompile(`^[0-9]$`).MatchString(s):
			is(t, behind, sign("=", 0), number(10*(c-'0')+1, 2))
		case s == "'":
			fails(t, behind, api.ErrLex, 4)
		case s == "$":
			is(t, behind, sign("=", 0), param(1, 2))
		case strings.Contains("<>=+-*/(),.", s):
			is(t, behind, sign("=", 0), sign(s, 2), number(1, 3))
		default:
			fails(t, behind, api.ErrLex, 2)
		}
		if regexp.MustCompile(`^[a-zA-Z0-9_]$`).MatchString(s) {
			is(t, "Q"+s, name("q"+strings.ToLower(s), 0))
		} else if l, e, at := lex.Lex("Q" + s); e != api.OK && at != 1 && at != 2 || e == api.OK && l[0] != name("q", 0) {
			t.Error(c, l, e, at)
		}
	}
}

// TestWords: P7.1, each word in either case, and names that are nearly words.
func TestWords(t *testing.T) {
	if len(strings.Fields(words)) != 25 {
		t.Fatal(len(strings.Fields(words)))
	}
	for _, w := range strings.Fields(words) {
		up := strings.ToUpper(w)
		is(t, w, word(w, 0))
		is(t, " "+up, word(w, 1))
		is(t, up[:1]+w[1:], word(w, 0))
		is(t, w[:1]+up[1:], word(w, 0))
		is(t, w+"_", name(w+"_", 0))
		is(t, w+"1", name(w+"1", 0))
		is(t, "x"+up, name("x"+w, 0))
		is(t, w+" "+w, word(w, 0), word(w, len(w)+1))
		is(t, w+"(", word(w, 0), sign("(", len(w)))
		is(t, "'"+w+"'", text(w, 0))
	}
	for _, s := range []string{"insert", "update", "inner", "outer", "right", "asc", "as", "having", "avg", "in", "exists", "between", "like", "limit", "cross", "selec", "selects", "b", "i", "o", "orde", "nul", "word"} {
		is(t, s, name(s, 0))
	}
}

// TestNames: P7.1, what a name goes on with, and where it ends.
func TestNames(t *testing.T) {
	is(t, "abcxyz ABCXYZ a09_", name("abcxyz", 0), name("abcxyz", 7), name("a09_", 14))
	is(t, "a_", name("a_", 0))
	is(t, "Z__9", name("z__9", 0))
	is(t, "a.B", name("a", 0), sign(".", 1), name("b", 2))
	is(t, "a'b'c", name("a", 0), text("b", 1), name("c", 4))
	is(t, "a$1b", name("a", 0), param(1, 1), name("b", 3))
	is(t, "a-b", name("a", 0), sign("-", 1), name("b", 2))
	for _, s := range []string{"_", "_a", "__", "_1"} {
		fails(t, s, api.ErrLex, 0)
	}
	// Letters to others, some of which have a lower case that is one of the alphabet, such as the signs of kelvin and of a dotted I.
	for _, s := range []string{"é", "É", "\u212a", "\u0130", "\u017f", "ß", "а", "日", "\xe9", "\x80", "\xff"} {
		fails(t, s, api.ErrLex, 0)
		fails(t, "a"+s, api.ErrLex, 1)
		fails(t, "a1 "+s+"b", api.ErrLex, 3)
	}
}

// TestLongNames: P7.1, 20 bytes and one more.
func TestLongNames(t *testing.T) {
	for _, c := range []string{"a", "Z", "a9", "a_", "Ab_9"} {
		s := strings.Repeat(c, 20)
		is(t, s[:19], name(strings.ToLower(s[:19]), 0))
		is(t, s[:20], name(strings.ToLower(s[:20]), 0))
		is(t, " "+s[:20]+" a", name(strings.ToLower(s[:20]), 1), name("a", 22))
		is(t, s[:20]+"=", name(strings.ToLower(s[:20]), 0), sign("=", 20))
		fails(t, s[:20]+"1", api.ErrLong, 0)
		fails(t, s[:20]+"_", api.ErrLong, 0)
		fails(t, s[:20]+"A", api.ErrLong, 0)
		fails(t, "b, "+s[:20]+"x;", api.ErrLong, 3)
		fails(t, "\n"+strings.Repeat(c, 400), api.ErrLong, 1)
		fails(t, s[:20]+";", api.ErrLex, 20)
	}
}

// TestNumbers: P7.1, all digits that follow, up to the greatest number.
func TestNumbers(t *testing.T) {
	for _, n := range []int{0, 1, 9, 10, 12, 99, 100, 1234567890, math.MaxInt32, math.MaxInt32 + 1, math.MaxUint32 + 1, 1e18, math.MaxInt - 1, math.MaxInt} {
		s := strconv.Itoa(n)
		is(t, s, number(n, 0))
		is(t, " 0"+s, number(n, 1))
		is(t, strings.Repeat("0", 1000)+s, number(n, 0))
	}
	is(t, "000", number(0, 0))
	is(t, "08 09", number(8, 0), number(9, 3))
	is(t, "12ab", number(12, 0), name("ab", 2))
	is(t, "0x1F", number(0, 0), name("x1f", 1))
	is(t, "1e5", number(1, 0), name("e5", 1))
	is(t, "1.5", number(1, 0), sign(".", 1), number(5, 2))
	is(t, ".5", sign(".", 0), number(5, 1))
	is(t, "-5+6", sign("-", 0), number(5, 1), sign("+", 2), number(6, 3))
	is(t, "5'a'", number(5, 0), text("a", 1))
	is(t, "5and", number(5, 0), word("and", 1))
	is(t, "-9223372036854775807", sign("-", 0), number(math.MaxInt, 1))
	fails(t, "1_0", api.ErrLex, 1)
	fails(t, "5_", api.ErrLex, 1)
	fails(t, "٣", api.ErrLex, 0)
	fails(t, "3٣", api.ErrLex, 1)
}

// TestLongNumbers: P7.1, values that are greater than the greatest number, some of which wrap round to small ones.
func TestLongNumbers(t *testing.T) {
	for _, s := range []string{
		"9223372036854775808", "9223372036854775809", "9223372036854775810", "9999999999999999999", "10000000000000000000",
		"18446744073709551615", "18446744073709551616", "18446744073709551617", "27670116110564327424", "92233720368547758070",
		"340282366920938463463374607431768211456", "340282366920938463463374607431768211457", "1" + strings.Repeat("0", 64), "1" + strings.Repeat("0", 1500),
	} {
		fails(t, s, api.ErrLong, 0)
		fails(t, "000"+s, api.ErrLong, 0)
		fails(t, "a + "+s, api.ErrLong, 4)
		fails(t, "- "+s+"_", api.ErrLong, 2)
	}
}

// TestTexts: P7.1, what is between, with a pair for one; any byte may be there.
func TestTexts(t *testing.T) {
	for _, x := range []struct{ s, want string }{
		{"''", ""}, {"'a'", "a"}, {"' '", " "}, {"'  a b '", "  a b "}, {"'Ab'", "Ab"}, {"'SELECT'", "SELECT"},
		{"''''", "'"}, {"''''''", "''"}, {"''''''''", "'''"}, {"'a'''", "a'"}, {"'''a'", "'a"}, {"'a''b'", "a'b"}, {"'a''''b'", "a''b"}, {"'''a'''", "'a'"},
		{"'\"'", "\""}, {"'\\'", "\\"}, {"'\\n'", "\\n"}, {"'\n'", "\n"}, {"'\t\r\n'", "\t\r\n"}, {"'$1'", "$1"}, {"'--;'", "--;"}, {"'%_!'", "%_!"},
		{"'é'", "é"}, {"'日本'", "日本"}, {"'\xff\x00\x80'", "\xff\x00\x80"}, {"'\xe9'", "\xe9"}, {"'\u2019'", "\u2019"},
	} {
		is(t, x.s, text(x.want, 0))
		is(t, " "+x.s+"1", text(x.want, 1), number(1, 1+len(x.s)))
		is(t, x.s+" "+x.s, text(x.want, 0), text(x.want, 1+len(x.s)))
	}
	is(t, "'a' 'b'", text("a", 0), text("b", 4))
	is(t, "a='b'and", name("a", 0), sign("=", 1), text("b", 2), word("and", 5))
	for c := range 256 {
		if s := string([]byte{byte(c)}); s != "'" {
			is(t, "'"+s+"'", text(s, 0))
		}
	}
}

// TestTextEnds: P7.1, a text without its end is told at the end of the query, however long it is.
func TestTextEnds(t *testing.T) {
	for _, s := range []string{
		"'", "'a", "'''", "'''''", "'a''", "'a''b", "'a''''", "''''a'", "'a' '", "a '", "'a\n\n", "'a ;", "1 'a''", "$1'", "'\xff",
		"'" + strings.Repeat("a", 40), "'" + strings.Repeat("a", 41), "'" + strings.Repeat("a", 1000), "'" + strings.Repeat("''", 41), strings.Repeat("'", 1999),
	} {
		fails(t, s, api.ErrLex, len(s))
	}
}

// TestLongTexts: P7.1, 40 bytes of S and one more, where a pair is one of them.
func TestLongTexts(t *testing.T) {
	for _, x := range []struct {
		unit string
		size int
	}{{"a", 1}, {" ", 1}, {"''", 1}, {"é", 2}, {"\x00", 1}, {"\xff", 1}, {"日a", 4}, {"''a", 2}, {"a''bcd", 5}} {
		most := strings.Repeat(x.unit, 40/x.size)
		want := strings.ReplaceAll(most, "''", "'")
		if len(want) != 40 {
			t.Fatal(x, len(want))
		}
		is(t, "'"+most+"'", text(want, 0))
		is(t, "= '"+most+"'.", sign("=", 0), text(want, 2), sign(".", 4+len(most)))
		for _, more := range []string{"a", "''", "\n", "\xff", "é", strings.Repeat("b", 1000)} {
			fails(t, "'"+most+more+"'", api.ErrLong, 0)
			fails(t, "a '"+more+most+"';", api.ErrLong, 2)
		}
	}
}

// TestParams: P7.1, which numbers a parameter may have.
func TestParams(t *testing.T) {
	for n := 1; n <= api.MaxParams; n++ {
		s := strconv.Itoa(n)
		is(t, "$"+s, param(n, 0))
		is(t, " $0"+s, param(n, 1))
		is(t, "$"+strings.Repeat("0", 1000)+s, param(n, 0))
		is(t, "$"+s+"a", param(n, 0), name("a", 2))
		is(t, "$"+s+"$1", param(n, 0), param(1, 2))
		is(t, "$"+s+".5", param(n, 0), sign(".", 2), number(5, 3))
		is(t, "a=$"+s, name("a", 0), sign("=", 1), param(n, 2))
	}
	for _, s := range []string{"$0", "$00", "$5", "$05", "$10", "$11", "$40", "$41", "$1000", "$9223372036854775807", "$9223372036854775808", "$18446744073709551617", "$4294967297", "$340282366920938463463374607431768211457", "$1" + strings.Repeat("0", 64), "$0a", "$5;", "$6$"} {
		fails(t, s, api.ErrLong, 0)
		fails(t, "a + "+s, api.ErrLong, 4)
	}
	for _, s := range []string{"$", "$ ", "$ 1", "$$1", "$a", "$-1", "$+1", "$'1'", "$_1", "$;", "$(1)", "$\x001", "$٣"} {
		fails(t, s, api.ErrLex, 0)
		fails(t, "a + "+s, api.ErrLex, 4)
	}
}

// TestSigns: P7.1, each sign, and each pair of signs with nothing and with a blank between.
func TestSigns(t *testing.T) {
	for _, a := range strings.Fields(signs) {
		n := len(a)
		is(t, a, sign(a, 0))
		is(t, "x"+a+"1", name("x", 0), sign(a, 1), number(1, 1+n))
		for _, b := range strings.Fields(signs) {
			is(t, a+" "+b, sign(a, 0), sign(b, n+1))
			if two := a + b[:1]; two == "<=" || two == ">=" || two == "<>" {
				continue
			}
			is(t, a+b, sign(a, 0), sign(b, n))
		}
	}
	is(t, "<==", sign("<=", 0), sign("=", 2))
	is(t, ">==", sign(">=", 0), sign("=", 2))
	is(t, "<>=", sign("<>", 0), sign("=", 2))
	is(t, "<=>", sign("<=", 0), sign(">", 2))
	is(t, "<<=", sign("<", 0), sign("<=", 1))
	is(t, ">>=", sign(">", 0), sign(">=", 1))
	is(t, "<>>", sign("<>", 0), sign(">", 2))
	is(t, "<<>", sign("<", 0), sign("<>", 1))
	is(t, "><", sign(">", 0), sign("<", 1))
	is(t, "=<", sign("=", 0), sign("<", 1))
	is(t, "=>", sign("=", 0), sign(">", 1))
	for _, s := range []string{"!", "!=", "%", "&", "|", ":", ";", "?", "@", "[", "]", "^", "`", "{", "}", "~", "\"", "\\", "#"} {
		fails(t, s, api.ErrLex, 0)
		fails(t, "<"+s, api.ErrLex, 1)
	}
}

// TestLongQueries: P7.1, a query of 2000 bytes, and one of more, which is told ahead of all else.
func TestLongQueries(t *testing.T) {
	for _, s := range []string{strings.Repeat(" ", 1999) + "a", "a" + strings.Repeat(" ", 1999)} {
		is(t, s, name("a", strings.Index(s, "a")))
		fails(t, s+" ", api.ErrLong, 0)
		fails(t, " "+s, api.ErrLong, 0)
	}
	pad := strings.Repeat(" ", 1990)
	is(t, pad+"'a''b' $1=", text("a'b", 1990), param(1, 1997), sign("=", 1999))
	fails(t, pad+"abcdefghi;", api.ErrLex, 1999)
	fails(t, pad+"'a", api.ErrLex, 1992)
}

// TestManyTokens: P7.1, 400 tokens, and one more of each kind, which is told where it begins.
func TestManyTokens(t *testing.T) {
	for _, x := range []lex.Token{word("on", 0), name("b", 0), number(7, 0), text("'", 0), param(4, 0), sign("<=", 0)} {
		written := map[int]string{lex.Word: "on", lex.Name: "b", lex.Number: "7", lex.Text: "''''", lex.Param: "$4", lex.Sign: "<="}[x.Kind] + " "
		most := strings.Repeat(written, 395)
		if x.Kind == lex.Text {
			most += "+++++"
		} else {
			most += strings.Repeat(written, 5)
		}
		l, e, at := lex.Lex(most)
		if len(l) != 400 || e != api.OK || at != 0 {
			t.Fatal(x, len(l), e, at)
		}
		for i, y := range l[:395] {
			if x.At = i * len(written); y != x {
				t.Fatal(i, x, y)
			}
		}
		if l, e, _ := lex.Lex(most + " \n\t\r"); len(l) != 400 || e != api.OK {
			t.Error("blanks count as tokens", len(l), e)
		}
	}
	most := strings.Repeat("+", 400)
	for _, s := range []string{"on", "b", "7", "''", "'a'", "$4", "<=", "<", ".", "+++", "a;", "1 '", "b$", "a 99999999999999999999"} {
		fails(t, most+s, api.ErrLong, 400)
		fails(t, most+" \n"+s, api.ErrLong, 402)
	}
}

// TestManyTokensWithFault: P7.1, a token beyond the most that has an error of its own tells that one.
func TestManyTokensWithFault(t *testing.T) {
	most := strings.Repeat("+", 400) + " "
	for _, s := range []string{";", "$", "$a", "_", "\x00", "!="} {
		fails(t, most+s, api.ErrLex, 401)
		fails(t, most+s+" a", api.ErrLex, 401)
		fails(t, most+"a "+s, api.ErrLong, 401)
	}
	for _, s := range []string{"'", "'a", "'a''", "'" + strings.Repeat("b", 50)} {
		fails(t, most+s, api.ErrLex, 401+len(s))
		fails(t, most+"a "+s, api.ErrLong, 401)
	}
	for _, s := range []string{"$5", "$0", "9223372036854775808", strings.Repeat("a", 21), "'" + strings.Repeat("a", 41) + "'"} {
		fails(t, most+s, api.ErrLong, 401)
	}
}

// TestFirstError: P7.1, of several errors the first one from the beginning is told.
func TestFirstError(t *testing.T) {
	faults := []struct {
		s  string
		e  api.Errno
		at int
	}{
		{";", api.ErrLex, 0}, {"$", api.ErrLex, 0}, {"$9", api.ErrLong, 0}, {strings.Repeat("a", 21), api.ErrLong, 0}, {"9999999999999999999", api.ErrLong, 0},
		{"'" + strings.Repeat("c", 41) + "'", api.ErrLong, 0},
	}
	for _, a := range faults {
		for _, b := range faults {
			fails(t, a.s+" "+b.s, a.e, a.at)
			fails(t, "x = "+a.s+" "+b.s+" '", a.e, 4)
		}
		fails(t, a.s+strings.Repeat(" a", 500), a.e, a.at)
		s := "'d' '" + strings.ReplaceAll(a.s, "'", "''")
		fails(t, s, api.ErrLex, len(s))
	}
	fails(t, strings.Repeat("; ", 1001), api.ErrLong, 0)
}

// model is the chapter's rules as a pattern for each kind.
type model struct {
	tokens []lex.Token
	e      api.Errno
	at     int
}

var (
	blankForm  = regexp.MustCompile(`^[\x20\x09\x0a\x0d]*`)
	nameForm   = regexp.MustCompile(`^[a-zA-Z][a-zA-Z0-9_]*`)
	numberForm = regexp.MustCompile(`^[0-9]+`)
	textForm   = regexp.MustCompile(`^'(?:''|[^'])*`) // without the ' that ends it
	paramForm  = regexp.MustCompile(`^\$[0-9]*`)
	signForm   = regexp.MustCompile(`^(?:<=|>=|<>|[<>=+\-*/(),.])`)
)

// modelOf goes through s by the patterns.
func modelOf(s string) model {
	if len(s) > 2000 {
		return model{e: api.ErrLong}
	}
	var m model
	for at := len(blankForm.FindString(s)); at < len(s); {
		x, size, e, off := first(s[at:])
		if e == api.OK && len(m.tokens) == 400 {
			e, off = api.ErrLong, 0
		}
		if e != api.OK {
			return model{e: e, at: at + off}
		}
		x.At = at
		m.tokens = append(m.tokens, x)
		at += size
		at += len(blankForm.FindString(s[at:]))
	}
	return m
}

// first is the token at the beginning of s, its size, and its error with how far behind the beginning that is.
func first(s string) (lex.Token, int, api.Errno, int) {
	if w := nameForm.FindString(s); w != "" {
		x := name(strings.ToLower(w), 0)
		if slices.Contains(strings.Fields(words), x.S) {
			x.Kind = lex.Word
		}
		return x, len(w), longIf(len(w) > 20), 0
	}
	if w := numberForm.FindString(s); w != "" {
		n, _ := new(big.Int).SetString(w, 10)
		return number(int(n.Int64()), 0), len(w), longIf(!n.IsInt64()), 0
	}
	if w := textForm.FindString(s); w != "" {
		if len(w) == len(s) {
			return lex.Token{}, 0, api.ErrLex, len(s)
		}
		inner := strings.ReplaceAll(w[1:], "''", "'")
		return text(inner, 0), len(w) + 1, longIf(len(inner) > 40), 0
	}
	if w := paramForm.FindString(s); w != "" {
		if w == "$" {
			return lex.Token{}, 0, api.ErrLex, 0
		}
		n, _ := new(big.Int).SetString(w[1:], 10)
		return param(int(n.Int64()), 0), len(w), longIf(n.Cmp(big.NewInt(1)) < 0 || n.Cmp(big.NewInt(4)) > 0), 0
	}
	if w := signForm.FindString(s); w != "" {
		return sign(w, 0), len(w), api.OK, 0
	}
	return lex.Token{}, 0, api.ErrLex, 0
}

func longIf(long bool) api.Errno {
	if long {
		return api.ErrLong
	}
	return api.OK
}

// like checks that Lex tells of s what the model tells; the first query that differs ends the test.
func like(t *testing.T, s string) {
	t.Helper()
	m := modelOf(s)
	if m.e == api.OK {
		is(t, s, m.tokens...)
	} else {
		fails(t, s, m.e, m.at)
	}
	if t.Failed() {
		t.FailNow()
	}
}

// TestPairs: P7.1, all queries of one byte and of two, and of three where the first one is of a kind.
func TestPairs(t *testing.T) {
	for a := range 256 {
		like(t, string([]byte{byte(a)}))
		for b := range 256 {
			like(t, string([]byte{byte(a), byte(b)}))
		}
	}
	for _, c := range "a_1'$<. " {
		for a := range 256 {
			for _, b := range "Zz_09'$<=>.\t;\x00" {
				like(t, string([]byte{byte(c), byte(a), byte(b)}))
			}
		}
	}
}

// TestShort: P7.1, all queries of up to six bytes of a few.
func TestShort(t *testing.T) {
	const few = "a1'$<> "
	l := []string{""}
	for range 6 {
		var next []string
		for _, s := range l {
			for i := range len(few) {
				next = append(next, s+few[i:i+1])
			}
		}
		for _, s := range next {
			like(t, s)
		}
		l = next
	}
}

// TestRandom: P7.1, long queries of pieces that are tokens, parts of some, and none.
func TestRandom(t *testing.T) {
	r := rand.New(rand.NewSource(7))
	pieces := append(strings.Fields(words+" "+signs), "a", "Ab_9", strings.Repeat("q", 20), strings.Repeat("q", 10), "0", "12", "007", "9223372036854775807", "922337203685477580", "$1", "$4", "$", "$03", "'", "''", "'a'", "'it''s'", "'"+strings.Repeat("é", 20)+"'", " ", " ", " ", "\n", "\t", "\r", "_", ";", "\xff")
	for range 20000 {
		var s strings.Builder
		rough := r.Intn(len(pieces)) // how many of the pieces are taken
		for range r.Intn(500) {
			s.WriteString(pieces[r.Intn(rough+1)])
			if r.Intn(3) > 0 {
				s.WriteString(" ")
			}
		}
		like(t, s.String())
	}
}

// TestRepeats: P7.1, P1, queries at and beyond the limits of bytes and of tokens, of one byte alone or of two.
func TestRepeats(t *testing.T) {
	for c := range 256 {
		for _, n := range []int{20, 21, 40, 41, 42, 43, 399, 400, 401, 1999, 2000, 2001, 100000} {
			like(t, strings.Repeat(string([]byte{byte(c)}), n))
			like(t, strings.Repeat(string([]byte{byte(c), ' '}), n))
			like(t, "'"+strings.Repeat(string([]byte{byte(c)}), n)+"'")
		}
	}
}

// TestZeroFields: P5, a number or a parameter has no text, and what has a text has no number.
func TestZeroFields(t *testing.T) {
	l, e, _ := lex.Lex("on b 12 '12' $3 + 0 ''")
	if e != api.OK || len(l) != 8 {
		t.Fatal(l, e)
	}
	for _, x := range l {
		if counted := x.Kind == lex.Number || x.Kind == lex.Param; counted && x.S != "" || !counted && x.N != 0 {
			t.Error(x)
		}
	}
}

// TestMemory: P3, P4, each call returns tokens of its own, the same ones.
func TestMemory(t *testing.T) {
	for _, s := range []string{"a", "SELECT a FROM t WHERE b = 'x' AND c < $1", strings.Repeat("a ", 400)} {
		first, _, _ := lex.Lex(s)
		want := slices.Clone(first)
		second, _, _ := lex.Lex(s)
		for i := range first[:cap(first)] {
			first[:cap(first)][i] = lex.Token{Kind: 99, N: 99, At: 99, S: "99"}
		}
		if !slices.Equal(second, want) {
			t.Error("answers share memory", second)
		}
		is(t, s, want...)
	}
}

// TestAfterError: P4, a call hangs on no other.
func TestAfterError(t *testing.T) {
	for range 3 {
		fails(t, "a 'b", api.ErrLex, 4)
		is(t, "a 'b'", name("a", 0), text("b", 2))
		fails(t, strings.Repeat("a ", 401), api.ErrLong, 800)
		is(t, "$1", param(1, 0))
	}
}
