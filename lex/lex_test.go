package lex

import (
	"errors"
	"math/rand"
	"reflect"
	"regexp"
	"strings"
	"testing"

	"clepsydra/api"
)

// These are the promise's own words, as patterns: a slow second reading to
// hold Split against. Of marks the first one in the document's order is taken.
var (
	nothing = regexp.MustCompile(`^(?s:[ \t\n]|#[^\n]*)*`)
	token   = regexp.MustCompile(`^(?:([A-Za-z_][A-Za-z_0-9]*)|([0-9]+)|(-->|:=|==|!=|<=|&&|\|\||<|\+|-|\*|/|%|!|\(|\)|\{|\}|;|:|,))`)
)

// slow is what promise 2.1 asks of a text.
func slow(s string) ([]Token, api.Errno, int) {
	var l []Token
	at := len(nothing.FindString(s))
	for at < len(s) {
		m := token.FindStringSubmatchIndex(s[at:])
		if m == nil {
			return nil, api.ErrForm, at
		}
		kind := 1
		for m[2*kind] < 0 {
			kind++
		}
		if len(l) == 600 || kind == 2 && m[1] > 18 {
			return nil, api.ErrLimit, at
		}
		l = append(l, Token{kind, s[at : at+m[1]], at})
		at += m[1]
		at += len(nothing.FindString(s[at:]))
	}
	return append(l, Token{4, "", len(s)}), api.OK, 0
}

// tokens fails the test unless a text has just these.
func tokens(t *testing.T, s string, want ...Token) {
	t.Helper()
	got, err := Split(s)
	if err != nil || !reflect.DeepEqual(got, want) {
		t.Errorf("Split(%.80q) = %v, %v; want %v", s, got, err, want)
	}
}

// wrong fails the test unless a text is told to be so, with its place.
func wrong(t *testing.T, s string, want api.Errno, place int) {
	t.Helper()
	got, err := Split(s)
	var at *api.At
	if !errors.As(err, &at) {
		t.Errorf("Split(%.80q): error %v has no place", s, err)
		return
	}
	if got != nil || at.Err != want || at.Place != place || api.Tell(err) != want {
		t.Errorf("Split(%.80q) = %v, error %d at %d; want error %d at %d", s, got, at.Err, at.Place, want, place)
	}
}

// same fails the test unless a text has what the second reading finds in it.
func same(t *testing.T, s string) {
	t.Helper()
	want, e, place := slow(s)
	if e == api.OK {
		tokens(t, s, want...)
	} else {
		wrong(t, s, e, place)
	}
}

// Promise 2.1, P5: the kinds have their numbers.
func TestKinds(t *testing.T) {
	if Name != 1 || Number != 2 || Mark != 3 || End != 4 {
		t.Errorf("kinds are %d, %d, %d, %d", Name, Number, Mark, End)
	}
}

// Promise 2.1: ordinary texts.
func TestSplit(t *testing.T) {
	tokens(t, "chart c {\n\toutput b; # told\n}",
		Token{Name, "chart", 0}, Token{Name, "c", 6}, Token{Mark, "{", 8},
		Token{Name, "output", 11}, Token{Name, "b", 18}, Token{Mark, ";", 19},
		Token{Mark, "}", 28}, Token{End, "", 29})
	tokens(t, "if (a) do b := b + (1 * a)",
		Token{Name, "if", 0}, Token{Mark, "(", 3}, Token{Name, "a", 4}, Token{Mark, ")", 5},
		Token{Name, "do", 7}, Token{Name, "b", 10}, Token{Mark, ":=", 12}, Token{Name, "b", 15},
		Token{Mark, "+", 17}, Token{Mark, "(", 19}, Token{Number, "1", 20}, Token{Mark, "*", 22},
		Token{Name, "a", 24}, Token{Mark, ")", 25}, Token{End, "", 26})
	tokens(t, "go-->s1", Token{Name, "go", 0}, Token{Mark, "-->", 2}, Token{Name, "s1", 5}, Token{End, "", 7})
}

// Promise 2.1: blanks, tabs, line feeds and remarks are nothing.
func TestNothing(t *testing.T) {
	for _, s := range []string{"", " ", "\t", "\n", " \t\n\n ", "#", "##", "#\n", "# x\n", "# x", "#a\n#b", "#a\n #b\n\t", "# \r\x00\xff@\n", "\n#"} {
		tokens(t, s, Token{Kind: End, At: len(s)})
	}
	tokens(t, "a#b\nc", Token{Name, "a", 0}, Token{Name, "c", 4}, Token{End, "", 5})
	tokens(t, "a#b#c", Token{Name, "a", 0}, Token{End, "", 5})
	tokens(t, "1#2\n3#", Token{Number, "1", 0}, Token{Number, "3", 4}, Token{End, "", 6})
	tokens(t, "<#\n 1", Token{Mark, "<", 0}, Token{Number, "1", 4}, Token{End, "", 5})
	tokens(t, "- -", Token{Mark, "-", 0}, Token{Mark, "-", 2}, Token{End, "", 3})
	tokens(t, ": # :=\n:", Token{Mark, ":", 0}, Token{Mark, ":", 7}, Token{End, "", 8})
	wrong(t, ": =", api.ErrForm, 2)
	wrong(t, "&#\n&", api.ErrForm, 0)
}

// Promise 2.1: names and numbers are the longest runs.
func TestRuns(t *testing.T) {
	const all = "ABCDEFGHIJKLMNOPQRSTUVWXYZabcdefghijklmnopqrstuvwxyz_0123456789"
	tokens(t, all, Token{Name, all, 0}, Token{End, "", len(all)})
	tokens(t, "_", Token{Name, "_", 0}, Token{End, "", 1})
	tokens(t, "_9", Token{Name, "_9", 0}, Token{End, "", 2})
	tokens(t, "Z9z", Token{Name, "Z9z", 0}, Token{End, "", 3})
	tokens(t, "9z9", Token{Number, "9", 0}, Token{Name, "z9", 1}, Token{End, "", 3})
	tokens(t, "0_", Token{Number, "0", 0}, Token{Name, "_", 1}, Token{End, "", 2})
	tokens(t, "007", Token{Number, "007", 0}, Token{End, "", 3})
	tokens(t, "-1", Token{Mark, "-", 0}, Token{Number, "1", 1}, Token{End, "", 2})
	long := strings.Repeat("n", 5000)
	tokens(t, long, Token{Name, long, 0}, Token{End, "", 5000})
}

// Promise 2.1: of marks the first one of the list that stands there.
func TestMarks(t *testing.T) {
	for _, m := range strings.Fields("--> := == != <= && || < + - * / % ! ( ) { } ; : ,") {
		tokens(t, m, Token{Mark, m, 0}, Token{End, "", len(m)})
		tokens(t, "a"+m+"1", Token{Name, "a", 0}, Token{Mark, m, 1}, Token{Number, "1", 1 + len(m)}, Token{End, "", 2 + len(m)})
	}
	for _, c := range []struct{ s, want string }{
		{"--->", "- -->"}, {"---->", "- - -->"}, {"--", "- -"}, {"-->-", "--> -"}, {"-->-->", "--> -->"},
		{"!!=", "! !="}, {"!==", ""}, {"!===", "!= =="}, {"====", "== =="},
		{":::=", ": : :="}, {":===", ":= =="}, {"<<=", "< <="}, {"<===", "<= =="}, {"<-->", "< -->"},
		{"<--", "< - -"}, {"&&&&", "&& &&"}, {"||||", "|| ||"}, {"){};,", ") { } ; ,"},
	} {
		l, err := Split(c.s)
		var got []string
		for _, k := range l[:max(len(l)-1, 0)] {
			got = append(got, k.Text)
		}
		if s := strings.Join(got, " "); s != c.want || (err == nil) != (c.want != "") {
			t.Errorf("Split(%q): %q, %v; want %q", c.s, s, err, c.want)
		}
	}
}

// Promise 2.1: ErrForm, at what is no token.
func TestForm(t *testing.T) {
	wrong(t, "=", api.ErrForm, 0)
	wrong(t, "&", api.ErrForm, 0)
	wrong(t, "|", api.ErrForm, 0)
	wrong(t, ">", api.ErrForm, 0)
	wrong(t, "a >= b", api.ErrForm, 2)
	wrong(t, "a > b", api.ErrForm, 2)
	wrong(t, ":==", api.ErrForm, 2)
	wrong(t, "<==", api.ErrForm, 2)
	wrong(t, "&&&", api.ErrForm, 2)
	wrong(t, "-->>", api.ErrForm, 3)
	wrong(t, "->", api.ErrForm, 1)
	wrong(t, "- ->", api.ErrForm, 3)
	wrong(t, "a\r\n", api.ErrForm, 1)
	wrong(t, "# x\n\"", api.ErrForm, 4)
	wrong(t, "b\x00", api.ErrForm, 1)
	wrong(t, "a é", api.ErrForm, 2)
	wrong(t, "a\u00a0b", api.ErrForm, 1)
	wrong(t, "\xff", api.ErrForm, 0)
	wrong(t, "$ @", api.ErrForm, 0)
}

// Promise 2.1: each byte, alone and between others.
func TestBytes(t *testing.T) {
	for c := range 256 {
		b := string([]byte{byte(c)})
		for _, s := range []string{b, "a" + b, "1" + b + "1", " " + b + " x", "#" + b + "\n-", "-" + b + "<", b + b + ">"} {
			same(t, s)
		}
	}
}

// Promise 2.1: a number has at most eighteen digits.
func TestDigits(t *testing.T) {
	const most = "123456789012345678"
	tokens(t, most, Token{Number, most, 0}, Token{End, "", 18})
	tokens(t, strings.Repeat("0", 18)+"a", Token{Number, strings.Repeat("0", 18), 0}, Token{Name, "a", 18}, Token{End, "", 19})
	tokens(t, most+" "+most, Token{Number, most, 0}, Token{Number, most, 19}, Token{End, "", 37})
	name := "a" + most + most
	tokens(t, name, Token{Name, name, 0}, Token{End, "", 37})
	tokens(t, "#"+most+most, Token{End, "", 37})
	wrong(t, most+"9", api.ErrLimit, 0)
	wrong(t, "a + "+most+"9;", api.ErrLimit, 4)
	wrong(t, strings.Repeat("0", 19), api.ErrLimit, 0)
	wrong(t, strings.Repeat("7", 100_000), api.ErrLimit, 0)
}

// Promise 2.1: at most MaxTokens, the End not among them.
func TestMaxTokens(t *testing.T) {
	full := strings.Repeat("a ", api.MaxTokens)
	l, err := Split(full)
	if err != nil || len(l) != api.MaxTokens+1 || l[api.MaxTokens] != (Token{End, "", len(full)}) {
		t.Errorf("%d tokens, %v", len(l), err)
	}
	same(t, full+" \t# and no more\n")
	same(t, strings.Repeat(";", api.MaxTokens))
	for _, one := range []string{"a", "1", "-->", ";", strings.Repeat("1", 19)} {
		wrong(t, full+one, api.ErrLimit, len(full))
		wrong(t, full+"# x\n"+one+" a", api.ErrLimit, len(full)+4)
	}
	wrong(t, strings.Repeat(";", api.MaxTokens+1), api.ErrLimit, api.MaxTokens)
	wrong(t, strings.Repeat(";", 100_000), api.ErrLimit, api.MaxTokens)
}

// Promise 2.1, P3: what is wrong first is told; of one place ErrForm first.
func TestFirstWrong(t *testing.T) {
	full, digits := strings.Repeat("a ", api.MaxTokens), strings.Repeat("1", 19)
	wrong(t, full+"@", api.ErrForm, len(full))
	wrong(t, full+"=", api.ErrForm, len(full))
	wrong(t, full+"a @", api.ErrLimit, len(full))
	wrong(t, "@ "+full+"a", api.ErrForm, 0)
	wrong(t, full[2:]+"@ a a", api.ErrForm, len(full)-2)
	wrong(t, digits+"@", api.ErrLimit, 0)
	wrong(t, "@"+digits, api.ErrForm, 0)
	wrong(t, digits+" "+full, api.ErrLimit, 0)
	wrong(t, full[2:]+digits+" a a", api.ErrLimit, len(full)-2)
}

// Promise 2.1: all short texts, and drawn ones, against the second reading.
func TestAgainstSecondReading(t *testing.T) {
	const letters = "-->:=!<&|+#\n a1_{"
	texts := []string{""}
	for range 4 {
		var longer []string
		for _, s := range texts {
			for _, c := range letters[1:] {
				longer = append(longer, s+string(c))
			}
		}
		texts = longer
		for _, s := range texts {
			same(t, s)
		}
	}
	parts := strings.Split("-->|:=|==|!=|<=|&&|<|+|-|*|/|%|!|(|)|{|}|;|:|,| |\t|\n|# x\n|#|a|Zz_9|0|17|state|123456789012345678|=|>|\r|\xc3", "|")
	d := rand.New(rand.NewSource(2))
	for range 20_000 {
		var b strings.Builder
		for range d.Intn(40) {
			b.WriteString(parts[d.Intn(len(parts)-d.Intn(5))])
		}
		same(t, b.String())
	}
	for range 50 {
		var b strings.Builder
		for range 560 + d.Intn(200) {
			b.WriteString(parts[d.Intn(len(parts)-7)] + " ")
		}
		same(t, strings.ReplaceAll(b.String(), "# ", "-- "))
	}
}

// P4: what comes out is the caller's, each time anew.
func TestFresh(t *testing.T) {
	const s = "go if a --> b;"
	a, _ := Split(s)
	b, _ := Split(s)
	for i := range a {
		a[i] = Token{}
	}
	_ = append(a[:0], Token{Name, "x", 1})
	c, _ := Split(s)
	want, _, _ := slow(s)
	if !reflect.DeepEqual(b, want) || !reflect.DeepEqual(c, want) {
		t.Errorf("%v and %v; want %v", b, c, want)
	}
}
