package parse

// A slow second reading of promise 3.1: the document's grammar as it stands,
// gone through by sets of what may come, and its limits, by looking at the
// tokens from the left. It shares nothing with Parse but lex.Split.

import (
	"fmt"
	"math/rand"
	"slices"
	"strconv"
	"strings"
	"testing"

	"clepsydra/api"
	"clepsydra/lex"
)

// grammar is 3.1's, its own signs written out: { } around any many, [ ] around
// what may be missing, < > around choices, ~ between them; all else is itself.
const grammar = `
CHART  = chart NAME '{' { < VAR ~ REGION > } '}' END
VAR    = < input ~ output ~ var > NAME [ := [ - ] N ] ;
REGION = region '{' { STATE } '}'
STATE  = [ initial ] [ final ] state NAME < ; ~ '{' { PART } '}' >
PART   = < < entry ~ during ~ exit > SETS ; ~ suspend E ; ~ WAY ~ REGION >
WAY    = < go ~ abort ~ join > [ immediate ] [ if [ count N ] E ] [ do SETS ] --> NAME [ history ] ;
SETS   = NAME := E { , NAME := E }
E      = AND { || AND }
AND    = CMP { && CMP }
CMP    = SUM { < == ~ != ~ '<' ~ <= > SUM }
SUM    = PRO { < + ~ - > PRO }
PRO    = ONE { < * ~ / ~ % > ONE }
ONE    = < - ONE ~ ! ONE ~ ( E ) ~ pre ( NAME ) ~ N ~ NAME >
`

// item is one of a rule: a thing ('a' itself, 'r' a rule's name), or a group:
// 'm' any many, 'o' perhaps, 'c' a choice of rows.
type item struct {
	kind byte
	text string
	rows [][]item
}

// rules are the grammar's, by name.
func rules() map[string][]item {
	all := map[string][]item{}
	for _, l := range lines(grammar) {
		name, right, _ := strings.Cut(l, "=")
		words := strings.Fields(right)
		rows := group(&words, "")
		all[strings.TrimSpace(name)] = rows[0]
	}
	return all
}

// group reads rows up to what closes them.
func group(words *[]string, closes string) [][]item {
	rows := [][]item{nil}
	for len(*words) > 0 {
		w := (*words)[0]
		*words = (*words)[1:]
		var it item
		switch {
		case w == closes:
			return rows
		case w == "~":
			rows = append(rows, nil)
			continue
		case w == "{":
			it = item{kind: 'm', rows: group(words, "}")}
		case w == "[":
			it = item{kind: 'o', rows: group(words, "]")}
		case w == "<":
			it = item{kind: 'c', rows: group(words, ">")}
		case w[0] >= 'A' && w[0] <= 'Z':
			it = item{kind: 'r', text: w}
		default:
			it = item{kind: 'a', text: strings.Trim(w, "'")}
		}
		rows[len(rows)-1] = append(rows[len(rows)-1], it)
	}
	return rows
}

// isNAME tells whether a token is a NAME.
func isNAME(t lex.Token) bool {
	return t.Kind == lex.Name && !slices.Contains(keywords, t.Text)
}

// after are all that may come behind a token, where that may come.
func after(all map[string][]item, come []item, t lex.Token) [][]item {
	if len(come) == 0 {
		return nil
	}
	it, rest := come[0], come[1:]
	join := func(l ...[]item) []item { return slices.Concat(l...) }
	var out [][]item
	switch {
	case it.kind == 'a' && it.text == t.Text,
		it.text == "NAME" && isNAME(t),
		it.text == "N" && t.Kind == lex.Number,
		it.text == "END" && t.Kind == lex.End:
		return [][]item{rest}
	case it.kind == 'r' && all[it.text] != nil:
		return after(all, join(all[it.text], rest), t)
	case it.kind == 'm' || it.kind == 'o':
		out = after(all, rest, t)
	}
	if it.kind == 'm' {
		rest = come
	}
	for _, row := range it.rows {
		out = append(out, after(all, join(row, rest), t)...)
	}
	return out
}

// form is the first token that may not stand there; how many there are, if
// all may.
func form(all map[string][]item, tokens []lex.Token) int {
	may := [][]item{{{kind: 'r', text: "CHART"}}}
	for i, t := range tokens {
		var next [][]item
		for _, come := range may {
			next = append(next, after(all, come, t)...)
		}
		if len(next) == 0 {
			return i
		}
		may = next
	}
	return len(tokens)
}

// bracket is what is open: of which kind, how many - and ! stand ahead of what
// is in it, and how many suspends.
type bracket struct {
	kind     string
	signs    int
	suspends int
}

// looker looks at tokens from the left for what is too much.
type looker struct {
	open    []bracket
	counts  map[string]int
	operand bool // a ONE would begin
}

// under is in how many of -, !, ( what comes stands.
func (l *looker) under() int {
	n := 0
	for _, b := range l.open {
		n += b.signs
		if b.kind == "(" {
			n++
		}
	}
	return n
}

// within is in how many regions it is.
func (l *looker) within() int {
	n := 0
	for _, b := range l.open {
		if b.kind == "region" {
			n++
		}
	}
	return n
}

// whatever is what is told of the token behind t, whatever that is.
func (l *looker) whatever(t lex.Token) api.Errno {
	top := &l.open[len(l.open)-1]
	switch t.Text {
	case "input", "output", "var":
		l.counts["var"]++
	case "state":
		l.counts["state"]++
	}
	switch {
	case l.counts["var"] > 20, l.counts["state"] > 24:
		return api.ErrLimit
	case t.Text == "region" && l.within() >= 6:
		return api.ErrLimit
	case t.Text == "suspend":
		top.suspends++
		if top.suspends > 1 {
			return api.ErrTwice
		}
	}
	if l.operand && l.under() > 6 {
		return api.ErrLimit
	}
	return api.OK
}

// pass goes past a token that may stand there; ahead is the one ahead of it,
// and inSets tells whether a := is one of a SETS.
func (l *looker) pass(t, ahead lex.Token, inSets bool) {
	top := &l.open[len(l.open)-1]
	wasOperand := l.operand
	l.operand = false
	switch {
	case t.Text == "{":
		kind := "other"
		if ahead.Text == "region" {
			kind = "region"
		}
		l.open = append(l.open, bracket{kind: kind})
	case t.Text == "}":
		l.open = l.open[:len(l.open)-1]
	case t.Text == "(" && ahead.Text == "pre":
		l.open = append(l.open, bracket{kind: "pre"})
	case t.Text == "(":
		l.open = append(l.open, bracket{kind: "("})
		l.operand = true
	case t.Text == ")":
		l.open = l.open[:len(l.open)-1]
		l.open[len(l.open)-1].signs = 0
	case wasOperand && (t.Text == "-" || t.Text == "!"):
		top.signs++
		l.operand = true
	case wasOperand && (t.Kind == lex.Number && ahead.Text != "count" || isNAME(t)):
		top.signs = 0
	case t.Text == ":=":
		l.operand = inSets
	case t.Text == "suspend" || t.Text == "if" || ahead.Text == "count":
		l.operand = true
	case !wasOperand && slices.Contains(strings.Fields("|| && == != < <= + - * / %"), t.Text):
		l.operand = top.kind != "other" || ahead.Text != ":="
	}
}

// second is what 3.1 asks of a text: OK, or an error and its place.
func second(all map[string][]item, s string) (api.Errno, int) {
	tokens, err := lex.Split(s)
	if err != nil {
		return api.Tell(err), placeOf(err)
	}
	first := form(all, tokens)
	l := looker{open: []bracket{{kind: "all"}}, counts: map[string]int{}}
	var ahead lex.Token
	inVar := false
	for i, t := range tokens {
		if i > 0 {
			if e := l.whatever(ahead); e != api.OK {
				return e, t.At
			}
		}
		if i == first {
			return api.ErrForm, t.At
		}
		if isNAME(t) && len(t.Text) > 12 {
			return api.ErrLimit, t.At
		}
		if n, _ := strconv.Atoi(t.Text); ahead.Text == "count" && (n < 1 || n > 1000) {
			return api.ErrLimit, t.At
		}
		inVar = inVar && t.Text != ";" || slices.Contains([]string{"input", "output", "var"}, t.Text)
		l.pass(t, ahead, !inVar)
		ahead = t
	}
	return api.OK, -1
}

// agrees fails the test unless Parse tells what the second reading tells.
func agrees(t *testing.T, all map[string][]item, s string) api.Errno {
	t.Helper()
	e, place := second(all, s)
	if e != api.OK {
		refuses(t, s, e, place)
	} else {
		accepts(t, s)
	}
	return e
}

// draw makes texts.
type draw struct{ *rand.Rand }

func (d draw) of(l ...string) string { return l[d.Intn(len(l))] }

// expr is an expression's text.
func (d draw) expr(deep int) string {
	if deep <= 0 || d.Intn(4) == 0 {
		return d.of("a", "b", "x1", "0", "7", "pre(a)", "pre (b)", "(a)", "- 1", "!b")
	}
	p, q := d.expr(deep-1), d.expr(deep-1)
	switch d.Intn(6) {
	case 0:
		return d.of("-", "!", "- ", "--", "!-") + d.of(p, "("+p+")")
	case 1:
		return "(" + p + ")"
	}
	return p + " " + d.of("||", "&&", "==", "!=", "<", "<=", "+", "-", "*", "/", "%") + " " + d.of(q, "("+q+")")
}

// sets is a SETS' text.
func (d draw) sets() string {
	s := d.of("a", "b", "x1") + " := " + d.expr(d.Intn(4))
	for d.Intn(3) == 0 {
		s += ", " + d.of("a", "b") + ":=" + d.expr(d.Intn(2))
	}
	return s
}

// way is a WAY's text.
func (d draw) way() string {
	s := d.of("go", "abort", "join") + d.of("", " immediate")
	if d.Intn(2) == 0 {
		s += " if " + d.of("", "", "count 1 ", "count 2 ", "count 1000 ") + d.expr(d.Intn(3))
	}
	if d.Intn(3) == 0 {
		s += " do " + d.sets()
	}
	return s + " --> " + d.of("s0", "s1", "s2") + d.of("", "", " history") + "; "
}

// region is a REGION's text.
func (d draw) region(deep int) string {
	s := "region { "
	for i := range d.Intn(4) {
		s += d.of("", "", "initial ", "final ", "initial final ") + fmt.Sprintf("state s%d", i)
		if d.Intn(4) == 0 {
			s += "; "
			continue
		}
		s += " { "
		suspended := false
		for d.Intn(3) > 0 {
			switch d.Intn(6) {
			case 0, 1:
				s += d.of("entry ", "during ", "exit ") + d.sets() + "; "
			case 2:
				if !suspended || d.Intn(9) == 0 {
					s += "suspend " + d.expr(2) + "; "
				}
				suspended = true
			case 3:
				if deep > 0 {
					s += d.region(deep - 1)
				}
			default:
				s += d.way()
			}
		}
		s += "} "
	}
	return s + "} "
}

// chart is a chart's text.
func (d draw) chart() string {
	s := "chart c { "
	for d.Intn(5) > 0 {
		if d.Intn(2) == 0 {
			s += d.region(2)
		} else {
			s += d.of("input ", "output ", "var ") + d.of("a", "b", "x1") + d.of("; ", " := 3; ", " := -20; ", ":=0; ")
		}
	}
	return s + "}"
}

// spoil changes some of a text's tokens.
func (d draw) spoil(s string) string {
	tokens, err := lex.Split(s)
	if err != nil {
		return s
	}
	var l []string
	for _, t := range tokens {
		l = append(l, t.Text)
	}
	strange := append(strings.Fields("a abcdefghijkl abcdefghijklm 0 1 1000 1001 --> := == != <= && || < + - * / % ! ( ) { } ; : ,"), keywords...)
	for range 1 + d.Intn(2) {
		i := d.Intn(len(l))
		switch d.Intn(5) {
		case 0:
			l[i] = ""
		case 1:
			l[i] = strange[d.Intn(len(strange))]
		case 2:
			l[i] = l[i] + " " + strange[d.Intn(len(strange))]
		case 3:
			l[i] = l[i] + " " + l[d.Intn(len(l))]
		case 4:
			j := d.Intn(len(l))
			l[i], l[j] = l[j], l[i]
		}
	}
	return strings.Join(l[:len(l)-d.Intn(2)*d.Intn(len(l))], " ")
}

// Promise 3.1: charts that are drawn by lot, as they are, and spoilt.
func TestSecondReading(t *testing.T) {
	all := rules()
	d := draw{rand.New(rand.NewSource(3))}
	told := map[api.Errno]int{}
	for range 3000 {
		s := d.chart()
		told[agrees(t, all, s)]++
		told[agrees(t, all, d.spoil(s))]++
	}
	if told[api.OK] < 1000 || told[api.ErrForm] < 1000 || told[api.ErrLimit] < 100 || told[api.ErrTwice] < 20 {
		t.Errorf("the texts are too much alike: %v", told)
	}
}

// Promise 3.1: each token, behind each beginning of a chart.
func TestEachToken(t *testing.T) {
	all := rules()
	const chart = `chart c { input a := - 1 ; var v ; region { initial final state s { entry x := a , y := - ! ( pre ( b ) + 2 ) * 3 ; during x := 1 ; suspend a && b || c ; go immediate if count 2 a == b do x := 1 , y := 2 --> s history ; abort --> s ; region { state t ; state u { } } exit x := 1 ; } } region { } output z ; }`
	words := strings.Fields(chart)
	strange := append(strings.Fields("a abcdefghijklm 0 7 1001 --> := == != <= && || < + - * / % ! ( ) { } ; : ,"), keywords...)
	for i := range len(words) + 1 {
		begun := strings.Join(words[:i], " ")
		agrees(t, all, begun)
		for _, w := range strange {
			agrees(t, all, begun+" "+w)
		}
		if i < len(words) {
			agrees(t, all, begun+" "+strings.Join(words[i+1:], " "))
		}
	}
}

// Promise 3.1: charts that go to the limits, and past them.
func TestSecondReadingOfLimits(t *testing.T) {
	all := rules()
	d := draw{rand.New(rand.NewSource(4))}
	told := map[api.Errno]int{}
	for range 1500 {
		s := "chart c { "
		switch d.Intn(4) {
		case 0:
			s += many(18+d.Intn(5), d.of("input a; ", "var b := 1; ", "output c; region { } ")) + "}"
		case 1:
			s += "region { " + many(22+d.Intn(5), d.of("state s; ", "initial state s { suspend a; } ")) + "} }"
		case 2:
			n := 5 + d.Intn(3)
			s += many(n, d.of("region { state s { ", "region { } region { state r; state s { suspend a; ")) + many(n, "} } ") + "}"
		case 3:
			e := d.of("a", "a - b", "!a", "pre(a)")
			for range 4 + d.Intn(4) {
				e = d.of("-"+e, "!"+e, "("+e+")", "(a + "+e+")", "(!a * "+e+" - (b))")
			}
			s += "region { state s { " + d.of("entry x := ", "suspend ", "go if ", "go if count 3 ", "go do y := 1, x := ") + e + d.of("", " --> s") + "; } } }"
		}
		told[agrees(t, all, s)]++
		told[agrees(t, all, d.spoil(s))]++
	}
	if told[api.OK] < 300 || told[api.ErrLimit] < 500 || told[api.ErrForm] < 500 {
		t.Errorf("the texts are too much alike: %v", told)
	}
}
