package desk

import (
	"fmt"
	"strings"
	"testing"

	"clepsydra/api"
)

// lamp is a chart that tells whether it is lit, and for how long; in one line.
const lamp = "chart lamp { input b; output on; var long := -1; region { initial state dark { entry on := 0; go if b --> lit; } state lit { entry on := 1; during long := long + 1; go if count 2 !b --> dark; } } }"

// same fails the test unless a text is answered just so.
func same(t *testing.T, text, want string) {
	t.Helper()
	if got := Session(text); got != want {
		t.Errorf("%.300q: %.600q; want %.600q", text, got, want)
	}
}

// talk fails the test unless lines are answered so: it takes a line, and its answer, and
// the next line.
func talk(t *testing.T, l ...string) {
	t.Helper()
	var text, want strings.Builder
	for i := 0; i+1 < len(l); i += 2 {
		text.WriteString(l[i] + "\n")
		want.WriteString(l[i+1] + "\n")
	}
	if len(l)%2 != 0 {
		t.Fatalf("no answer to %q", l[len(l)-1])
	}
	same(t, text.String(), want.String())
	same(t, strings.TrimSuffix(text.String(), "\n"), want.String())
}

// wrong is the answer that tells an error.
func wrong(e api.Errno) string { return fmt.Sprint("error ", int(e)) }

// Promise 15.1: a text of more than MaxText bytes is not gone through.
func TestTooLong(t *testing.T) {
	same(t, strings.Repeat("x", api.MaxText), "error 3\n")
	same(t, strings.Repeat("x", api.MaxText+1), "error 4\n")
	same(t, strings.Repeat("x", api.MaxText)+"\n", "error 4\n")
	same(t, strings.Repeat(" ", api.MaxText-4)+"help", helpLine+"\n")
	same(t, strings.Repeat(" ", api.MaxText-3)+"help", "error 4\n")
	same(t, strings.Repeat("\n", api.MaxText), strings.Repeat("ok\n", api.MaxText))
	same(t, strings.Repeat("\n", api.MaxText+1), "error 4\n")
	same(t, "print\n"+strings.Repeat(" ", api.MaxText), "error 4\n")
	same(t, strings.Repeat("drop\n", 3*api.MaxText), "error 4\n")
}

// Promise 15.1: cut at line feeds, of which one at the end is left out; there is one line
// at least.
func TestLines(t *testing.T) {
	same(t, "", "ok\n")
	same(t, "\n", "ok\n")
	same(t, " ", "ok\n")
	same(t, "   \n", "ok\n")
	same(t, "\n\n", "ok\nok\n")
	same(t, "\n ", "ok\nok\n")
	same(t, "\n \n\n", "ok\nok\nok\n")
	same(t, "drop", "drop\n")
	same(t, "drop\n", "drop\n")
	same(t, "drop\n\n", "drop\nok\n")
	same(t, "\ndrop", "ok\ndrop\n")
	same(t, "drop\nprint", "drop\n0\n")
	same(t, "drop\n\nprint\n", "drop\nok\n0\n")
	same(t, "x\ndrop\ny", "error 3\ndrop\nerror 3\n")
}

// Promise 15.1: several blanks between words, and at both ends; nothing else is one.
func TestBlanks(t *testing.T) {
	talk(t, "  drop", "drop", "drop  ", "drop", "   drop   ", "drop", "  code   0 ", "error 3", " eval   1  +  2  ", "eval 3")
	for _, white := range []string{"\t", "\r", "\v", "\f", "\x00", "\x85", "\xa0", "\u0085", "\u00a0", "\u2003", "\u2028", "\u3000", "\ufeff", ","} {
		talk(t, white, "error 3", white+"drop", "error 3", "drop"+white, "error 3", white+" drop", "error 3", "drop "+white, "error 3",
			"tick"+white+"1", "error 3", "tick 1"+white+"1", "error 3", "tick "+white, "error 3", "new"+white, "error 3")
		// Within what is told of anything it is kept, byte by byte.
		talk(t, "add"+white, "error 3", "add a"+white+"b", "add", "print", fmt.Sprint(3+len(white)), "add "+white, "add", "print", fmt.Sprint(4+2*len(white)))
	}
	// Between words one blank is kept, at the ends none.
	talk(t, "add   a    b  c   ", "add", "print", "6", "add", "add", "print", "7", "add    ", "add", "print", "8")
}

// Promise 15.1: ErrForm, unless the first word is one of those that there are.
func TestFirstWord(t *testing.T) {
	for _, word := range []string{
		"zz", "x", "ok", "error", "Add", "HELP", "adds", "ad", "dra", "draws", "newnew", "tick1", "code3", "eval1", "1", "-1", "start", "run", "there:",
		"vars,", ".", "..", "add..", "/", "|", "\x00", "\xff", "chart", "\"help\"", "help\x00", "ｈelp", "tokens#", "quit", "exit", "alone", "with", "text",
	} {
		talk(t, word, "error 3", word+" 1", "error 3", " "+word+" x y", "error 3", "print", "0", "tick", "error 8")
	}
}

// Promise 15.1: just so many words stand behind the first one as are told.
func TestManyWords(t *testing.T) {
	for _, word := range []string{"drop", "check", "draw", "image", "new", "vars", "there", "tokens", "print", "help"} {
		for _, rest := range []string{"x", "1", "drop", word, "1 2", "#", "x y z"} {
			// It is told whatever lies there, and nothing is done.
			talk(t, "add x", "add", word+" "+rest, "error 3", "print", "2")
			talk(t, "add "+lamp, "add", "new", "new", word+" "+rest, "error 3", "there", "there", "print", fmt.Sprint(len(lamp)+1))
		}
	}
	talk(t, "add "+lamp, "add", "code", "error 3", "code 1 2", "error 3", "code 1 x", "error 3", "code 61 61", "error 3", "code 1 2 3", "error 3", "code 1", "true")
}

// Promise 15.1: N is a number, as ticks by text have them.
func TestNumbers(t *testing.T) {
	for _, word := range []string{
		"x", "00", "01", "-01", "-0", "-", "--1", "1-", "+1", "+", "0x1", "1_0", "1,2", "1.0", "1e3", "1/2", "1;", "(1)", "٣", "１", "\x00", "\xff", "#", "1#",
		"9223372036854775808", "-9223372036854775809", "99999999999999999999999", "18446744073709551617",
	} {
		talk(t, "code "+word, "error 3", "tick "+word, "error 3", "tick 1 "+word, "error 3", "tick "+word+" 1", "error 3", "tick 1 2 "+word+" 3", "error 3")
		talk(t, "add chart c { input a; output x; region { initial state s { during x := x + 1; } } }", "add", "new", "new", "tick", "tick 0", "tick "+word, "error 3", "tick", "tick 1",
			"code "+word, "error 3")
	}
	talk(t, "add chart c { input a; output x; region { initial state s { entry x := a; during x := a; } } }", "add", "new", "new",
		"tick 9223372036854775807", "tick 9223372036854775807", "tick -9223372036854775808", "tick -9223372036854775808", "tick -1", "tick -1", "tick 0", "tick 0", "tick 10 -7", "tick 10")
}

// Promise 15.1: the text, line by line.
func TestText(t *testing.T) {
	talk(t, "print", "0", "tokens", "1", "drop", "drop", "print", "0",
		"add", "add", "print", "1", "tokens", "1",
		"add a b", "add", "print", "5", "tokens", "3",
		"add -->:= 12#13 14", "add", "print", "20", "tokens", "6",
		// A remark ends with its line.
		"add c", "add", "print", "22", "tokens", "7",
		"add drop", "add", "print", "27", "tokens", "8",
		"drop", "drop", "print", "0", "tokens", "1", "drop", "drop", "print", "0",
		"add \xff\xc3\x28", "add", "print", "4")
	// Words of two lines are two.
	talk(t, "add ab", "add", "add cd", "add", "tokens", "3", "print", "6")
}

// Promise 15.1: of tokens Split's errors are told, and nothing of what they draw.
func TestTokens(t *testing.T) {
	talk(t, "add } ; pre 0", "add", "tokens", "5", "add ?", "add", "tokens", "error 3", "print", "12", "drop", "drop", "tokens", "1")
	talk(t, "add 999999999999999999", "add", "tokens", "2", "add 1000000000000000000", "add", "tokens", "error 4")
	talk(t, "add "+strings.Repeat(";", api.MaxTokens), "add", "tokens", "601", "add ;", "add", "tokens", "error 4", "add ?", "add", "tokens", "error 4")
	talk(t, "add "+strings.Repeat(";", api.MaxTokens)+"?", "add", "tokens", "error 3")
}

// wrongCharts are texts, each with the error of the chart that it draws: of Parse, or of
// Check.
func wrongCharts() []struct {
	text  string
	err   api.Errno
	check bool
} {
	in := func(s string) string { return "chart c { input a; output x; region { " + s + " } }" }
	return []struct {
		text  string
		err   api.Errno
		check bool
	}{
		{"", api.ErrForm, false},
		{"x", api.ErrForm, false},
		{"chart c { } }", api.ErrForm, false},
		{"chart c { ? }", api.ErrForm, false},
		{"chart abcdefghijklm { }", api.ErrLimit, false},
		{in("initial state s { suspend 1; suspend 1; }"), api.ErrTwice, false},
		{"chart c { }", api.ErrNone, true},
		{"chart c { var v; var v; region { initial state s; } }", api.ErrTwice, true},
		{in("state s;"), api.ErrNone, true},
		{"chart c { region { } }", api.ErrNone, true},
		{in("initial state s; initial state t;"), api.ErrFull, true},
		{in("initial state s; state s;"), api.ErrTwice, true},
		{in("initial state s; final state t { go --> s; }"), api.ErrState, true},
		{in("initial state s { go --> u; }"), api.ErrMissing, true},
		{in("initial state s { during x := y; }"), api.ErrName, true},
		{in("initial state s { during a := x; }"), api.ErrArg, true},
		{in("initial state s { go immediate --> t; } state t { go immediate --> s; }"), api.ErrCycle, true},
	}
}

// Promise 15.1: an error is its number alone, Parse's ahead of Check's; nothing is changed.
func TestWrongCharts(t *testing.T) {
	for _, c := range wrongCharts() {
		e := wrong(c.err)
		l := []string{"add " + c.text, "add", "check", e, "new", e, "code 0", e, "code 60", e, "image", e, "trace", e, "trace 1/2", e, "tick", "error 8", "vars", "error 8", "there", "error 8"}
		if !c.check {
			l = append(l, "draw", e)
		}
		talk(t, append(l, "print", fmt.Sprint(1+len(c.text)), "eval 1", "eval 1")...)
	}
	// What draws something is drawn, whether it may be or not.
	talk(t, "add chart c { var v; var v; region { } }", "add", "draw", "chart c {|  var v;|  var v;|  region {|  }|}", "check", "error 9")
	talk(t, "draw", "error 3", "check", "error 3")
}

// Promise 15.1: check tells the word.
func TestCheck(t *testing.T) {
	talk(t, "add "+lamp, "add", "check", "check", "check", "check", "add #", "add", "check", "check", "add x", "add", "check", "error 3", "drop", "drop", "check", "error 3",
		"add "+lamp, "add", "check", "check")
}

// Promise 15.1: what is printed of the chart, in one line.
func TestDraw(t *testing.T) {
	talk(t, "add chart  c  {", "add", "draw", "error 3", "add }", "add", "draw", "chart c {|}")
	talk(t, "add "+lamp, "add", "draw", "chart lamp {|  input b;|  output on;|  var long := -1;|  region {|    initial state dark {|      entry on := 0;|      go if b --> lit;|    }"+
		"|    state lit {|      entry on := 1;|      during long := long + 1;|      go if count 2 !b --> dark;|    }|  }|}")
	// A sign that has such a mark in it stays what it is.
	talk(t, "add chart c { region { state s { suspend (a||b)&&0; } } }", "add", "draw", "chart c {|  region {|    state s {|      suspend (a || b) && 0;|    }|  }|}")
}

// Promise 15.1: code N: first that N is a number, then its range, then the chart.
func TestCode(t *testing.T) {
	talk(t, "code 0", "error 3", "code 60", "error 3", "code -1", "error 2", "code 61", "error 2", "code 9223372036854775807", "error 2", "code -9223372036854775808", "error 2",
		"code 4294967296", "error 2", "code x", "error 3", "code", "error 3")
	talk(t, "add "+lamp, "add", "code 0", "true", "code 1", "true", "code 60", "true", "code 61", "error 2", "code -1", "error 2", "code 060", "error 3")
	talk(t, "add chart c { }", "add", "code 0", "error 8", "code 61", "error 2")
	talk(t, "add chart c { output x; region { initial state s { during x := x * 3 + 1; go if count 5 1 --> t; } state t { during x := x / 2; go if x < 9 --> s; } } }", "add",
		"code 60", "true", "code 7", "true")
}

// tooMuch is a chart that may be, but whose code would be longer than MaxCode: what is
// done when its innermost state is left is done wherever one around it is.
func tooMuch() string {
	s := "exit x := a" + strings.Repeat("+a", 189) + ";"
	for range api.MaxDepth {
		s = "region { initial state s { go immediate if a --> t; abort if b --> s; " + s + " } state t { go --> s; } }"
	}
	return "chart c { input a; input b; output x; " + s + " }"
}

// Promise 15.1: Emit's errors: its code may be too long, while the chart runs yet.
func TestTooMuch(t *testing.T) {
	talk(t, "add "+tooMuch(), "add", "check", "check", "code 0", "error 4", "code 61", "error 2", "image", "error 4", "new", "new", "tick", "tick 0", "tick 0 1", "tick 0", "tick 2", "tick 380",
		"trace /2", "trace 0/380/")
}

// Promise 15.1: code as bytes, and read again.
func TestImage(t *testing.T) {
	talk(t, "image", "error 3", "add "+lamp, "add", "image", "true", "image", "true", "drop", "drop", "image", "error 3",
		"add chart c { region { initial state s; } }", "add", "image", "true", "add }", "add", "image", "error 3")
	talk(t, "add chart c { var v := -999999999999999999; output x; region { initial state s { entry x := v * 123456789; } } }", "add", "image", "true")
}

// Promise 15.1: what runs, tick by tick.
func TestRuns(t *testing.T) {
	talk(t, "tick", "error 8", "tick 1 2", "error 8", "vars", "error 8", "there", "error 8", "tick x", "error 3", "vars 1", "error 3", "there 1", "error 3")
	talk(t, "add "+lamp, "add", "tick", "error 8", "vars", "error 8", "new", "new",
		"vars", "vars 0 0 -1", "there", "there",
		"tick", "tick 0", "there", "there dark", "vars", "vars 0 0 -1",
		"tick 7", "tick 1", "there", "there lit", "vars", "vars 7 1 -1",
		"tick  0   5", "tick 1", "vars", "vars 0 1 0",
		"tick 1", "tick 1", "vars", "vars 1 1 1", "there", "there lit",
		"tick 0", "tick 0", "there", "there dark", "vars", "vars 0 0 2",
		"new", "new", "there", "there", "vars", "vars 0 0 -1")
	// Without variables, and with states in states, side by side.
	talk(t, "add chart c { region { initial state s { region { initial state t; } region { initial state u; state v; } } } region { initial state w; } }", "add",
		"new", "new", "vars", "vars", "there", "there", "tick 1 2", "tick", "there", "there s t u w", "vars", "vars")
	talk(t, "add chart c { output x := 3; input a; output y := -4; region { initial state s; } }", "add", "new", "new", "tick 9", "tick 3 -4", "vars", "vars 3 9 -4")
}

// Promise 15.1, and rule P2: what runs is the chart as it was; with an error nothing is
// changed.
func TestRunsOn(t *testing.T) {
	counter := "chart c { output x; region { initial state s { during x := x + 1; } } }"
	talk(t, "add "+counter, "add", "new", "new", "tick", "tick 0", "tick", "tick 1",
		"add x", "add", "tick", "tick 2", "new", "error 3", "tick", "tick 3",
		"drop", "drop", "tick", "tick 4", "new", "error 3", "tick", "tick 5",
		"add chart c { }", "add", "new", "error 8", "tick", "tick 6", "tick x", "error 3", "tick", "tick 7",
		"check", "error 8", "code 3", "error 8", "image", "error 8", "trace /", "error 8", "there", "there s", "vars", "vars 7",
		"drop", "drop", "add "+lamp, "add", "code 9", "true", "trace 1", "trace 0/", "eval 5", "eval 5", "tick", "tick 8", "vars", "vars 8",
		"new", "new", "vars", "vars 0 0 -1")
}

// Promise 15.1: what an expression comes to.
func TestEval(t *testing.T) {
	talk(t, "eval 1 + 2 * 3", "eval 7", "eval -7 / 2", "eval -3", "eval -7 % 2", "eval -1", "eval 7 / 0", "eval 0", "eval x", "eval 0", "eval pre(x) == x", "eval 1",
		"eval (1+2)*3", "eval 9", "eval !0", "eval 1", "eval 1||0&&0", "eval 1", "eval 3 < 3", "eval 0", "eval 007", "eval 7",
		"eval 999999999999999999 * 100", "eval 7766279631452241820",
		"eval", "error 3", "eval  ", "error 3", "eval 1 2", "error 3", "eval 1;", "error 3", "eval 1 +", "error 3", "eval ?", "error 3", "eval # 1", "error 3", "eval 1 #", "error 3",
		"eval y", "error 5", "eval s", "error 5", "eval pre(c)", "error 5", "eval state", "error 3", "eval abcdefghijklm", "error 4",
		"eval 1000000000000000000", "error 4", "eval ------1", "eval 1", "eval -------1", "error 4", "eval ((((((1))))))", "eval 1", "eval (((((((1)))))))", "error 4")
	// It stands in a chart: so it may say more than an expression.
	talk(t, "eval 1, x := x + 5", "eval 6", "eval 1; exit x := 2", "eval 1", "eval 1; go immediate --> t; } state t { entry x := x + 8", "eval 9",
		"eval 1; } } output y := 4; input z; output w := -3; region { initial state t { entry w := z + w", "eval 1 4 -3",
		"eval 1; } } region { initial state t { entry x := x + 1; } initial state u { entry x := 0", "error 12",
		"eval 1; } } input x; region { initial state t { entry x := 1", "error 9", "eval 1; go --> t", "error 7", "eval 1; join --> s", "error 6",
		"eval 1; go immediate --> s", "error 11", "eval 1; entry a := 2", "error 5", "eval 1; } } input a; region { initial state t { entry a := 2", "error 1")
	// Neither the text nor what runs makes a difference to it.
	talk(t, "add chart c { output y := 5; region { initial state s; } }", "add", "new", "new", "eval y", "error 5", "eval 3", "eval 3", "vars", "vars 5", "print", "55")
	// The chart around it has 19 tokens.
	const most = (api.MaxTokens - 19 + 1) / 2
	talk(t, "eval "+strings.Repeat("1 + ", most-1)+"1", fmt.Sprint("eval ", most), "eval "+strings.Repeat("1 + ", most)+"1", "error 4")
}

// Promise 15.1: ticks in one line.
func TestTrace(t *testing.T) {
	talk(t, "add "+lamp, "add",
		"trace", "trace ", "trace /", "trace 0/", "trace 0", "trace 0/", "trace 0/", "trace 0/", "trace 0//", "trace 0/0/", "trace //1", "trace 0/0/1/",
		"trace 0/1/0/0", "trace 0/1/1/0/", "trace  0  / 1 /  0 9 /0 / / ", "trace 0/1/1/0/0/", "trace 1 2/3 4", "trace 0/1/", "trace 5", "trace 0/",
		"trace x", "error 3", "trace 1/x", "error 3", "trace 1/01", "error 3", "trace 1/-0", "error 3", "trace 1/2x/3", "error 3", "trace 1\\2", "error 3", "trace 1|2", "error 3", "trace 1,2", "error 3",
		"trace 9223372036854775808", "error 3", "trace -9223372036854775808", "trace 0/",
		// It has nothing to do with what runs.
		"tick", "error 8")
	talk(t, "add "+lamp, "add", "trace "+strings.Repeat("/", api.MaxTicks), "trace "+strings.Repeat("0/", api.MaxTicks), "trace "+strings.Repeat("/", api.MaxTicks+1), "error 4",
		"trace "+strings.Repeat("1/", api.MaxTicks-1)+"1", "trace 0/"+strings.Repeat("1/", api.MaxTicks-1), "trace "+strings.Repeat("1/", api.MaxTicks)+"1", "error 4",
		"trace x"+strings.Repeat("/", api.MaxTicks+1), "error 3", "trace "+strings.Repeat("/", api.MaxTicks)+"x", "error 3")
	// What is wrong with the line behind the last one that may be is told ahead of there being one.
	talk(t, "add "+lamp, "add", "trace "+strings.Repeat("/", api.MaxTicks)+" 1", "error 4", "trace "+strings.Repeat("8/", api.MaxTicks)+"8 +1/8/", "error 3",
		"trace "+strings.Repeat("8/", api.MaxTicks)+"x /x", "error 3", "trace "+strings.Repeat("8/", api.MaxTicks)+"8/x/", "error 4", "trace "+strings.Repeat("/", api.MaxTicks)+"/x", "error 4")
	// Several outputs, and none.
	talk(t, "add chart c { output x; input a; output y := 1; region { initial state s { during x := x + a, y := -x; } } }", "add", "trace 5/5/6", "trace 0 1/5 -5/11 -11/")
	talk(t, "add chart c { input a; region { initial state s; } }", "add", "trace 1/2", "trace //", "trace", "trace ")
	// What is wrong with the ticks is told ahead of what is wrong with the chart.
	talk(t, "trace x", "error 3", "trace "+strings.Repeat("/", 61), "error 4", "trace 1", "error 3", "trace", "error 3",
		"add chart c { }", "add", "trace x", "error 3", "trace 1", "error 8", "trace", "error 8", "trace "+strings.Repeat("/", 61), "error 4")
}

// Promise 15.1: help names all words, and each of them does something.
func TestHelp(t *testing.T) {
	talk(t, "help", "add check code draw drop eval help image new print there tick tokens trace vars", "help me", "error 3")
	d := newDesk()
	words := strings.Fields(Session("help"))
	if len(words) != len(d.alone)+len(d.with) {
		t.Errorf("%d words, %d of them without others, %d with them", len(words), len(d.alone), len(d.with))
	}
	for _, word := range words {
		if (d.alone[word] == nil) == (d.with[word] == nil) {
			t.Errorf("%s does nothing, or two things", word)
		}
	}
}

// Rule P4: what is answered hangs on the text alone, and not on sessions ahead of it.
func TestAgain(t *testing.T) {
	text := "print\ntick\nadd " + lamp + "\nnew\ntick\ntick 1\nvars\nthere\ncode 9\nimage\ntrace 0/1\ndraw\n"
	want := Session(text)
	for range 5 {
		Session("add x\n" + text + "drop\nadd chart c { region { initial state s; } }\nnew\ntick\n")
		same(t, text, want)
	}
	same(t, "print\ntick\nvars\nthere\ntokens", "0\nerror 8\nerror 8\nerror 8\n1\n")
}
