package desk

import (
	"fmt"
	"math/rand"
	"regexp"
	"strconv"
	"strings"
	"testing"

	"clepsydra/api"
	"clepsydra/check"
	"clepsydra/emit"
	"clepsydra/image"
	"clepsydra/lex"
	"clepsydra/net"
	"clepsydra/parse"
	"clepsydra/run"
)

// number is the form of one; it may be too great yet.
const number = `(0|-?[1-9][0-9]*)`

// forms are those of all lines, of which the blanks at both ends are cut, and several
// between words are one.
var forms = []*regexp.Regexp{
	regexp.MustCompile(`^(drop|check|draw|image|new|vars|there|tokens|print|help)()$`),
	regexp.MustCompile(`^(code) ` + number + `$`),
	regexp.MustCompile(`^(tick)((?: ` + number + `)*)$`),
	regexp.MustCompile(`(?s)^(add|eval|trace)(| .*)$`),
}

// second answers a session by the words of 15.1: another way round than Session does.
type second struct {
	text string
	runs *run.Runner
}

// session is all of it.
func (s *second) session(text string) string {
	if len(text) > api.MaxText {
		return "error 4\n"
	}
	lines := strings.Split(text, "\n")
	if len(lines) > 1 && lines[len(lines)-1] == "" {
		lines = lines[:len(lines)-1]
	}
	told := ""
	for _, line := range lines {
		answer, err := s.line(regexp.MustCompile(" +").ReplaceAllString(strings.Trim(line, " "), " "))
		if err != nil {
			answer = fmt.Sprint("error ", int(api.Tell(err)))
		}
		told += answer + "\n"
	}
	return told
}

// line is what is told of one.
func (s *second) line(line string) (string, error) {
	if line == "" {
		return "ok", nil
	}
	for _, form := range forms {
		if m := form.FindStringSubmatch(line); m != nil {
			return s.word(m[1], strings.TrimPrefix(m[2], " "))
		}
	}
	return "", api.ErrForm
}

// word is what is told of a first word, and of the text behind it.
func (s *second) word(word, rest string) (string, error) {
	switch word {
	case "add":
		s.text += rest + "\n"
	case "drop":
		s.text = ""
	case "help":
		return "add check code draw drop eval help image new print there tick tokens trace vars", nil
	case "print":
		return fmt.Sprint(len(s.text)), nil
	case "tokens":
		l, err := lex.Split(s.text)
		return fmt.Sprint(len(l)), err
	case "eval":
		c, err := parse.Parse("chart c { output x; region { initial state s { entry x := " + rest + "; } } }")
		if err != nil {
			return "", err
		}
		r, err := run.New(c)
		if err != nil {
			return "", err
		}
		return word + listed(r.Tick(nil)), nil
	case "tick", "vars", "there":
		return s.running(word, rest)
	default:
		return s.drawn(word, rest)
	}
	return word, nil
}

// running is what is told of what runs.
func (s *second) running(word, rest string) (string, error) {
	ins, err := read(rest)
	switch {
	case err != nil:
		return "", err
	case s.runs == nil:
		return "", api.ErrNone
	case word == "tick":
		return word + listed(s.runs.Tick(ins)), nil
	case word == "vars":
		return word + listed(s.runs.Vars()), nil
	}
	return strings.Join(append([]string{word}, s.runs.There()...), " "), nil
}

// drawn is what is told of what the text draws.
func (s *second) drawn(word, rest string) (string, error) {
	c, wrong := parse.Parse(s.text)
	switch word {
	case "draw":
		return strings.Join(strings.Split(strings.TrimSuffix(parse.Print(c), "\n"), "\n"), "|"), wrong
	case "code":
		ticks, err := read(rest)
		if err != nil {
			return "", err
		}
		if ticks[0] < 0 || ticks[0] > 60 {
			return "", api.ErrRange
		}
		return does(c, wrong, int(ticks[0]))
	case "trace":
		return s.traced(c, wrong, rest)
	}
	if wrong != nil {
		return "", wrong
	}
	if err := check.Check(c); err != nil {
		return "", err
	}
	switch word {
	case "new":
		s.runs, wrong = run.New(c)
	case "image":
		n, err := emit.Emit(c)
		if err != nil {
			return "", err
		}
		_, err = image.Write(n)
		return "true", err
	}
	return word, wrong
}

// does tells whether a chart's code does what it does; it is to do so.
func does(c api.Chart, wrong error, ticks int) (string, error) {
	if wrong != nil {
		return "", wrong
	}
	n, err := emit.Emit(c)
	if err != nil {
		return "", err
	}
	m, err := net.New(n)
	if err != nil {
		return "", err
	}
	r, err := run.New(c)
	for range ticks {
		if listed(m.Tick(nil)) != listed(r.Tick(nil)) {
			return "false", nil
		}
	}
	return "true", err
}

// traced is what a chart tells of ticks in one line.
func (s *second) traced(c api.Chart, wrong error, rest string) (string, error) {
	var ins [][]int64
	lines := strings.Split(rest, "/")
	if lines[len(lines)-1] == "" {
		lines = lines[:len(lines)-1]
	}
	for i, line := range lines {
		tick, err := read(line)
		if err != nil {
			return "", err
		}
		if i == 60 {
			return "", api.ErrLimit
		}
		ins = append(ins, tick)
	}
	if wrong != nil {
		return "", wrong
	}
	r, err := run.New(c)
	if err != nil {
		return "", err
	}
	told := "trace "
	for _, tick := range ins {
		told += strings.TrimPrefix(listed(r.Tick(tick)), " ") + "/"
	}
	return told, nil
}

// read are a text's numbers.
func read(s string) ([]int64, error) {
	if !regexp.MustCompile(`^ *(` + number + `( |$) *)*$`).MatchString(s) {
		return nil, api.ErrForm
	}
	var l []int64
	for _, word := range strings.Split(s, " ") {
		if word == "" {
			continue
		}
		n, err := strconv.ParseInt(word, 10, 64)
		if err != nil {
			return nil, api.ErrForm
		}
		l = append(l, n)
	}
	return l, nil
}

// listed are numbers, each with a blank ahead.
func listed(l []int64) string {
	told := ""
	for _, n := range l {
		told += fmt.Sprint(" ", n)
	}
	return told
}

// lot draws sessions.
type lot struct{ *rand.Rand }

// of is one of several.
func (l lot) of(texts ...string) string { return texts[l.Intn(len(texts))] }

// chart is a text that draws one; now and then one that may not be, or none.
func (l lot) chart() string {
	counter := "chart c { input a; output x; output y := 7; region { initial state s { during x := x + a, y := -pre(x); go if count 2 a --> t; } state t { abort if a < 0 --> s history; " +
		"region { initial state u { go immediate if y --> v; } final state v; } join do x := 0 --> s; } } }"
	wrong := wrongCharts()
	return l.of(lamp, lamp, counter, counter, counter, "chart c { region { initial state s; } region { initial state t { region { initial state u; } } } }",
		"chart c { output x := -4; region { initial state s { during x := x * x % 11; suspend x == 3; } } }", wrong[l.Intn(len(wrong))].text)
}

// word is a number, mostly a small one, or nearly one.
func (l lot) word() string {
	return l.of("0", "1", "1", "2", "-1", "7", fmt.Sprint(l.Intn(70)-3), "60", "61", "9223372036854775807", "9223372036854775808", "-0", "01", "x", "1/2")
}

// words are some, with blanks between, several now and then.
func (l lot) words(most int) string {
	s := ""
	for range l.Intn(most + 1) {
		s += l.of(" ", " ", " ", "  ") + l.word()
	}
	return s
}

// line is one.
func (l lot) line() string {
	switch l.Intn(12) {
	case 0:
		return "add " + l.chart()
	case 1:
		return l.of("add", "add #", "add }", "add x", "drop", "drop", "drop", "add   # a   b  ")
	case 2, 3:
		return "tick" + l.of("", " 0", " 1", " 1 2", l.words(3))
	case 4:
		return "code" + l.of(" 3", " 60", l.words(1), l.words(2))
	case 5:
		return "eval " + l.of("1 + 2", "-7 / 2", "x", "y", "1;", "", "(1", "9 % 5 * 3", "1 # 2", "1, x := 3", "1; } } output z := 3; region { initial state s { exit x := 2")
	case 6:
		return "trace" + l.of("", " 1", " 1/0 1", " //1", " 1 / 1 / 1", " "+strings.Repeat("1/", 55+l.Intn(8))+l.of("", "1", "x"), strings.ReplaceAll(l.words(6), " ", l.of(" ", "/", " / ")))
	case 7:
		return "new"
	case 8:
		return l.of("", " ", "zz", "new x", "drop 1", "help me", "Help", "there there")
	}
	return l.of("vars", "there", "check", "draw", "image", "tokens", "print", "help", "new", " vars ", "  there", "draw  ")
}

// session is some lines; mostly it begins with a chart.
func (l lot) session() string {
	s := l.of("", "add "+l.chart()+"\n", "add "+l.chart()+"\n", "add "+l.chart()+"\nnew\n")
	for range l.Intn(12) {
		s += l.line() + l.of("\n", "\n", "\n", " \n", "\n\n")
		// A new chart has to stand alone.
		if l.Intn(8) == 0 {
			s += "drop\nadd " + l.chart() + "\n"
		}
	}
	if l.Intn(4) == 0 {
		s = strings.TrimSuffix(s, "\n")
	}
	return s
}

// bent is a text of which some bytes are others.
func (l lot) bent(s string) string {
	const letters = "0019--  \n\n//#;:=(){}+ax\t\r\x00\xff"
	for range l.Intn(4) {
		i, k := l.Intn(len(s)+1), l.Intn(len(letters))
		switch cut := min(i+l.Intn(2), len(s)); l.Intn(3) {
		case 0:
			s = s[:i] + s[cut:]
		case 1:
			s = s[:i] + letters[k:k+1] + s[i:]
		default:
			s = s[:i] + letters[k:k+1] + s[cut:]
		}
	}
	return s
}

// agrees fails the test unless a text is answered as the second way round answers it.
func agrees(t *testing.T, text string) string {
	t.Helper()
	got, want := Session(text), (&second{}).session(text)
	if got != want {
		t.Fatalf("%q: %q; want %q", text, got, want)
	}
	return got
}

// Promise 15.1: sessions drawn by lot, some of them bent.
func TestSessionsByLot(t *testing.T) {
	l := lot{rand.New(rand.NewSource(15))}
	found := map[string]int{}
	for range 4000 {
		text := l.session()
		for _, told := range []string{agrees(t, text), agrees(t, l.bent(text))} {
			for _, line := range strings.Split(told, "\n") {
				first, _, _ := strings.Cut(line, " ")
				if first == "error" {
					first = line
				}
				found[first]++
			}
		}
	}
	for _, first := range strings.Fields("ok add drop check chart true new tick vars there eval trace") {
		if found[first] < 300 {
			t.Errorf("%s is told %d times", first, found[first])
		}
	}
	for _, e := range []api.Errno{1, 2, 3, 4, 5, 6, 7, 8, 9, 11, 12} {
		if found[wrong(e)] < 20 {
			t.Errorf("%s is told %d times", wrong(e), found[wrong(e)])
		}
	}
	if found["false"] != 0 {
		t.Errorf("false is told %d times", found["false"])
	}
}

// Promise 15.1: each byte, alone, in a word, and between words.
func TestEachByte(t *testing.T) {
	for i := range 256 {
		b := string([]byte{byte(i)})
		for _, s := range []string{"", "tick", "tick ", "tick 1", "tick -", "add", "add ", "add a", "trace ", "trace 1", "eval 1", "eval ", "code ", "code 1", "drop", "drop ", "print\n"} {
			for _, behind := range []string{"", "1", " 1", "1 ", "\nprint", "drop"} {
				agrees(t, s+b+behind)
				agrees(t, "add "+lamp+"\nnew\n"+s+b+behind)
			}
		}
	}
}

// Rule P1: whatever bytes there are, and however long, something is told.
func TestAnyBytes(t *testing.T) {
	l := lot{rand.New(rand.NewSource(151))}
	for range 3000 {
		b := make([]byte, l.Intn(80))
		for i := range b {
			b[i] = byte(l.Intn(256))
		}
		agrees(t, l.of("", "add ", "eval ", "trace ", "tick ")+string(b))
	}
	for range 20 {
		text := ""
		for length := api.MaxText - 200 + l.Intn(300); len(text) < length; {
			text += l.line() + "\n"
		}
		agrees(t, text)
	}
}
