package desk

import (
	"slices"
	"strconv"
	"strings"

	"clepsydra/api"
	"clepsydra/check"
	"clepsydra/emit"
	"clepsydra/image"
	"clepsydra/lex"
	"clepsydra/parse"
	"clepsydra/run"
	"clepsydra/trace"
)

// helpLine are all words that a line may begin with.
const helpLine = "add check code draw drop eval help image new print there tick tokens trace vars"

// What stands ahead of an expression, and behind it, in the chart that tells it.
const (
	evalAhead  = "chart c { output x; region { initial state s { entry x := "
	evalBehind = "; } } }"
)

// chart is what the text draws.
func (d *desk) chart() api.Chart { return must(parse.Parse(d.text)) }

// runner is what runs.
func (d *desk) runner() *run.Runner {
	need(d.runs != nil, api.ErrNone)
	return d.runs
}

func (d *desk) add(rest []string) string {
	d.text += join(rest) + feed
	return "add"
}

func (d *desk) drop() string {
	d.text = ""
	return "drop"
}

func (d *desk) check() string {
	if err := check.Check(d.chart()); err != nil {
		panic(api.Tell(err))
	}
	return "check"
}

func (d *desk) draw() string {
	drawn := strings.TrimSuffix(parse.Print(d.chart()), feed)
	return strings.ReplaceAll(drawn, feed, "|")
}

func (d *desk) code(rest []string) string {
	need(len(rest) == 1, api.ErrForm)
	many := numbers(rest)[0]
	need(0 <= many && many <= api.MaxTicks, api.ErrRange)
	c := d.chart()
	n := must(emit.Emit(c))
	ins := make([][]int64, many)
	code, chart := must(trace.Code(n, ins)), must(trace.Chart(c, ins))
	return strconv.FormatBool(slices.EqualFunc(code, chart, slices.Equal[[]int64]))
}

func (d *desk) image() string {
	bytes := must(image.Write(must(emit.Emit(d.chart()))))
	again := must(image.Write(must(image.Read(bytes))))
	return strconv.FormatBool(again == bytes)
}

// start is what new does. What ran goes on, if the chart may not be.
func (d *desk) start() string {
	d.runs = must(run.New(d.chart()))
	return "new"
}

func (d *desk) tick(rest []string) string {
	// A word that is no number is told even if nothing runs.
	ins := numbers(rest)
	return "tick" + spaced(d.runner().Tick(ins))
}

func (d *desk) vars() string { return "vars" + spaced(d.runner().Vars()) }

func (d *desk) there() string {
	told := "there"
	for _, name := range d.runner().There() {
		told += string(blank) + name
	}
	return told
}

func (d *desk) tokens() string { return strconv.Itoa(len(must(lex.Split(d.text)))) }

func (d *desk) eval(rest []string) string {
	c := must(parse.Parse(evalAhead + join(rest) + evalBehind))
	return "eval" + spaced(must(run.New(c)).Tick(nil))
}

func (d *desk) trace(rest []string) string {
	// A line that is none is told even if the text draws nothing.
	ins := must(trace.Read(strings.ReplaceAll(join(rest), "/", feed)))
	outs := must(trace.Chart(d.chart(), ins))
	return "trace " + strings.ReplaceAll(trace.Print(outs), feed, "/")
}

func (d *desk) print() string { return strconv.Itoa(len(d.text)) }

func (d *desk) help() string { return helpLine }

// join are words with one blank between, however many stood there.
func join(words []string) string { return strings.Join(words, string(blank)) }

// numbers are what words say: they are those of one tick.
func numbers(words []string) []int64 {
	if len(words) == 0 {
		return nil
	}
	return must(trace.Read(join(words)))[0]
}

// spaced are numbers, each with a blank ahead.
func spaced(numbers []int64) string {
	var b strings.Builder
	for _, n := range numbers {
		b.WriteRune(blank)
		b.WriteString(strconv.FormatInt(n, 10))
	}
	return b.String()
}
