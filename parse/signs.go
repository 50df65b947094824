package parse

import (
	"clepsydra/api"
)

// sign is one of an expression: how it is written, and the code that it draws.
type sign struct {
	text string
	code int
}

// between are the signs between two, those that bind least first: what stands
// in a row binds as tightly as the rest of it, and what has no text is no sign.
var between = [...][4]sign{
	{{"||", api.Or}},
	{{"&&", api.And}},
	{{"==", api.Eq}, {"!=", api.Ne}, {"<", api.Lt}, {"<=", api.Le}},
	{{"+", api.Add}, {"-", api.Sub}},
	{{"*", api.Mul}, {"/", api.Div}, {"%", api.Mod}},
}

// ahead are the signs ahead of one.
var ahead = [...]sign{{"-", api.Neg}, {"!", api.Not}}

// kinds are the words of variables: a kind is a place in it.
var kinds = [...]string{api.In: "input", api.Out: "output", api.Own: "var"}

// leads are the words of ways: a kind is a place in it.
var leads = [...]string{api.Weak: "go", api.Strong: "abort", api.Join: "join"}

// words are what no name may be.
var words = [...]string{
	"abort", "chart", "count", "do", "during", "entry", "exit", "final", "go",
	"history", "immediate", "if", "initial", "input", "join", "output", "pre",
	"region", "state", "suspend", "var",
}

// codeBetween is the code of a sign between two that binds so tightly; 0, if
// it is none.
func codeBetween(text string, tight int) int {
	for _, s := range between[tight] {
		if s.code != 0 && s.text == text {
			return s.code
		}
	}
	return 0
}

// signBetween is how a code of two is written, and how tightly that binds; the
// empty text, if it is none.
func signBetween(code int) (text string, tight int) {
	for i, row := range between {
		for _, s := range row {
			if s.code != 0 && s.code == code {
				return s.text, i
			}
		}
	}
	return "", 0
}

// codeAhead is the code of a sign ahead of one; 0, if it is none.
func codeAhead(text string) int {
	for _, s := range ahead {
		if s.text == text {
			return s.code
		}
	}
	return 0
}

// signAhead is how a code of one is written; the empty text, if it is none.
func signAhead(code int) string {
	for _, s := range ahead {
		if s.code == code {
			return s.text
		}
	}
	return ""
}

// kindOf is the kind of variable that a word begins; 0, which is no kind, if it
// begins none.
func kindOf(word string) int {
	for kind, k := range kinds {
		if k == word {
			return kind
		}
	}
	return 0
}

// leadOf is the kind of way that a word begins, and whether it begins one.
func leadOf(word string) (kind int, ok bool) {
	for kind, l := range leads {
		if l == word {
			return kind, true
		}
	}
	return 0, false
}

// wordOf is the word that begins a variable of a kind; the empty text, if it is
// none.
func wordOf(kind int) string {
	if kind < 0 || kind >= len(kinds) {
		return ""
	}
	return kinds[kind]
}

// leadBy is the word that begins a way of a kind; the empty text, if it is
// none.
func leadBy(kind int) string {
	if kind < 0 || kind >= len(leads) {
		return ""
	}
	return leads[kind]
}

// isWord tells whether a name is one of the chart's own words.
func isWord(name string) bool {
	for _, w := range words {
		if w == name {
			return true
		}
	}
	return false
}
