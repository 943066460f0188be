package label

import (
	"slices"
	"strings"

	"orchestrator/api"
)

// Parse converts text to a selector.
func Parse(text string) ([]api.Requirement, api.Errno) {
	if len(text) > api.MaxText {
		return nil, api.ErrTooLong
	}
	s, ok := readSelector(text)
	if !ok {
		return nil, api.ErrSyntax
	}
	for _, r := range s {
		if e := checkParsed(r); e != api.OK {
			return nil, e
		}
	}
	if len(s) > api.MaxLabels {
		return nil, api.ErrTooLong
	}
	return s, api.OK
}

// Print returns the canonical text of s.
func Print(s []api.Requirement) (string, api.Errno) {
	if !ValidSelector(s) {
		return "", api.ErrInvalid
	}
	parts := make([]string, 0, len(s))
	for _, r := range s {
		parts = append(parts, requirementText(r))
	}
	text := strings.Join(parts, ", ")
	if len(text) > api.MaxText {
		return "", api.ErrTooLong
	}
	return text, api.OK
}

// requirementText returns the text of r, which is valid.
func requirementText(r api.Requirement) string {
	switch r.Op {
	case api.OpIn:
		return r.Key + " in (" + strings.Join(r.Values, ",") + ")"
	case api.OpNotIn:
		return r.Key + " notin (" + strings.Join(r.Values, ",") + ")"
	case api.OpNotExists:
		return "!" + r.Key
	}
	return r.Key
}

// checkParsed returns what is wrong with a requirement that the grammar allows; its values are distinct.
func checkParsed(r api.Requirement) api.Errno {
	if !validKey(r.Key) {
		return api.ErrInvalid
	}
	for _, value := range r.Values {
		if !validValue(value) {
			return api.ErrInvalid
		}
	}
	if len(r.Values) > api.MaxList {
		return api.ErrTooLong
	}
	return api.OK
}

// reader reads a selector text token by token.
type reader struct {
	token string // the token that is read next; empty at the end of the text
	rest  string // what follows the token
}

// readSelector returns the requirements of text, and whether it follows the grammar.
func readSelector(text string) ([]api.Requirement, bool) {
	in := reader{rest: text}
	in.advance()
	if in.token == "" {
		return nil, true
	}
	var s []api.Requirement
	for {
		r, ok := in.requirement()
		if !ok {
			return nil, false
		}
		s = append(s, r)
		if in.token == "" {
			return s, true
		}
		if !in.accept(",") {
			return nil, false
		}
	}
}

func (in *reader) requirement() (api.Requirement, bool) {
	absent := in.accept("!")
	key := in.word()
	if key == "" {
		return api.Requirement{}, false
	}
	if absent {
		return api.Requirement{Key: key, Op: api.OpNotExists}, true
	}
	switch {
	case in.accept("="):
		return api.Requirement{Key: key, Op: api.OpIn, Values: []string{in.word()}}, true
	case in.accept("!="):
		return api.Requirement{Key: key, Op: api.OpNotIn, Values: []string{in.word()}}, true
	case in.accept("in"):
		values, ok := in.list()
		return api.Requirement{Key: key, Op: api.OpIn, Values: values}, ok
	case in.accept("notin"):
		values, ok := in.list()
		return api.Requirement{Key: key, Op: api.OpNotIn, Values: values}, ok
	}
	return api.Requirement{Key: key, Op: api.OpExists}, true
}

// list reads a list of values and returns them sorted, without duplicates.
func (in *reader) list() ([]string, bool) {
	if !in.accept("(") {
		return nil, false
	}
	values := []string{in.word()}
	for in.accept(",") {
		values = append(values, in.word())
	}
	if !in.accept(")") {
		return nil, false
	}
	slices.Sort(values)
	return slices.Compact(values), true
}

// word reads a word, or nothing if another token is next.
func (in *reader) word() string {
	word := in.token
	if wordLength(word) == 0 {
		return ""
	}
	in.advance()
	return word
}

// accept reads the next token if it is the given one.
func (in *reader) accept(token string) bool {
	if in.token != token {
		return false
	}
	in.advance()
	return true
}

// advance puts the first token of the rest in the place of the current one.
func (in *reader) advance() {
	text := strings.TrimLeft(in.rest, " ")
	n := tokenLength(text)
	in.token, in.rest = text[:n], text[n:]
}

// tokenLength returns the length of the token at the beginning of text, which has no blank there.
func tokenLength(text string) int {
	if n := wordLength(text); n > 0 {
		return n
	}
	if strings.HasPrefix(text, "!=") {
		return 2
	}
	// A byte that begins no token counts as one of its own: no rule of the grammar accepts it.
	return min(1, len(text))
}
