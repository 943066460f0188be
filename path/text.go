package path

import (
	"strconv"
	"strings"

	"orchestrator/api"
)

// Parse converts a text to a path.
func Parse(s string) ([]api.Step, api.Errno) {
	if len(s) > api.MaxText {
		return nil, api.ErrTooLong
	}
	p, ok := readPath(s)
	if !ok {
		return nil, api.ErrSyntax
	}
	if !Valid(p) {
		return nil, api.ErrInvalid
	}
	return p, api.OK
}

// Print returns the text of p.
func Print(p []api.Step) (string, api.Errno) {
	if !Valid(p) {
		return "", api.ErrInvalid
	}
	var text strings.Builder
	for i, s := range p {
		if s.Kind == api.SField && i > 0 {
			text.WriteByte('.')
		}
		text.WriteString(stepText(s))
	}
	return text.String(), api.OK
}

// stepText returns the text of a valid step, without the dot before a name.
func stepText(s api.Step) string {
	switch s.Kind {
	case api.SIndex:
		return "[" + strconv.Itoa(s.Index) + "]"
	case api.SKey:
		return "[" + s.Name + "=" + quote(s.Value) + "]"
	}
	return s.Name
}

func quote(s string) string {
	quoted := []byte{'"'}
	for i := range len(s) {
		switch s[i] {
		case '"', '\\':
			quoted = append(quoted, '\\', s[i])
		case '\n':
			quoted = append(quoted, '\\', 'n')
		default:
			quoted = append(quoted, s[i])
		}
	}
	return string(append(quoted, '"'))
}

// readPath returns the steps of a text, valid or not, and whether it follows the grammar.
func readPath(text string) ([]api.Step, bool) {
	var p []api.Step
	in := reader{rest: text}
	for in.rest != "" {
		s, ok := in.step(len(p) == 0)
		if !ok {
			return nil, false
		}
		p = append(p, s)
	}
	return p, true
}

// reader reads a text from its beginning; rest is what it has not read yet.
type reader struct {
	rest string
}

// accept reads the word if it is next, and reports whether it was.
func (in *reader) accept(word string) bool {
	rest, found := strings.CutPrefix(in.rest, word)
	in.rest = rest
	return found
}

// name reads as much as may stand in a name, which may be nothing.
func (in *reader) name() string {
	n := nameLength(in.rest)
	name := in.rest[:n]
	in.rest = in.rest[n:]
	return name
}

func (in *reader) step(first bool) (api.Step, bool) {
	if in.accept("[") {
		return in.bracket()
	}
	if !first && !in.accept(".") {
		return api.Step{}, false
	}
	name := in.name()
	return api.Step{Kind: api.SField, Name: name}, name != ""
}

// bracket reads what follows an opening bracket.
func (in *reader) bracket() (api.Step, bool) {
	// Digits may be an index or the name of a key: what follows them tells.
	name := in.name()
	if in.accept("]") {
		index, ok := parseIndex(name)
		return api.Step{Kind: api.SIndex, Index: index}, ok
	}
	if name == "" || !in.accept(`="`) {
		return api.Step{}, false
	}
	content, ok := in.quoted()
	return api.Step{Kind: api.SKey, Name: name, Value: content}, ok && in.accept("]")
}

// quoted reads what follows an opening quote, up to the closing one.
func (in *reader) quoted() (string, bool) {
	var content []byte
	for {
		switch {
		case in.accept(`"`):
			return string(content), true
		case in.accept(`\"`):
			content = append(content, '"')
		case in.accept(`\\`):
			content = append(content, '\\')
		case in.accept(`\n`):
			content = append(content, '\n')
		case in.rest == "" || in.rest[0] == '\\' || !isPrintable(in.rest[0]):
			return "", false
		default:
			content = append(content, in.rest[0])
			in.rest = in.rest[1:]
		}
	}
}

// parseIndex returns the number that the digits denote, and whether they are a decimal number without leading zeros.
// A number above MaxList is answered as MaxList + 1: no path with it is valid, and many digits do not overflow it.
func parseIndex(digits string) (int, bool) {
	if digits == "" || digits[0] == '0' && len(digits) > 1 {
		return 0, false
	}
	n := 0
	for _, r := range digits {
		if !isDigit(r) {
			return 0, false
		}
		n = min(10*n+int(r-'0'), api.MaxList+1)
	}
	return n, true
}

func isPrintable(c byte) bool {
	return 32 <= c && c <= 126
}
