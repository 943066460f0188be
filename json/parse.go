package json

import (
	"slices"
	"strings"

	"orchestrator/api"
	"orchestrator/value"
)

// Parse returns the value of a JSON text, or the offset of its first error and the error.
func Parse(s string) (v api.Value, at int, code api.Errno) {
	if len(s) > api.MaxText {
		return api.Value{}, api.MaxText, api.ErrTooLong
	}
	defer func() {
		if found, failed := recover().(failure); failed {
			v, at, code = api.Value{}, found.at, found.code
		}
	}()
	p := parser{text: s}
	return p.readText(), 0, api.OK
}

// failure is what the parser panics with at the first error, so that nothing behind it is read.
type failure struct {
	at   int
	code api.Errno
}

// parser reads a text from left to right.
type parser struct {
	text   string
	at     int // the offset of the next byte
	values int // how many values have begun
}

// fail reports an error at the next byte.
func (p *parser) fail(code api.Errno) {
	p.failAt(p.at, code)
}

func (p *parser) failAt(at int, code api.Errno) {
	panic(failure{at: at, code: code})
}

// peek returns the next byte; the text must not end here.
func (p *parser) peek() byte {
	if p.at == len(p.text) {
		p.fail(api.ErrTruncated)
	}
	return p.text[p.at]
}

// peekBehindBlanks skips blanks and returns the next byte; the text must not end here.
func (p *parser) peekBehindBlanks() byte {
	p.skipBlanks()
	return p.peek()
}

func (p *parser) skipBlanks() {
	for p.at < len(p.text) && isBlank(p.text[p.at]) {
		p.at++
	}
}

// readText reads a value and the end of the text.
func (p *parser) readText() api.Value {
	v := p.readValue(1, false)
	p.skipBlanks()
	if p.at < len(p.text) {
		p.fail(api.ErrSyntax)
	}
	return v
}

// readValue reads a value of the given depth; full tells that it would be an element of a list that has no room for it.
func (p *parser) readValue(depth int, full bool) api.Value {
	first := p.peekBehindBlanks()
	// A byte that begins no value is an error of syntax, even where there is no room for a value.
	if !beginsValue(first) {
		p.fail(api.ErrSyntax)
	}
	if full || depth > api.MaxDepth || p.values == api.MaxValues {
		p.fail(api.ErrTooLong)
	}
	p.values++
	switch first {
	case 'n':
		return p.readWord("null", value.Null())
	case 't':
		return p.readWord("true", value.Bool(true))
	case 'f':
		return p.readWord("false", value.Bool(false))
	case '"':
		return value.String(p.readString())
	case '[':
		return p.readList(depth)
	case '{':
		return p.readMap(depth)
	}
	return p.readNumber()
}

func (p *parser) readWord(word string, v api.Value) api.Value {
	for i := range len(word) {
		p.readByte(word[i])
	}
	return v
}

// readByte reads the one byte that can stand here.
func (p *parser) readByte(c byte) {
	if p.peek() != c {
		p.fail(api.ErrSyntax)
	}
	p.at++
}

func (p *parser) readNumber() api.Value {
	start := p.at
	sign := 1
	if p.peek() == '-' {
		sign = -1
		p.at++
		if c := p.peek(); !isDigit(c) || c == '0' {
			p.fail(api.ErrSyntax)
		}
	}
	n := p.readDigits()
	if n > api.MaxNumber {
		p.failAt(start, api.ErrRange)
	}
	return value.Int(sign * n)
}

// readDigits returns the number of the digits that follow, or some number greater than MaxNumber if theirs is.
func (p *parser) readDigits() int {
	start, n := p.at, 0
	for ; p.at < len(p.text) && isDigit(p.text[p.at]); p.at++ {
		if p.at > start && p.text[start] == '0' {
			p.fail(api.ErrSyntax)
		}
		// Beyond MaxNumber the number is left as it is, so that many digits do not overflow it.
		if n <= api.MaxNumber {
			n = 10*n + int(p.text[p.at]-'0')
		}
	}
	return n
}

func (p *parser) readString() string {
	p.readByte('"')
	var characters []byte
	for p.peek() != '"' {
		if !isPrintable(p.peek()) {
			p.fail(api.ErrSyntax)
		}
		if len(characters) == api.MaxString {
			p.fail(api.ErrTooLong)
		}
		characters = append(characters, p.readCharacter())
	}
	p.readByte('"')
	return string(characters)
}

// readCharacter reads a printable byte or an escape.
func (p *parser) readCharacter() byte {
	c := p.peek()
	p.at++
	if c != '\\' {
		return c
	}
	escaped := p.peek()
	if escaped != '"' && escaped != '\\' && escaped != 'n' {
		p.fail(api.ErrSyntax)
	}
	p.at++
	if escaped == 'n' {
		return '\n'
	}
	return escaped
}

func (p *parser) readList(depth int) api.Value {
	p.readByte('[')
	if p.readClosing(']') {
		return value.List()
	}
	var elements []api.Value
	for {
		elements = append(elements, p.readValue(depth+1, len(elements) == api.MaxList))
		if p.readSeparator(']') {
			return value.List(elements...)
		}
	}
}

func (p *parser) readMap(depth int) api.Value {
	p.readByte('{')
	if p.readClosing('}') {
		return value.Map()
	}
	var fields []api.Field
	for {
		fields = append(fields, p.readField(depth, fields))
		if p.readSeparator('}') {
			return value.Map(fields...)
		}
	}
}

// readField reads a field of a map of the given depth that has the earlier fields already.
func (p *parser) readField(depth int, earlier []api.Field) api.Field {
	if p.peekBehindBlanks() != '"' {
		p.fail(api.ErrSyntax)
	}
	if len(earlier) == api.MaxList {
		p.fail(api.ErrTooLong)
	}
	start := p.at
	name := p.readName()
	if slices.ContainsFunc(earlier, func(one api.Field) bool { return one.Name == name }) {
		p.failAt(start, api.ErrExists)
	}
	p.skipBlanks()
	p.readByte(':')
	return api.Field{Name: name, V: p.readValue(depth+1, false)}
}

func (p *parser) readName() string {
	p.readByte('"')
	start := p.at
	for p.at == start || p.peek() != '"' {
		if !isNameByte(p.peek()) {
			p.fail(api.ErrSyntax)
		}
		if p.at-start == api.MaxName {
			p.fail(api.ErrTooLong)
		}
		p.at++
	}
	name := p.text[start:p.at]
	p.readByte('"')
	return name
}

// readClosing reads the closing byte if it is next, and reports whether it was.
func (p *parser) readClosing(closing byte) bool {
	if p.peekBehindBlanks() != closing {
		return false
	}
	p.at++
	return true
}

// readSeparator reads a comma or the closing byte, and reports whether it was the latter.
func (p *parser) readSeparator(closing byte) bool {
	if p.readClosing(closing) {
		return true
	}
	p.readByte(',')
	return false
}

func isBlank(c byte) bool {
	return c == ' ' || c == '\t' || c == '\n' || c == '\r'
}

func isDigit(c byte) bool {
	return '0' <= c && c <= '9'
}

func isPrintable(c byte) bool {
	return 32 <= c && c <= 126
}

func isNameByte(c byte) bool {
	return 'a' <= c && c <= 'z' || 'A' <= c && c <= 'Z' || isDigit(c) || c == '-' || c == '_' || c == '/'
}

func beginsValue(c byte) bool {
	return isDigit(c) || strings.IndexByte(`-ntf"[{`, c) >= 0
}
