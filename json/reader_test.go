package json

import (
	stdjson "encoding/json"
	"fmt"
	"maps"
	"math/big"
	"slices"
	"strings"

	"orchestrator/api"
)

const (
	blanks    = " \t\n\r"
	digits    = "0123456789"
	nameBytes = "abcdefghijklmnopqrstuvwxyzABCDEFGHIJKLMNOPQRSTUVWXYZ" + digits + "-_/"
	openings  = digits + `-ntf"[{` // what a value may begin with
)

// characters returns the bytes that may stand in a string, the backslash included.
func characters() string {
	all := []byte{}
	for c := byte(32); c <= 126; c++ {
		all = append(all, c)
	}
	return string(all)
}

// reader is told a text byte by byte and keeps on a stack what it is inside of. It finds the errors in another way than the parser, which follows the grammar by calls.
type reader struct {
	place   string // where in the grammar the next byte stands
	inside  []frame
	values  int
	from    int    // the offset of the first byte of the number or the name that is being read
	pending string // the bytes of the number or name so far, or those of the word that must follow
	length  int    // how many characters the string has
}

type frame struct {
	closing byte
	members int
	names   map[string]bool
}

// expectError returns the offset and the error of the first error of a text.
func expectError(text string) (int, api.Errno) {
	if len(text) > 20000 {
		return 20000, api.ErrTooLong
	}
	in := reader{place: "value"}
	for i := range len(text) {
		if at, e := in.take(text[i], i); e != api.OK {
			return at, e
		}
	}
	if e := in.endNumber(); e != api.OK {
		return in.from, e
	}
	if in.place != "behind" || len(in.inside) > 0 {
		return len(text), api.ErrTruncated
	}
	return 0, api.OK
}

func (in *reader) top() *frame { return &in.inside[len(in.inside)-1] }

// endNumber ends a number that is complete.
func (in *reader) endNumber() api.Errno {
	if in.place != "zero" && in.place != "digits" {
		return api.OK
	}
	in.place = "behind"
	n, ok := new(big.Int).SetString(in.pending, 10)
	if !ok || n.CmpAbs(big.NewInt(1000000000000000)) > 0 {
		return api.ErrRange
	}
	return api.OK
}

func (in *reader) take(c byte, at int) (int, api.Errno) {
	if isOneOf(c, digits) && in.place == "zero" {
		return at, api.ErrSyntax
	}
	if isOneOf(c, digits) && in.place == "digits" {
		in.pending += string(c)
		return 0, api.OK
	}
	if e := in.endNumber(); e != api.OK {
		return in.from, e
	}
	if isOneOf(c, blanks) && slices.Contains([]string{"value", "first", "name", "firstname", "colon", "behind"}, in.place) {
		return 0, api.OK
	}
	switch in.place {
	case "value", "first":
		return in.takeOpening(c, at)
	case "name", "firstname":
		return in.takeQuote(c, at)
	case "inname":
		return in.takeNameByte(c, at)
	case "colon":
		in.place = "value"
		return at, refuseUnless(c == ':')
	case "behind":
		return at, in.takeSeparator(c)
	case "word":
		rest, ok := strings.CutPrefix(in.pending, string(rune(c)))
		if in.pending = rest; rest == "" {
			in.place = "behind"
		}
		return at, refuseUnless(ok)
	case "minus":
		in.place, in.pending = "digits", "-"+string(rune(c))
		return at, refuseUnless(isOneOf(c, "123456789"))
	case "escape":
		in.place = "string"
		return at, refuseUnless(isOneOf(c, `"\n`))
	}
	return at, in.takeCharacter(c)
}

func isOneOf(c byte, of string) bool { return strings.IndexByte(of, c) >= 0 }

func refuseUnless(ok bool) api.Errno {
	if ok {
		return api.OK
	}
	return api.ErrSyntax
}

func (in *reader) takeOpening(c byte, at int) (int, api.Errno) {
	if c == ']' && in.place == "first" {
		return at, in.takeSeparator(c)
	}
	if !isOneOf(c, openings) {
		return at, api.ErrSyntax
	}
	in.values++
	if in.values > 600 || len(in.inside) == 12 {
		return at, api.ErrTooLong
	}
	if len(in.inside) > 0 && in.top().closing == ']' {
		if in.top().members++; in.top().members > 64 {
			return at, api.ErrTooLong
		}
	}
	switch c {
	case '[':
		in.place, in.inside = "first", append(in.inside, frame{closing: ']'})
	case '{':
		in.place, in.inside = "firstname", append(in.inside, frame{closing: '}', names: map[string]bool{}})
	case '"':
		in.place, in.length = "string", 0
	case '-':
		in.place, in.from = "minus", at
	case '0':
		in.place, in.from, in.pending = "zero", at, "0"
	case 'n', 't', 'f':
		in.place, in.pending = "word", map[byte]string{'n': "ull", 't': "rue", 'f': "alse"}[c]
	default:
		in.place, in.from, in.pending = "digits", at, string(c)
	}
	return 0, api.OK
}

func (in *reader) takeQuote(c byte, at int) (int, api.Errno) {
	if c == '}' && in.place == "firstname" {
		return at, in.takeSeparator(c)
	}
	if c != '"' {
		return at, api.ErrSyntax
	}
	if in.top().members++; in.top().members > 64 {
		return at, api.ErrTooLong
	}
	in.place, in.from, in.pending = "inname", at, ""
	return 0, api.OK
}

func (in *reader) takeNameByte(c byte, at int) (int, api.Errno) {
	if c == '"' && in.pending != "" {
		if in.top().names[in.pending] {
			return in.from, api.ErrExists
		}
		in.top().names[in.pending] = true
		in.place = "colon"
		return 0, api.OK
	}
	if !isOneOf(c, nameBytes) {
		return at, api.ErrSyntax
	}
	if in.pending += string(c); len(in.pending) > 40 {
		return at, api.ErrTooLong
	}
	return 0, api.OK
}

func (in *reader) takeSeparator(c byte) api.Errno {
	if len(in.inside) == 0 {
		return api.ErrSyntax
	}
	switch c {
	case in.top().closing:
		in.place, in.inside = "behind", in.inside[:len(in.inside)-1]
	case ',':
		in.place = map[byte]string{']': "value", '}': "name"}[in.top().closing]
	default:
		return api.ErrSyntax
	}
	return api.OK
}

func (in *reader) takeCharacter(c byte) api.Errno {
	if c == '"' {
		in.place = "behind"
		return api.OK
	}
	if !isOneOf(c, characters()) {
		return api.ErrSyntax
	}
	if in.length++; in.length > 200 {
		return api.ErrTooLong
	}
	if c == '\\' {
		in.place = "escape"
	}
	return api.OK
}

// expectValue returns the value of a text that is accepted, as the library reads it.
func expectValue(text string) api.Value {
	decoder := stdjson.NewDecoder(strings.NewReader(text))
	decoder.UseNumber()
	var tree any
	if err := decoder.Decode(&tree); err != nil {
		panic(err)
	}
	return fromTree(tree)
}

func fromTree(tree any) api.Value {
	switch x := tree.(type) {
	case nil:
		return api.Value{}
	case bool:
		return boolean(x)
	case stdjson.Number:
		n, err := x.Int64()
		if err != nil {
			panic(err)
		}
		return number(int(n))
	case string:
		return text(x)
	case []any:
		v := list()
		for _, one := range x {
			v.List = append(v.List, fromTree(one))
		}
		return v
	case map[string]any:
		v := fields()
		for _, name := range slices.Sorted(maps.Keys(x)) {
			v.Fields = append(v.Fields, field(name, fromTree(x[name])))
		}
		return v
	}
	panic(fmt.Sprintf("%T in a tree", tree))
}

// expectPrint returns the text of a valid value, as the library writes it.
func expectPrint(v api.Value) string {
	var out strings.Builder
	encoder := stdjson.NewEncoder(&out)
	encoder.SetEscapeHTML(false)
	if err := encoder.Encode(toTree(v)); err != nil {
		panic(err)
	}
	return strings.TrimSuffix(out.String(), "\n")
}

func toTree(v api.Value) any {
	switch v.Kind {
	case api.VBool:
		return v.N == 1
	case api.VInt:
		return v.N
	case api.VString:
		return v.S
	case api.VList:
		tree := []any{}
		for _, one := range v.List {
			tree = append(tree, toTree(one))
		}
		return tree
	case api.VMap:
		tree := map[string]any{}
		for _, one := range v.Fields {
			tree[one.Name] = toTree(one.V)
		}
		return tree
	}
	return nil
}
