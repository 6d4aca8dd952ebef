package tests

import (
	"math"
	"math/big"
	"math/rand"
	"regexp"
	"slices"
	"strconv"
	"strings"
	"testing"
	"unicode/utf8"

	"loop.example/g00901/impl"
)

const sixteen = "a,b,c,d,e,f,g,h,i,j,k,l,m,n,o,p"

// texts are the text of a value and that of its type.
type texts struct{ value, kind string }

// goodValues are texts of values, those at the limits among them.
var goodValues = []texts{
	{"()", "unit"}, {"false", "bool"}, {"true", "bool"}, {"0", "u8"}, {"255", "u8"}, {"-128", "s8"}, {"127", "s8"}, {"65535", "u16"}, {"-32768", "s16"}, {"32767", "s16"}, {"4294967295", "u32"},
	{"-2147483648", "s32"}, {"2147483647", "s32"}, {"-9223372036854775808", "s64"}, {"9223372036854775807", "s64"}, {"-1", "s64"}, {"0", "s64"}, {"10", "u8"}, {"0", "u16"}, {"0", "u32"}, {"-10", "s8"},
	{"'a'", "char"}, {"' '", "char"}, {"'~'", "char"}, {`'"'`, "char"}, {`'\u{27}'`, "char"}, {`'\u{5c}'`, "char"}, {`'\u{0}'`, "char"}, {`'\u{1f}'`, "char"}, {`'\u{7f}'`, "char"}, {`'\u{80}'`, "char"}, {`'\u{20ac}'`, "char"},
	{`'\u{d7ff}'`, "char"}, {`'\u{e000}'`, "char"}, {`'\u{fffd}'`, "char"}, {`'\u{ffff}'`, "char"}, {`'\u{10000}'`, "char"}, {`'\u{10ffff}'`, "char"}, {"'u'", "char"}, {"'{'", "char"},
	{`""`, "text"}, {`"a'b"`, "text"}, {`"a\u{22}b"`, "text"}, {`"\u{5c}"`, "text"}, {`"\u{a}\u{0}"`, "text"}, {`"abcdefghijklmnopqrstuvwx"`, "text"}, {`"\u{fffd}"`, "text"}, {`"\u{10ffff}x"`, "text"},
	{`"\u{20ac}\u{20ac}\u{20ac}\u{20ac}\u{20ac}\u{20ac}\u{20ac}\u{20ac}"`, "text"}, {`", ()[]{}<>:#"`, "text"}, {`"some(1)"`, "text"}, {`"\u{5c}u{5c}"`, "text"}, {`"u{5c}"`, "text"}, {`"own#1"`, "text"},
	{"[]", "list<u8>"}, {"[1]", "list<u8>"}, {"[1, 2]", "list<u8>"}, {"[1, 2, 3, 4, 5, 6, 7, 8]", "list<u8>"}, {"[[], [true], [false, true]]", "list<list<bool>>"}, {`[",", "], [", ""]`, "list<text>"}, {`[',', '"', '\u{27}', ']']`, "list<char>"},
	{"none", "option<u8>"}, {"some(3)", "option<u8>"}, {"some(none)", "option<option<u8>>"}, {"some(some(1))", "option<option<u8>>"}, {`some("")`, "option<text>"}, {"some([])", "option<list<u8>>"},
	{"ok", "result<unit,text>"}, {`err("x")`, "result<unit,text>"}, {"ok(1)", "result<u8,unit>"}, {"err", "result<u8,unit>"}, {"ok", "result<unit,unit>"}, {"err", "result<unit,unit>"}, {"err(ok(1))", "result<u8,result<u8,unit>>"},
	{"(1)", "tuple<u8>"}, {"(1, false)", "tuple<u8,bool>"}, {"(1, 2, 3, 4, 5, 6)", "tuple<u8,u8,u8,u8,u8,u8>"}, {"((1), ((2)))", "tuple<tuple<u8>,tuple<tuple<u8>>>"},
	{"{a: 1, b: 2}", "record{a:u8,b:u8}"}, {"{b: 1, a: 2}", "record{b:u8,a:u8}"}, {"{a: {b: {}}}", "record{a:record{b:flags{c}}}"}, {"{max-size: [1]}", "record{max-size:list<u8>}"}, {`{a: "b: 1", b: "}"}`, "record{a:text,b:text}"},
	{"a(5)", "variant{a:u8,b}"}, {"b", "variant{a:u8,b}"}, {"a", "variant{a,ab:u8,a-b}"}, {"ab(1)", "variant{a,ab:u8,a-b}"}, {"a-b", "variant{a,ab:u8,a-b}"}, {"p", "variant{" + sixteen + "}"}, {"none(none)", "variant{none:option<u8>,some}"}, {"ok((1))", "variant{ok:tuple<u8>}"},
	{"a", "enum{a}"}, {"b", "enum{a,b}"}, {"p", "enum{" + sixteen + "}"}, {"true", "enum{false,true}"}, {"unit", "enum{a,unit}"},
	{"{}", "flags{a}"}, {"{a}", "flags{a}"}, {"{a, c}", "flags{a,b,c}"}, {"{c, a}", "flags{c,b,a}"}, {"{a, ab}", "flags{a,ab}"}, {"{" + strings.ReplaceAll(sixteen, ",", ", ") + "}", "flags{" + sixteen + "}"}, {"{p}", "flags{" + sixteen + "}"},
	{"own#0", "own<file>"}, {"own#3", "own<file>"}, {"own#2147483647", "own<file>"}, {"borrow#10", "borrow<file>"}, {"stream#0", "stream<u8>"}, {"stream#2147483647", "stream<unit>"}, {"future#1", "future<own<r>>"},
	{"{a: own#1, b: [borrow#2, borrow#3]}", "record{a:own<r>,b:list<borrow<s>>}"}, {"(stream#1, own#2, future#3, some(borrow#4))", "tuple<stream<own<r>>,own<r>,future<own<r>>,option<borrow<r>>>"},
}

// badValues are no texts of values of the type.
var badValues = []texts{
	{"", "unit"}, {"unit", "unit"}, {"( )", "unit"}, {"(", "unit"}, {"()()", "unit"}, {"() ", "unit"}, {"(0)", "unit"}, {"", "bool"}, {"True", "bool"}, {"0", "bool"}, {"1", "bool"}, {"tru", "bool"}, {"truee", "bool"}, {"true ", "bool"}, {" true", "bool"}, {"true()", "bool"}, {"true(())", "bool"},
	{"", "u8"}, {"01", "u8"}, {"00", "u8"}, {"-0", "u8"}, {"+1", "u8"}, {"256", "u8"}, {"-1", "u8"}, {"1 ", "u8"}, {" 1", "u8"}, {"1.0", "u8"}, {"0x1", "u8"}, {"1_0", "u8"}, {"1e1", "u8"}, {"a", "u8"}, {"--1", "u8"}, {"1-", "u8"}, {"1-1", "u8"}, {"-", "u8"}, {"257", "u8"}, {"18446744073709551617", "u8"}, {"١", "u8"},
	{"128", "s8"}, {"-129", "s8"}, {"-0", "s8"}, {"-01", "s8"}, {"65536", "u16"}, {"-1", "u16"}, {"32768", "s16"}, {"-32769", "s16"}, {"4294967296", "u32"}, {"-1", "u32"}, {"2147483648", "s32"}, {"-2147483649", "s32"},
	{"9223372036854775808", "s64"}, {"-9223372036854775809", "s64"}, {"-0", "s64"}, {"99999999999999999999999", "s64"}, {"-99999999999999999999999", "s64"}, {"09223372036854775807", "s64"}, {"-", "s64"}, {"", "s64"},
	{"", "char"}, {"a", "char"}, {"''", "char"}, {"'a", "char"}, {"a'", "char"}, {"'ab'", "char"}, {`"a"`, "char"}, {"'''", "char"}, {`'\'`, "char"}, {`'\\'`, "char"}, {`'\''`, "char"}, {`'\u{61}'`, "char"}, {`'\u{22}'`, "char"}, {`'\u{20}'`, "char"}, {`'\u{7e}'`, "char"}, {`'\u{20AC}'`, "char"}, {`'\u{020ac}'`, "char"}, {`'\u{00}'`, "char"}, {`'\u{}'`, "char"},
	{`'\u{d800}'`, "char"}, {`'\u{dfff}'`, "char"}, {`'\u{110000}'`, "char"}, {`'\u{ffffffff}'`, "char"}, {`'\u{100000061}'`, "char"}, {`'\u{10000000000000000}'`, "char"}, {`'\u{-1}'`, "char"}, {`'\u{+1}'`, "char"}, {`'\u20ac'`, "char"}, {`'\u{20ac'`, "char"}, {`'\u20ac}'`, "char"}, {`'\U{20ac}'`, "char"}, {`'\x{20ac}'`, "char"}, {`'\n'`, "char"}, {"'\n'", "char"}, {"'€'", "char"}, {"'\x7f'", "char"}, {"'\xff'", "char"}, {"'\ufffd'", "char"}, {"'a' ", "char"}, {`'\u{0x1}'`, "char"}, {`'\u{1_0}'`, "char"}, {`'\u{ 1}'`, "char"},
	{"", "text"}, {"a", "text"}, {`"`, "text"}, {`"a`, "text"}, {`a"`, "text"}, {"'a'", "text"}, {`"""`, "text"}, {`"a"b"`, "text"}, {`"\"`, "text"}, {`"\""`, "text"}, {`"\\"`, "text"}, {`"\u{27}"`, "text"}, {`"\u{61}"`, "text"}, {`"\u{022}"`, "text"}, {`"\u{A}"`, "text"}, {`"\u{d800}"`, "text"}, {`"\u{110000}"`, "text"}, {`"\u{}"`, "text"}, {`"\u{22"`, "text"}, {`"\u{d83d}\u{de00}"`, "text"},
	{`"abcdefghijklmnopqrstuvwxy"`, "text"}, {`"\u{20ac}\u{20ac}\u{20ac}\u{20ac}\u{20ac}\u{20ac}\u{20ac}\u{20ac}a"`, "text"}, {`"\u{20ac}\u{20ac}\u{20ac}\u{20ac}\u{20ac}\u{20ac}\u{20ac}aa\u{e9}"`, "text"}, {"\"é\"", "text"}, {"\"\xff\"", "text"}, {"\"\xc0\x80\"", "text"}, {"\"\n\"", "text"}, {"\"\x7f\"", "text"}, {`"a" `, "text"}, {"\"\ufffd\"", "text"},
	{"", "list<u8>"}, {"[", "list<u8>"}, {"]", "list<u8>"}, {"[ ]", "list<u8>"}, {"[1,2]", "list<u8>"}, {"[1 , 2]", "list<u8>"}, {"[1,  2]", "list<u8>"}, {"[1, ]", "list<u8>"}, {"[1,]", "list<u8>"}, {"[, 1]", "list<u8>"}, {"[1, 2", "list<u8>"}, {"1, 2]", "list<u8>"}, {"[1 2]", "list<u8>"}, {"[1, 256]", "list<u8>"}, {"[1, 02]", "list<u8>"}, {"[1]]", "list<u8>"}, {"[[1]]", "list<u8>"}, {"(1)", "list<u8>"}, {"{1}", "list<u8>"}, {"1", "list<u8>"}, {"[1, 2, 3, 4, 5, 6, 7, 8, 9]", "list<u8>"}, {"[1, 2, 3, 4, 5, 6, 7, 8, ]", "list<u8>"}, {"[12]3", "list<u8>"}, {"[1][2]", "list<u8>"},
	{"", "option<u8>"}, {"some", "option<u8>"}, {"some()", "option<u8>"}, {"some(3", "option<u8>"}, {"some3)", "option<u8>"}, {"some( 3)", "option<u8>"}, {"some(256)", "option<u8>"}, {"none()", "option<u8>"}, {"none(3)", "option<u8>"}, {"3", "option<u8>"}, {"Some(3)", "option<u8>"}, {"some(3, 4)", "option<u8>"}, {"some(none)", "option<u8>"}, {"ok(3)", "option<u8>"}, {"some(3))", "option<u8>"}, {"none ", "option<u8>"}, {"some[3]", "option<u8>"},
	{"ok()", "result<unit,text>"}, {"ok(())", "result<unit,text>"}, {"err", "result<unit,text>"}, {"err()", "result<unit,text>"}, {"error(\"x\")", "result<unit,text>"}, {"ok(\"x\")", "result<unit,text>"}, {"ok", "result<u8,unit>"}, {"err(1)", "result<u8,unit>"}, {"err(())", "result<u8,unit>"}, {"", "result<unit,unit>"}, {"none", "result<unit,unit>"}, {"OK", "result<unit,unit>"}, {"ok ", "result<unit,unit>"},
	{"()", "tuple<u8>"}, {"1", "tuple<u8>"}, {"(1,)", "tuple<u8>"}, {"(1, )", "tuple<u8>"}, {"(1, 2)", "tuple<u8>"}, {"[1]", "tuple<u8>"}, {"(1,false)", "tuple<u8,bool>"}, {"(1)", "tuple<u8,bool>"}, {"(false, 1)", "tuple<u8,bool>"}, {"(1, false, 2)", "tuple<u8,bool>"}, {"(1, false", "tuple<u8,bool>"}, {"1, false", "tuple<u8,bool>"}, {"(1 false)", "tuple<u8,bool>"}, {"(1, false))", "tuple<u8,bool>"},
	{"{a: 1,b: 2}", "record{a:u8,b:u8}"}, {"{a:1, b:2}", "record{a:u8,b:u8}"}, {"{b: 2, a: 1}", "record{a:u8,b:u8}"}, {"{a: 1}", "record{a:u8,b:u8}"}, {"{a: 1, b: 2, c: 3}", "record{a:u8,b:u8}"}, {"{a: 1, a: 2}", "record{a:u8,b:u8}"}, {"{1, 2}", "record{a:u8,b:u8}"}, {"(1, 2)", "record{a:u8,b:u8}"}, {"{ a: 1, b: 2 }", "record{a:u8,b:u8}"}, {"{a : 1, b: 2}", "record{a:u8,b:u8}"}, {"{a: 1, b: 2", "record{a:u8,b:u8}"}, {"{}", "record{a:u8}"}, {"{A: 1}", "record{a:u8}"}, {"{aa: 1}", "record{a:u8}"}, {"{a: }", "record{a:u8}"}, {"{a: 1, }", "record{a:u8}"}, {"a: 1", "record{a:u8}"},
	{"a", "variant{a:u8,b}"}, {"a()", "variant{a:u8,b}"}, {"b()", "variant{a:u8,b}"}, {"b(5)", "variant{a:u8,b}"}, {"b(())", "variant{a:u8,b}"}, {"c", "variant{a:u8,b}"}, {"", "variant{a:u8,b}"}, {"A(5)", "variant{a:u8,b}"}, {"a(256)", "variant{a:u8,b}"}, {"a 5", "variant{a:u8,b}"}, {"a: 5", "variant{a:u8,b}"}, {"a(5", "variant{a:u8,b}"}, {"a(5, 5)", "variant{a:u8,b}"}, {"a (5)", "variant{a:u8,b}"}, {"0", "variant{a:u8,b}"}, {"bb", "variant{a:u8,b}"}, {"b-", "variant{a:u8,b}"},
	{"", "enum{a,b}"}, {"c", "enum{a,b}"}, {"B", "enum{a,b}"}, {"ab", "enum{a,b}"}, {"a, b", "enum{a,b}"}, {"a()", "enum{a,b}"}, {"1", "enum{a,b}"}, {"a ", "enum{a,b}"}, {"{a}", "enum{a,b}"},
	{"", "flags{a,b,c}"}, {"{", "flags{a,b,c}"}, {"{c, a}", "flags{a,b,c}"}, {"{a, a}", "flags{a,b,c}"}, {"{a,c}", "flags{a,b,c}"}, {"{a, d}", "flags{a,b,c}"}, {"{d}", "flags{a,b,c}"}, {"{a, b, c, a}", "flags{a,b,c}"}, {"{a, }", "flags{a,b,c}"}, {"{, a}", "flags{a,b,c}"}, {"{ }", "flags{a,b,c}"}, {"a", "flags{a,b,c}"}, {"a, b", "flags{a,b,c}"}, {"{a b}", "flags{a,b,c}"}, {"()", "flags{a,b,c}"}, {"[a]", "flags{a,b,c}"}, {"0", "flags{a,b,c}"}, {"{A}", "flags{a,b,c}"}, {"{a: true}", "flags{a,b,c}"}, {"{a}}", "flags{a,b,c}"}, {"{b, a, c}", "flags{a,b,c}"},
	{"own#2147483648", "own<file>"}, {"own#-1", "own<file>"}, {"own#01", "own<file>"}, {"own#-0", "own<file>"}, {"own#", "own<file>"}, {"own", "own<file>"}, {"3", "own<file>"}, {"#3", "own<file>"}, {"borrow#3", "own<file>"}, {"own #3", "own<file>"}, {"own# 3", "own<file>"}, {"own<file>#3", "own<file>"}, {"file#3", "own<file>"}, {"own#4294967299", "own<file>"}, {"own#9223372036854775808", "own<file>"}, {"own#+3", "own<file>"}, {"OWN#3", "own<file>"},
	{"own#3", "borrow<file>"}, {"borrow#2147483648", "borrow<file>"}, {"future#1", "stream<u8>"}, {"stream#1", "future<u8>"}, {"stream#-1", "stream<u8>"}, {"stream#2147483648", "stream<u8>"}, {"future#2147483648", "future<unit>"}, {"stream#1u8", "stream<u8>"},
}

// numberRanges are the least and the greatest number of each kind that has them.
var numberRanges = map[int64][2]string{
	impl.TyU8: {"0", "255"}, impl.TyS8: {"-128", "127"}, impl.TyU16: {"0", "65535"}, impl.TyS16: {"-32768", "32767"}, impl.TyU32: {"0", "4294967295"}, impl.TyS32: {"-2147483648", "2147483647"},
	impl.TyS64: {"-9223372036854775808", "9223372036854775807"}, impl.TyOwn: {"0", "2147483647"}, impl.TyBorrow: {"0", "2147483647"}, impl.TyStream: {"0", "2147483647"}, impl.TyFuture: {"0", "2147483647"},
}

var modelNumber = regexp.MustCompile(`^(0|-?[1-9][0-9]*)$`)
var modelInQuotes = regexp.MustCompile(`^([ -\[\]-~]|\\u\{(0|[1-9a-f][0-9a-f]*)\})*$`)
var modelEscape = regexp.MustCompile(`\\u\{[0-9a-f]*\}`)

func isNumber(kind int64, s string) bool {
	n, ok := new(big.Int).SetString(s, 10)
	low, _ := new(big.Int).SetString(numberRanges[kind][0], 10)
	high, _ := new(big.Int).SetString(numberRanges[kind][1], 10)
	return ok && modelNumber.MatchString(s) && n.Cmp(low) >= 0 && n.Cmp(high) <= 0
}

// inQuotes returns the code points that s stands for, and whether it is written as the document says.
func inQuotes(s, quote string) ([]rune, bool) {
	if len(s) < 2 || s[:1] != quote || s[len(s)-1:] != quote {
		return nil, false
	}
	s = s[1 : len(s)-1]
	ok := modelInQuotes.MatchString(s) && !strings.Contains(s, quote)
	s = modelEscape.ReplaceAllStringFunc(s, func(escape string) string {
		n, err := strconv.ParseInt(escape[3:len(escape)-1], 16, 64)
		plain := n >= 32 && n <= 126 && n != int64(quote[0]) && n != '\\'
		if err != nil || plain || n > 0x10ffff || n >= 0xd800 && n <= 0xdfff {
			ok = false
			return "?"
		}
		return string(rune(n))
	})
	return []rune(s), ok
}

// elementsOf splits what stands between start and end at the commas that stand in no brackets and no quotes.
func elementsOf(s, start, end string) ([]string, bool) {
	if len(s) < 2 || s[:1] != start || s[len(s)-1:] != end {
		return nil, false
	}
	s = s[1 : len(s)-1]
	if s == "" {
		return nil, true
	}
	list := []string{""}
	open := 0
	var quote byte
	for i := 0; i < len(s); i++ {
		switch b := s[i]; {
		case quote != 0:
			if b == quote {
				quote = 0
			}
		case b == '"' || b == '\'':
			quote = b
		case strings.IndexByte("([{", b) >= 0:
			open++
		case strings.IndexByte(")]}", b) >= 0:
			open--
		case b == ',' && open == 0 && strings.HasPrefix(s[i:], ", "):
			list = append(list, "")
			i++
			continue
		}
		list[len(list)-1] += s[i : i+1]
	}
	return list, true
}

// isCase reports whether s is a label with its payload.
func isCase(s string, labels []string, kids []impl.Type) bool {
	label, payload, found := strings.Cut(s, "(")
	i := slices.Index(labels, label)
	if i < 0 {
		return false
	}
	if kids == nil || kids[i].Kind == impl.TyUnit {
		return !found
	}
	return found && strings.HasSuffix(payload, ")") && isValue(payload[:len(payload)-1], kids[i])
}

// isValue reports whether s is the text of a value of a valid type, by the tables of chapter 4 alone.
func isValue(s string, u impl.Type) bool {
	switch u.Kind {
	case impl.TyUnit:
		return s == "()"
	case impl.TyBool:
		return s == "false" || s == "true"
	case impl.TyChar:
		list, ok := inQuotes(s, "'")
		return ok && len(list) == 1
	case impl.TyText:
		list, ok := inQuotes(s, `"`)
		return ok && len(string(list)) <= 24
	case impl.TyList:
		list, ok := elementsOf(s, "[", "]")
		return ok && len(list) <= 8 && areValues(list, slices.Repeat(u.Kids, len(list)))
	case impl.TyOption:
		return isCase(s, []string{"none", "some"}, []impl.Type{{Kind: impl.TyUnit}, u.Kids[0]})
	case impl.TyResult:
		return isCase(s, []string{"ok", "err"}, u.Kids)
	case impl.TyTuple:
		list, ok := elementsOf(s, "(", ")")
		return ok && areValues(list, u.Kids)
	case impl.TyRecord:
		list, ok := elementsOf(s, "{", "}")
		for i := range list {
			label := "no label"
			if i < len(u.Labels) {
				label = u.Labels[i]
			}
			fine := false
			list[i], fine = strings.CutPrefix(list[i], label+": ")
			ok = ok && fine
		}
		return ok && areValues(list, u.Kids)
	case impl.TyVariant, impl.TyEnum:
		return isCase(s, u.Labels, u.Kids)
	case impl.TyFlags:
		list, ok := elementsOf(s, "{", "}")
		last := -1
		for _, label := range list {
			i := slices.Index(u.Labels, label)
			ok = ok && i > last
			last = i
		}
		return ok
	case impl.TyOwn, impl.TyBorrow, impl.TyStream, impl.TyFuture:
		number, ok := strings.CutPrefix(s, kindWords[u.Kind-1]+"#")
		return ok && isNumber(u.Kind, number)
	}
	return isNumber(u.Kind, s)
}

func areValues(list []string, kids []impl.Type) bool {
	for i, s := range list {
		if i >= len(kids) || !isValue(s, kids[i]) {
			return false
		}
	}
	return len(list) == len(kids)
}

// casesOf are the types of the cases of a type that has cases.
func casesOf(u impl.Type) []impl.Type {
	unit := impl.Type{Kind: impl.TyUnit}
	switch u.Kind {
	case impl.TyBool:
		return []impl.Type{unit, unit}
	case impl.TyOption:
		return []impl.Type{unit, u.Kids[0]}
	case impl.TyEnum:
		return slices.Repeat([]impl.Type{unit}, len(u.Labels))
	}
	return u.Kids
}

// someValue makes up a value of a valid type and its text.
func someValue(r *rand.Rand, u impl.Type) (impl.Value, string) {
	v := impl.Value{Kind: u.Kind}
	switch u.Kind {
	case impl.TyUnit:
		return v, "()"
	case impl.TyChar:
		list := []rune{0, 31, 32, 34, 39, 65, 92, 97, 126, 127, 128, 0xd7ff, 0xe000, 0xfffd, 0xffff, 0x10000, 0x10ffff, rune(r.Intn(0xd800)), rune(r.Intn(128))}
		c := list[r.Intn(len(list))]
		v.Num = int64(c)
		return v, "'" + escapedOf(c, '\'') + "'"
	case impl.TyText:
		text := ""
		for range r.Intn(13) {
			c, _ := someValue(r, impl.Type{Kind: impl.TyChar})
			if len(v.Text)+utf8.RuneLen(rune(c.Num)) <= 24 {
				v.Text += string(rune(c.Num))
				text += escapedOf(rune(c.Num), '"')
			}
		}
		return v, `"` + text + `"`
	case impl.TyList:
		text := addKids(r, &v, slices.Repeat(u.Kids, []int{0, 1, 2, 3, 8}[r.Intn(5)]), nil)
		return v, "[" + text + "]"
	case impl.TyTuple:
		text := addKids(r, &v, u.Kids, nil)
		return v, "(" + text + ")"
	case impl.TyRecord:
		text := addKids(r, &v, u.Kids, u.Labels)
		return v, "{" + text + "}"
	case impl.TyFlags:
		var list []string
		for i, label := range u.Labels {
			if r.Intn(2) == 0 {
				v.Num += int64(math.Pow(2, float64(i)))
				list = append(list, label)
			}
		}
		return v, "{" + strings.Join(list, ", ") + "}"
	case impl.TyBool, impl.TyOption, impl.TyResult, impl.TyVariant, impl.TyEnum:
		labels := map[int64][]string{impl.TyBool: {"false", "true"}, impl.TyOption: {"none", "some"}, impl.TyResult: {"ok", "err"}}[u.Kind]
		labels = append(labels, u.Labels...)
		v.Num = int64(r.Intn(len(labels)))
		kid := casesOf(u)[v.Num]
		if kid.Kind == impl.TyUnit {
			return v, labels[v.Num]
		}
		text := addKids(r, &v, []impl.Type{kid}, nil)
		return v, labels[v.Num] + "(" + text + ")"
	}
	text := someNumber(r, u.Kind)
	v.Num, _ = strconv.ParseInt(text, 10, 64)
	if u.Kind >= impl.TyOwn {
		text = kindWords[u.Kind-1] + "#" + text
	}
	return v, text
}

// addKids makes up the Kids of v, and returns their texts behind their labels.
func addKids(r *rand.Rand, v *impl.Value, kids []impl.Type, labels []string) string {
	var list []string
	for i, u := range kids {
		kid, text := someValue(r, u)
		if labels != nil {
			text = labels[i] + ": " + text
		}
		v.Kids = append(v.Kids, kid)
		list = append(list, text)
	}
	return strings.Join(list, ", ")
}

// someNumber is a number of a kind, often one at an end of its range.
func someNumber(r *rand.Rand, kind int64) string {
	low, high := numberRanges[kind][0], numberRanges[kind][1]
	small := strconv.Itoa(r.Intn(20) - 5)
	return []string{low, high, "0", strings.TrimLeft(small, "-"), strings.TrimLeft(small, "-"), strings.TrimLeft(small, "-")}[r.Intn(6)]
}

func escapedOf(c, quote rune) string {
	if c < 32 || c > 126 || c == quote || c == '\\' {
		return `\u{` + strconv.FormatInt(int64(c), 16) + "}"
	}
	return string(c)
}

// fitsModel says what the table of chapter 4 says.
func fitsModel(v impl.Value, u impl.Type) bool {
	if v.Kind != u.Kind || u.Kind != impl.TyText && v.Text != "" {
		return false
	}
	kids := []impl.Type{}
	numbered := true
	switch u.Kind {
	case impl.TyUnit, impl.TyText, impl.TyList, impl.TyTuple, impl.TyRecord:
		numbered = false
	}
	if !numbered && v.Num != 0 {
		return false
	}
	switch u.Kind {
	case impl.TyText:
		if len(v.Text) > 24 || !utf8.ValidString(v.Text) {
			return false
		}
	case impl.TyChar:
		if v.Num < 0 || v.Num > 0x10ffff || v.Num >= 0xd800 && v.Num <= 0xdfff {
			return false
		}
	case impl.TyList:
		if len(v.Kids) > 8 {
			return false
		}
		kids = slices.Repeat(u.Kids, len(v.Kids))
	case impl.TyTuple, impl.TyRecord:
		kids = u.Kids
	case impl.TyBool, impl.TyOption, impl.TyResult, impl.TyVariant, impl.TyEnum:
		if v.Num < 0 || v.Num >= int64(len(casesOf(u))) {
			return false
		}
		if kid := casesOf(u)[v.Num]; kid.Kind != impl.TyUnit {
			kids = append(kids, kid)
		}
	case impl.TyFlags:
		if v.Num < 0 || float64(v.Num) >= math.Pow(2, float64(len(u.Labels))) {
			return false
		}
	case impl.TyUnit:
	default:
		if !isNumber(u.Kind, strconv.FormatInt(v.Num, 10)) {
			return false
		}
	}
	for i, kid := range v.Kids {
		if i >= len(kids) || !fitsModel(kid, kids[i]) {
			return false
		}
	}
	return len(v.Kids) == len(kids)
}

// handlesOf are the handles in a value that fits, and the places of their numbers.
func handlesOf(v *impl.Value, u impl.Type) ([]impl.Handle, []*int64) {
	if u.Kind == impl.TyOwn || u.Kind == impl.TyBorrow {
		return []impl.Handle{{Own: u.Kind == impl.TyOwn, Resource: u.Name, Num: v.Num}}, []*int64{&v.Num}
	}
	var list []impl.Handle
	var places []*int64
	for i := range v.Kids {
		var kid impl.Type
		switch u.Kind {
		case impl.TyList:
			kid = u.Kids[0]
		case impl.TyTuple, impl.TyRecord:
			kid = u.Kids[i]
		default:
			kid = casesOf(u)[v.Num]
		}
		more, morePlaces := handlesOf(&v.Kids[i], kid)
		list = append(list, more...)
		places = append(places, morePlaces...)
	}
	return list, places
}

// valued reads a value that the test needs, with its type.
func valued(t *testing.T, c texts) (impl.Value, impl.Type) {
	t.Helper()
	u := typed(t, c.kind)
	v, code := impl.ReadValue(c.value, u)
	if code != impl.OK {
		t.Fatalf("ReadValue(%q, %s) fails with %d", c.value, c.kind, code)
	}
	return v, u
}

// checkNoFit checks that everything says that v does not fit u.
func checkNoFit(t *testing.T, what string, v impl.Value, u impl.Type) {
	t.Helper()
	zero(t, what, impl.Fits(v, u), impl.ValueText(v, u), int64(len(impl.HandlesIn(v, u))))
	for _, nums := range [][]int64{nil, {1}, {-1}} {
		w, code := impl.WithHandles(v, u, nums)
		is(t, what, all(alike(w, impl.Value{}), code), true, impl.ErrForm)
	}
}

// checkReadValue compares ReadValue with the model.
func checkReadValue(t *testing.T, s string, u impl.Type) {
	t.Helper()
	v, code := impl.ReadValue(s, u)
	want := isValue(s, u)
	switch {
	case want && (code != impl.OK || !impl.Fits(v, u) || !fitsModel(v, u) || impl.ValueText(v, u) != s):
		t.Errorf("ReadValue(%q, %s) is %+v, %d", s, printed(u), v, code)
	case !want && (code != impl.ErrParse || !alike(v, impl.Value{})):
		t.Errorf("ReadValue(%q, %s) is %+v, %d, but it is no text of a value", s, printed(u), v, code)
	}
}

func TestP5CharOk(t *testing.T) {
	is(t, "limits", all(int64(impl.MaxText), int64(impl.MaxList), int64(impl.MaxNumber)), 24, 8, 2147483647)
	for _, n := range []int64{0, 1, 31, 32, 127, 128, 255, 256, 55294, 55295, 57344, 57345, 65533, 65535, 65536, 1114110, 1114111} {
		is(t, strconv.FormatInt(n, 10), all(impl.CharOk(n)), true)
	}
	for _, n := range []int64{-1, -97, 55296, 55297, 56319, 56320, 57343, 1114112, 1114113, 1 << 32, 1<<32 + 97, 1<<63 - 1, -1 << 63, -1<<32 + 97} {
		is(t, strconv.FormatInt(n, 10), all(impl.CharOk(n)), false)
	}
	for n := int64(-1000); n < 1120000; n++ {
		if impl.CharOk(n) != (n >= 0 && utf8.ValidRune(rune(n))) {
			t.Errorf("CharOk(%d) is %v", n, impl.CharOk(n))
		}
	}
}

func TestP5TextOk(t *testing.T) {
	for _, s := range []string{
		"", "a", "\x00", "\x7f", "\xe2\x82\xac", "\xc2\x80", "\xdf\xbf", "\xe0\xa0\x80", "\xed\x9f\xbf", "\xee\x80\x80", "\xef\xbf\xbd", "\xef\xbf\xbf", "\xf0\x90\x80\x80", "\xf4\x8f\xbf\xbf",
		strings.Repeat("a", 24), strings.Repeat("é", 12), strings.Repeat("€", 8), strings.Repeat("\U0001f600", 6), strings.Repeat("€", 7) + "abc",
	} {
		is(t, s, all(impl.TextOk(s)), true)
	}
	for _, s := range []string{
		"\x80", "\xbf", "\xc0\x80", "\xc1\xbf", "\xe0\x80\x80", "\xe0\x9f\xbf", "\xf0\x80\x80\x80", "\xf0\x8f\xbf\xbf", "\xed\xa0\x80", "\xed\xbf\xbf", "\xf4\x90\x80\x80", "\xf5\x80\x80\x80", "\xf8\x88\x80\x80\x80", "\xff", "\xfe",
		"\xc2", "\xe2\x82", "\xe2", "\xf0\x90\x80", "a\xe2\x82", "\xe2\x82a", "\xe2a\xac", "\xc2\xc2\x80", "a\x80", "\xe2\x82\xac\xac", "\xed\xa0\xbd\xed\xb8\x80",
		strings.Repeat("a", 25), strings.Repeat("é", 12) + "a", strings.Repeat("€", 9), strings.Repeat("€", 8) + "a", strings.Repeat("a", 23) + "é", strings.Repeat("a", 23) + "\xe2", strings.Repeat("a", 24) + "\xff", strings.Repeat("a", 100000),
	} {
		is(t, impl.PutHex(s), all(impl.TextOk(s)), false)
	}
	// Every two bytes, alone and as the start of longer strings.
	for a := range 256 {
		for b := range 256 {
			for _, tail := range []string{"", "\x80", "\xbf\x80", "a"} {
				s := string([]byte{byte(a), byte(b)}) + tail
				if impl.TextOk(s) != (string([]rune(s)) == s) {
					t.Fatalf("TextOk(%q) is %v", s, impl.TextOk(s))
				}
			}
		}
	}
}

func TestP5NumRange(t *testing.T) {
	for kind := int64(impl.TyU8); kind <= impl.TyS64; kind++ {
		low, high, ok := impl.NumRange(kind)
		is(t, kindWords[kind-1], all(strconv.FormatInt(low, 10), strconv.FormatInt(high, 10), ok), numberRanges[kind][0], numberRanges[kind][1], true)
	}
	for _, kind := range append(edges(), 10, 11, 12, 20, 21, 22, 23, 24, 30) {
		if kind < impl.TyU8 || kind > impl.TyS64 {
			low, high, ok := impl.NumRange(kind)
			zero(t, "NumRange of "+strconv.FormatInt(kind, 10), low, high, ok)
		}
	}
}

func TestP5Values(t *testing.T) {
	u8 := func(n int64) impl.Value { return impl.Value{Kind: impl.TyU8, Num: n} }
	for _, c := range []struct {
		texts
		want impl.Value
	}{
		{texts{"()", "unit"}, impl.Value{Kind: impl.TyUnit}}, {texts{"true", "bool"}, impl.Value{Kind: impl.TyBool, Num: 1}}, {texts{"-128", "s8"}, impl.Value{Kind: impl.TyS8, Num: -128}},
		{texts{`'\u{20ac}'`, "char"}, impl.Value{Kind: impl.TyChar, Num: 0x20ac}}, {texts{`"a\u{22}b\u{e9}"`, "text"}, impl.Value{Kind: impl.TyText, Text: "a\"bé"}},
		{texts{"[1, 2]", "list<u8>"}, impl.Value{Kind: impl.TyList, Kids: []impl.Value{u8(1), u8(2)}}}, {texts{"none", "option<u8>"}, impl.Value{Kind: impl.TyOption}},
		{texts{"some(3)", "option<u8>"}, impl.Value{Kind: impl.TyOption, Num: 1, Kids: []impl.Value{u8(3)}}}, {texts{"ok", "result<unit,u8>"}, impl.Value{Kind: impl.TyResult}},
		{texts{"err(4)", "result<unit,u8>"}, impl.Value{Kind: impl.TyResult, Num: 1, Kids: []impl.Value{u8(4)}}}, {texts{"(1, 2)", "tuple<u8,u8>"}, impl.Value{Kind: impl.TyTuple, Kids: []impl.Value{u8(1), u8(2)}}},
		{texts{"{b: 1, a: 2}", "record{b:u8,a:u8}"}, impl.Value{Kind: impl.TyRecord, Kids: []impl.Value{u8(1), u8(2)}}}, {texts{"b(5)", "variant{a,b:u8}"}, impl.Value{Kind: impl.TyVariant, Num: 1, Kids: []impl.Value{u8(5)}}},
		{texts{"a", "variant{a,b:u8}"}, impl.Value{Kind: impl.TyVariant}}, {texts{"c", "enum{a,b,c}"}, impl.Value{Kind: impl.TyEnum, Num: 2}}, {texts{"{a, c}", "flags{a,b,c}"}, impl.Value{Kind: impl.TyFlags, Num: 5}},
		{texts{"own#3", "own<f>"}, impl.Value{Kind: impl.TyOwn, Num: 3}}, {texts{"borrow#4", "borrow<f>"}, impl.Value{Kind: impl.TyBorrow, Num: 4}}, {texts{"stream#5", "stream<unit>"}, impl.Value{Kind: impl.TyStream, Num: 5}}, {texts{"future#6", "future<u8>"}, impl.Value{Kind: impl.TyFuture, Num: 6}},
	} {
		u := typed(t, c.kind)
		v, code := impl.ReadValue(c.value, u)
		is(t, c.value, all(code, alike(v, c.want), impl.Fits(c.want, u), impl.ValueText(c.want, u)), impl.OK, true, true, c.value)
	}
	for _, c := range goodValues {
		v, u := valued(t, c)
		is(t, c.value, all(impl.Fits(v, u), fitsModel(v, u), impl.ValueText(v, u), isValue(c.value, u)), true, true, c.value, true)
	}
}

func TestP5ReadValueRejects(t *testing.T) {
	for _, c := range badValues {
		u := typed(t, c.kind)
		v, code := impl.ReadValue(c.value, u)
		is(t, c.value+" as "+c.kind, all(code, alike(v, impl.Value{}), isValue(c.value, u)), impl.ErrParse, true, false)
	}
	for _, u := range []impl.Type{{}, {Kind: 24}, {Kind: impl.TyList}, {Kind: impl.TyU8, Name: "a"}, nested(impl.TyList, 5, impl.Type{Kind: impl.TyU8}), {Kind: impl.TyList, Kids: []impl.Type{{Kind: impl.TyUnit}}}, {Kind: impl.TyStream, Kids: []impl.Type{{Kind: impl.TyBorrow, Name: "r"}}}} {
		for _, s := range []string{"", "1", "()", "[]", "[[[[1]]]]", "stream#1", "x"} {
			v, code := impl.ReadValue(s, u)
			is(t, "an invalid type", all(code, alike(v, impl.Value{})), impl.ErrForm, true)
		}
	}
}

func TestP5ReadValueModel(t *testing.T) {
	list := append(slices.Clone(goodValues), badValues...)
	for _, c := range list {
		u := typed(t, c.kind)
		for _, s := range changes(c.value, " ,:'\"\\()[]{}#-ua0917é\x00\x7f") {
			checkReadValue(t, s, u)
		}
		for _, kind := range []string{"list<X>", "option<X>", "tuple<X,u8>", "result<unit,X>", "record{a:X,b:X}", "variant{a,b:X}"} {
			if wrapped, ok := impl.ReadType(strings.ReplaceAll(kind, "X", c.kind)); ok {
				for _, s := range []string{"[X]", "[X, X]", "some(X)", "(X, 1)", "err(X)", "{a: X, b: X}", "b(X)", "[X,X]", "X", "(X)", "some(X", "[X, X, X, X, X, X, X, X]", "[X, X, X, X, X, X, X, X, X]"} {
					checkReadValue(t, strings.ReplaceAll(s, "X", c.value), wrapped)
				}
			}
		}
		for _, other := range list[:len(goodValues)] {
			checkReadValue(t, other.value, u)
		}
	}
}

// TestP5SomeValues makes up values, and checks that texts and values belong together one by one.
func TestP5SomeValues(t *testing.T) {
	r := rand.New(rand.NewSource(8))
	for _, u := range someTypes(9, 1500) {
		byText := map[string]impl.Value{}
		for range 8 {
			v, text := someValue(r, u)
			read, code := impl.ReadValue(text, u)
			is(t, text, all(impl.Fits(v, u), impl.ValueText(v, u), code, alike(read, v), impl.SameValue(read, v)), true, text, impl.OK, true, true)
			for other, w := range byText {
				if impl.SameValue(v, w) != (other == text) {
					t.Errorf("%s and %s: SameValue is %v", text, other, impl.SameValue(v, w))
				}
			}
			byText[text] = v
			i := r.Intn(len(text))
			checkReadValue(t, text[:i]+text[i+1:], u)
			checkReadValue(t, text[:i]+string(rune(32+r.Intn(95)))+text[i:], u)
			checkReadValue(t, text[:i]+string(rune(32+r.Intn(95)))+text[i+1:], u)
		}
	}
}

// TestP5EveryValue goes through all values of small types, and through others that do not fit.
func TestP5EveryValue(t *testing.T) {
	for _, c := range []struct {
		kind string
		many int
	}{
		{"unit", 1}, {"bool", 2}, {"enum{a,b,c}", 3}, {"flags{a,b,c}", 8}, {"option<bool>", 3}, {"result<unit,bool>", 3}, {"result<unit,unit>", 2}, {"variant{a,b:bool,c}", 4},
		{"tuple<bool,bool>", 4}, {"record{a:bool,b:enum{x,y}}", 4}, {"list<bool>", 7}, {"option<option<bool>>", 4}, {"tuple<flags{a}>", 2}, {"option<list<enum{a}>>", 4},
	} {
		u := typed(t, c.kind)
		fitting := map[string]impl.Value{}
		for _, v := range smallValues(u.Kind, 3) {
			if impl.Fits(v, u) != fitsModel(v, u) {
				t.Fatalf("Fits(%+v, %s) is %v", v, c.kind, impl.Fits(v, u))
			}
			text := impl.ValueText(v, u)
			if !impl.Fits(v, u) {
				checkNoFit(t, c.kind, v, u)
				continue
			}
			read, code := impl.ReadValue(text, u)
			before, found := fitting[text]
			is(t, text, all(isValue(text, u), code, alike(read, v), !found || alike(before, v)), true, impl.OK, true, true)
			fitting[text] = v
		}
		is(t, "values of "+c.kind, all(int64(len(fitting))), c.many)
	}
}

// smallValues are values with small numbers and at most two Kids on each level, which mostly fit no type. The Kids are of
// kinds that the types of TestP5EveryValue have.
func smallValues(kind int64, deep int) []impl.Value {
	var list []impl.Value
	for num := int64(-1); num <= 8; num++ {
		list = append(list, impl.Value{Kind: kind, Num: num})
	}
	list = append(list, impl.Value{Kind: kind, Text: "a"}, impl.Value{Kind: kind + 1}, impl.Value{Kind: kind, Num: 1 << 32}, impl.Value{Kind: kind, Num: math.MinInt64})
	if deep == 1 {
		return list
	}
	var kids []impl.Value
	for _, kidKind := range []int64{impl.TyUnit, impl.TyBool, impl.TyOption, impl.TyEnum, impl.TyFlags, impl.TyList} {
		for _, kid := range smallValues(kidKind, deep-1) {
			if deep == 2 || len(kid.Kids) > 0 || kid.Num <= 2 && kid.Num >= -1 {
				kids = append(kids, kid)
			}
		}
	}
	for num := int64(0); num < 3; num++ {
		for i, kid := range kids {
			list = append(list, impl.Value{Kind: kind, Num: num, Kids: kids[i : i+1]})
			if deep == 3 && len(kid.Kids) == 0 && kid.Num >= 0 && kid.Num <= 2 && kid.Text == "" && num == 0 {
				for _, second := range kids {
					if len(second.Kids) == 0 && second.Num <= 2 && second.Text == "" {
						list = append(list, impl.Value{Kind: kind, Num: num, Kids: []impl.Value{kid, second}})
					}
				}
			} else if deep == 2 && num == 0 && kid.Kind == impl.TyEnum && kid.Num == 0 && kid.Text == "" {
				list = append(list, impl.Value{Kind: kind, Num: num, Kids: []impl.Value{kid, kid}})
			}
		}
	}
	if deep == 3 {
		list = append(list, impl.Value{Kind: kind, Text: "a", Kids: kids[:1]})
	}
	return list
}

// TestP5Fits breaks one part of values that fit.
func TestP5Fits(t *testing.T) {
	r := rand.New(rand.NewSource(10))
	fit, unfit := 0, 0
	for _, u := range someTypes(11, 1500) {
		for range 12 {
			v, _ := someValue(r, u)
			v = roomy(v)
			breakValue(r, &v)
			if impl.Fits(v, u) != fitsModel(v, u) {
				t.Fatalf("Fits(%+v, %s) is %v", v, printed(u), impl.Fits(v, u))
			}
			if impl.Fits(v, u) {
				fit++
				read, code := impl.ReadValue(impl.ValueText(v, u), u)
				is(t, impl.ValueText(v, u), all(code, alike(read, v)), impl.OK, true)
			} else {
				unfit++
				checkNoFit(t, printed(u), v, u)
			}
		}
	}
	if fit < 500 || unfit < 5000 {
		t.Errorf("%d values fit and %d do not: not enough", fit, unfit)
	}
	v, u := valued(t, texts{"{a: own#1, b: [borrow#2, borrow#3]}", "record{a:own<r>,b:list<borrow<s>>}"})
	is(t, "the example", all(impl.Fits(v, u), impl.Fits(v, impl.Type{}), impl.Fits(impl.Value{}, impl.Type{}), impl.Fits(v, typed(t, "u8"))), true, false, false, false)
	for _, c := range goodValues[:20] {
		v, u := impl.Value{Kind: typed(t, c.kind).Kind}, typed(t, c.kind)
		if u.Kind >= impl.TyU8 && u.Kind <= impl.TyS64 {
			for _, n := range edges() {
				v.Num = n
				is(t, c.kind+" "+strconv.FormatInt(n, 10), all(impl.Fits(v, u)), fitsModel(v, u))
			}
		}
	}
}

// breakValue changes something in one part of v.
func breakValue(r *rand.Rand, v *impl.Value) {
	if len(v.Kids) > 0 && r.Intn(3) > 0 {
		breakValue(r, &v.Kids[r.Intn(len(v.Kids))])
		return
	}
	numbers := []int64{-1, 0, 1, 2, 8, 16, 255, 256, 65535, 65536, 55296, 57343, 1114112, 2147483647, 2147483648, 4294967295, 4294967296, math.MaxInt64, math.MinInt64}
	switch r.Intn(6) {
	case 0:
		v.Kind += int64(r.Intn(3) - 1)
	case 1, 2:
		v.Num = numbers[r.Intn(len(numbers))]
	case 3:
		v.Text = []string{"a", "\xff", strings.Repeat("a", 24), strings.Repeat("a", 25), "\xc0\x80"}[r.Intn(5)]
	case 4:
		v.Kids = append(v.Kids, impl.Value{Kind: int64(r.Intn(23))})
	case 5:
		if len(v.Kids) > 0 {
			v.Kids = v.Kids[1:]
		} else {
			v.Num++
		}
	}
}

func TestP5SameValue(t *testing.T) {
	base := impl.Value{Kind: -1, Num: 5, Text: "\xff", Kids: []impl.Value{{Kind: 99, Kids: []impl.Value{{Num: -1}}}, {Text: "x"}}}
	empty := impl.Value{Kids: []impl.Value{}}
	is(t, "values that fit nothing", all(impl.SameValue(base, roomy(base)), impl.SameValue(impl.Value{}, impl.Value{}), impl.SameValue(empty, impl.Value{}), impl.SameValue(impl.Value{}, empty), impl.SameValue(base, impl.Value{})), true, true, true, true, false)
	for i, do := range []func(v *impl.Value){
		func(v *impl.Value) { v.Kind = 1 }, func(v *impl.Value) { v.Kind += 1 << 32 }, func(v *impl.Value) { v.Num = -5 }, func(v *impl.Value) { v.Num += 1 << 32 }, func(v *impl.Value) { v.Text = "" }, func(v *impl.Value) { v.Text = "\xfe" }, func(v *impl.Value) { v.Kids = nil },
		func(v *impl.Value) { v.Kids = v.Kids[:1] }, func(v *impl.Value) { v.Kids = v.Kids[1:] }, func(v *impl.Value) { v.Kids = append(v.Kids, impl.Value{}) }, func(v *impl.Value) { v.Kids[0], v.Kids[1] = v.Kids[1], v.Kids[0] },
		func(v *impl.Value) { v.Kids[1].Text = "y" }, func(v *impl.Value) { v.Kids[0].Kids[0].Num = 1 }, func(v *impl.Value) { v.Kids[0].Kids = nil }, func(v *impl.Value) { v.Kids[0].Kids[0].Kids = []impl.Value{{}} }, func(v *impl.Value) { v.Kids[0].Kind = 0 },
	} {
		other := roomy(base)
		do(&other)
		is(t, "change "+strconv.Itoa(i), all(impl.SameValue(base, other), impl.SameValue(other, base)), false, false)
	}
	// Lists of which one is the start of the other, and lists that overlap.
	row := []impl.Value{{Num: 1}, {Num: 1}, {Num: 2}}
	is(t, "lists in one array", all(impl.SameValue(impl.Value{Kids: row[:2]}, impl.Value{Kids: row[:3]}), impl.SameValue(impl.Value{Kids: row[:1]}, impl.Value{Kids: row[1:2]}), impl.SameValue(impl.Value{Kids: row[:2]}, impl.Value{Kids: row[1:]})), false, true, false)
	pairs := func(a, b []impl.Value) impl.Value {
		return impl.Value{Kids: []impl.Value{{Kids: a}, {Kids: b}}}
	}
	is(t, "starts of one array", all(impl.SameValue(pairs(row[:1], row[:2]), pairs(row[1:2], row[1:])), impl.SameValue(pairs(row[:2], row[:1]), pairs(row[1:], row[1:2]))), false, false)
	is(t, "the same lists twice", all(impl.SameValue(pairs(row[:1], row[:1]), pairs(row[1:2], row[1:2]))), true)
	is(t, "one list and two", all(impl.SameValue(pairs(row[:1], row[:1]), pairs(row[1:2], row[2:])), impl.SameValue(pairs(row[:1], row[:1]), pairs(row[2:], row[1:2]))), false, false)
	is(t, "two lists and one", all(impl.SameValue(pairs(row[1:2], row[2:]), pairs(row[:1], row[:1])), impl.SameValue(pairs(row[2:], row[1:2]), pairs(row[:1], row[:1]))), false, false)
}

// deepValue is a value of a number of levels.
func deepValue(kind int64, levels int, inner impl.Value) impl.Value {
	for range levels - 1 {
		inner = impl.Value{Kind: kind, Kids: []impl.Value{inner}}
	}
	return inner
}

func TestP5SameDeepValues(t *testing.T) {
	for _, levels := range []int{1, 2, 100, 101, 102, 9999, 10000, 300000} {
		a, b := deepValue(impl.TyList, levels, impl.Value{Num: 1}), deepValue(impl.TyList, levels, impl.Value{Num: 1})
		is(t, strconv.Itoa(levels), all(impl.SameValue(a, b), impl.SameValue(a, deepValue(impl.TyList, levels, impl.Value{Num: 2})), impl.SameValue(a, deepValue(impl.TyList, levels+1, impl.Value{Num: 1}))), true, false, false)
	}
	wide := impl.Value{Kids: slices.Repeat([]impl.Value{{Num: 1}}, 100000)}
	like := roomy(wide)
	is(t, "a wide value", all(impl.SameValue(wide, like)), true)
	like.Kids[99999].Num = 2
	is(t, "a wide value with another end", all(impl.SameValue(wide, like)), false)
}

func TestP5DefaultOf(t *testing.T) {
	for _, c := range []texts{
		{"()", "unit"}, {"false", "bool"}, {"0", "u8"}, {"0", "s8"}, {"0", "u16"}, {"0", "s16"}, {"0", "u32"}, {"0", "s32"}, {"0", "s64"}, {`'\u{0}'`, "char"}, {`""`, "text"}, {"[]", "list<u8>"}, {"none", "option<u8>"},
		{"ok", "result<unit,u8>"}, {"ok(0)", "result<u8,unit>"}, {"ok([])", "result<list<u8>,unit>"}, {`(0, "")`, "tuple<u8,text>"}, {"{b: 0, a: none}", "record{b:u8,a:option<u8>}"}, {"a", "variant{a,b:u8}"}, {"b(0)", "variant{b:u8,a}"}, {"b(ok(a))", "variant{b:result<enum{a,b},u8>}"},
		{"b", "enum{b,a}"}, {"{}", "flags{a,b}"}, {"own#0", "own<r>"}, {"borrow#0", "borrow<r>"}, {"stream#0", "stream<unit>"}, {"future#0", "future<u8>"}, {"{a: own#0, b: []}", "record{a:own<r>,b:list<borrow<s>>}"}, {"((borrow#0, stream#0))", "tuple<tuple<borrow<r>,stream<own<r>>>>"},
	} {
		u := typed(t, c.kind)
		is(t, c.kind, all(impl.ValueText(impl.DefaultOf(u), u)), c.value)
	}
	for _, u := range someTypes(12, 1000) {
		v := impl.DefaultOf(u)
		is(t, printed(u), all(impl.Fits(v, u), v.Kind, numbersIn(v)), true, u.Kind, 0)
	}
	within, beyond := limitTypes()
	for _, u := range within {
		is(t, printed(u), all(impl.Fits(impl.DefaultOf(u), u)), true)
	}
	for _, u := range append(beyond, impl.Type{}, impl.Type{Kind: impl.TyU8, Labels: []string{"a"}}) {
		is(t, "an invalid type", all(alike(impl.DefaultOf(u), impl.Value{})), true)
	}
}

// numbersIn counts the numbers in v that are not 0, and the texts and lists that are not empty.
func numbersIn(v impl.Value) int64 {
	var n int64
	if v.Num != 0 || v.Text != "" || v.Kind == impl.TyList && len(v.Kids) > 0 {
		n++
	}
	for _, kid := range v.Kids {
		n += numbersIn(kid)
	}
	return n
}

func TestP5Handles(t *testing.T) {
	v, u := valued(t, texts{"{a: own#1, b: [borrow#2, borrow#3]}", "record{a:own<r>,b:list<borrow<s>>}"})
	want := []impl.Handle{{Own: true, Resource: "r", Num: 1}, {Resource: "s", Num: 2}, {Resource: "s", Num: 3}}
	is(t, "HandlesIn", all(alike(impl.HandlesIn(v, u), want)), true)
	w, code := impl.WithHandles(v, u, []int64{7, 8, 9})
	is(t, "WithHandles", all(impl.ValueText(w, u), code, impl.ValueText(v, u)), "{a: own#7, b: [borrow#8, borrow#9]}", impl.OK, "{a: own#1, b: [borrow#2, borrow#3]}")
	w, code = impl.WithHandles(v, u, []int64{0, impl.MaxNumber, 0})
	is(t, "WithHandles at the limits", all(impl.ValueText(w, u), code), "{a: own#0, b: [borrow#2147483647, borrow#0]}", impl.OK)
	for _, nums := range [][]int64{nil, {}, {7}, {7, 8}, {7, 8, 9, 10}, {7, 8, -1}, {-1, 8, 9}, {7, impl.MaxNumber + 1, 9}, {math.MaxInt64, 8, 9}, {7, 8, math.MinInt64}, {7, 8, 1 << 32}, {-1}, {7, 8, 9, -1}} {
		w, code := impl.WithHandles(v, u, nums)
		is(t, shown(nums), all(alike(w, impl.Value{}), code), true, impl.ErrRange)
	}
	v, u = valued(t, texts{"(stream#1, own#2, future#3, some(borrow#4))", "tuple<stream<own<r>>,own<r>,future<own<r>>,option<borrow<q>>>"})
	is(t, "streams are no handles", all(alike(impl.HandlesIn(v, u), []impl.Handle{{Own: true, Resource: "r", Num: 2}, {Resource: "q", Num: 4}})), true)
	w, code = impl.WithHandles(v, u, []int64{5, 6})
	is(t, "streams stay", all(impl.ValueText(w, u), code), "(stream#1, own#5, future#3, some(borrow#6))", impl.OK)
	v, u = valued(t, texts{"[1, 2]", "list<u8>"})
	w, code = impl.WithHandles(v, u, nil)
	is(t, "no handles", all(alike(w, v), code, int64(len(impl.HandlesIn(v, u)))), true, impl.OK, 0)
	w, code = impl.WithHandles(v, u, []int64{1})
	is(t, "a number for no handle", all(alike(w, impl.Value{}), code), true, impl.ErrRange)
	w, code = impl.WithHandles(impl.Value{Kind: impl.TyOwn}, impl.Type{Kind: impl.TyOwn}, []int64{-1})
	is(t, "an invalid type", all(alike(w, impl.Value{}), code), true, impl.ErrForm)
}

// TestP5SomeHandles renumbers the handles of values that are made up.
func TestP5SomeHandles(t *testing.T) {
	r := rand.New(rand.NewSource(13))
	found := 0
	for _, u := range someTypes(14, 3000) {
		for range 4 {
			v, text := someValue(r, u)
			changed := roomy(v)
			want, places := handlesOf(&changed, u)
			if !slices.Equal(impl.HandlesIn(v, u), want) {
				t.Errorf("HandlesIn of %s is %+v, want %+v", text, impl.HandlesIn(v, u), want)
			}
			nums := make([]int64, len(places))
			for i := range places {
				nums[i] = []int64{0, 1, impl.MaxNumber, int64(r.Intn(100))}[r.Intn(4)]
				*places[i] = nums[i]
				found++
			}
			w, code := impl.WithHandles(v, u, nums)
			is(t, text, all(code, alike(w, changed), impl.Fits(w, u), impl.ValueText(v, u)), impl.OK, true, true, text)
			for _, bad := range [][]int64{append(slices.Clone(nums), 0), append(slices.Clone(nums), -1), nums[:max(0, len(nums)-1)]} {
				if len(bad) != len(nums) {
					w, code = impl.WithHandles(v, u, bad)
					is(t, text, all(code, alike(w, impl.Value{})), impl.ErrRange, true)
				}
			}
			if len(nums) > 0 {
				nums[r.Intn(len(nums))] = []int64{-1, impl.MaxNumber + 1, math.MinInt64, math.MaxInt64}[r.Intn(4)]
				w, code = impl.WithHandles(v, u, nums)
				is(t, text, all(code, alike(w, impl.Value{})), impl.ErrRange, true)
			}
		}
	}
	if found < 1000 {
		t.Errorf("%d handles: not enough", found)
	}
}

func TestP1DeepValues(t *testing.T) {
	t.Parallel()
	circle := []impl.Value{{Kind: impl.TyList}, {Kind: impl.TyList}}
	circle[0].Kids, circle[1].Kids = circle, circle[:1]
	other := []impl.Value{{Kind: impl.TyList}, {Kind: impl.TyList}}
	other[0].Kids, other[1].Kids = other, other[:1]
	double := impl.Value{Kind: impl.TyList}
	for range 90 {
		double = impl.Value{Kind: impl.TyList, Kids: []impl.Value{double, double}}
	}
	is(t, "values that contain themselves", all(impl.SameValue(circle[0], circle[0]), impl.SameValue(circle[0], other[0]), impl.SameValue(circle[0], other[1]), impl.SameValue(double, double)), true, true, false, true)
	for i, v := range []impl.Value{
		deepValue(impl.TyList, 10000, impl.Value{Kind: impl.TyU8}), deepValue(impl.TyOption, 1000000, impl.Value{}), deepValue(0, 10000, impl.Value{}), circle[0], circle[1], double,
		{Kind: impl.TyList, Kids: slices.Repeat([]impl.Value{{Kind: impl.TyU8}}, 100000)}, {Kind: impl.TyText, Text: strings.Repeat("a", 100000)}, {Kind: math.MinInt64, Num: math.MinInt64}, {Kind: math.MaxInt64},
	} {
		what := "deep value " + strconv.Itoa(i)
		is(t, what, all(impl.SameValue(v, v), impl.SameValue(v, impl.Value{}), impl.SameValue(impl.Value{}, v)), true, false, false)
		for _, s := range goodTypes {
			checkNoFit(t, what+" as "+s, v, typed(t, s))
		}
		for j, u := range deepTypes() {
			checkNoFit(t, what+" as deep type "+strconv.Itoa(j), v, u)
		}
	}
	for i, u := range deepTypes() {
		v, code := impl.ReadValue("[[[[[[", u)
		is(t, "deep type "+strconv.Itoa(i), all(alike(impl.DefaultOf(u), impl.Value{}), alike(v, impl.Value{}), code), true, true, impl.ErrForm)
	}
	for _, s := range []string{"[", "[1, ", "some(", "((", `"a`, `\u{`, `"\u{`, `'\u{0`, "1", "-", "{a, ", "{a: ", "own#1", "a(", ")", "]", " "} {
		long := strings.Repeat(s, 100000)
		for _, kind := range goodTypes {
			for _, text := range []string{long, `"` + long, "'" + long, "[" + long, "{" + long, "own#" + long} {
				v, code := impl.ReadValue(text, typed(t, kind))
				is(t, "a long text", all(alike(v, impl.Value{}), code, impl.TextOk(text)), true, impl.ErrParse, false)
			}
		}
	}
}

// ofType are the arguments of the functions on values.
type ofType struct {
	Value impl.Value
	Type  impl.Type
	Nums  []int64
}

func TestP1Values(t *testing.T) {
	r := rand.New(rand.NewSource(15))
	for _, u := range someTypes(16, 500) {
		v, _ := someValue(r, u)
		changed := roomy(v)
		breakValue(r, &changed)
		for _, v := range []impl.Value{v, changed, {}} {
			nums := make([]int64, len(impl.HandlesIn(v, u)))
			for _, nums := range [][]int64{nums, {5}, nil} {
				pure(t, "values", ofType{v, u, nums}, func(x ofType) []any {
					w, code := impl.WithHandles(x.Value, x.Type, x.Nums)
					return all(w, code, impl.Fits(x.Value, x.Type), impl.SameValue(x.Value, x.Value), impl.DefaultOf(x.Type), impl.ValueText(x.Value, x.Type), impl.HandlesIn(x.Value, x.Type))
				})
			}
		}
	}
	for _, c := range append(slices.Clone(goodValues), badValues...) {
		pure(t, c.value, typed(t, c.kind), func(u impl.Type) []any {
			v, code := impl.ReadValue(c.value, u)
			return all(v, code, impl.TextOk(c.value))
		})
	}
	for _, n := range edges() {
		twice(t, "CharOk and NumRange", func() string { return shown(impl.NumRange(n)) + shown(impl.CharOk(n)) })
	}
}
