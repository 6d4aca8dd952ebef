package tests

import (
	"math"
	"math/rand"
	"regexp"
	"slices"
	"strconv"
	"strings"
	"testing"

	"loop.example/g00901/impl"
)

// kindWords are the words of the kinds TyUnit to TyFuture.
var kindWords = strings.Fields("unit bool u8 s8 u16 s16 u32 s32 s64 char text list option result tuple record variant enum flags own borrow stream future")

// goodTypes are text forms of types, all kinds and limits among them.
var goodTypes = []string{
	"unit", "bool", "u8", "s8", "u16", "s16", "u32", "s32", "s64", "char", "text",
	"list<u8>", "option<text>", "list<option<s64>>", "list<list<list<u8>>>", "option<option<option<char>>>", "list<own<r>>", "list<borrow<file>>",
	"result<unit,unit>", "result<unit,text>", "result<u8,unit>", "result<u8,text>", "result<borrow<a>,own<b>>", "result<result<unit,unit>,unit>",
	"tuple<u8>", "tuple<u8,char>", "tuple<u8,u8,u8,u8,u8,u8>", "tuple<tuple<u8,u8,u8,u8,u8,u8>,tuple<u8,u8,u8,u8,u8,u8>,tuple<u8,u8,u8,u8,u8,u8>,u8,u8>",
	"record{a:u8}", "record{a:u8,max-size:text}", "record{b:u8,a:u8}", "record{a:list<own<res>>,b:borrow<file>}", "record{unit:bool,u8:u16,own:own<own>}",
	"variant{a}", "variant{none,some:u8}", "variant{some:u8,none}", "variant{a,b,c}", "variant{a:u8,b,c:variant{a,b}}",
	"enum{a}", "enum{a,b}", "enum{b,a}", "enum{unit,own}", "flags{x}", "flags{a,b,c}", "own<file>", "borrow<file>", "own<a-1>", "own<twelve-bytes>",
	"stream<u8>", "future<text>", "stream<unit>", "future<unit>", "stream<own<r>>", "future<stream<future<unit>>>", "stream<list<own<r>>>",
	"record{a:borrow<r>,b:stream<u8>}", "record{abcdefghijkl:u8,m-1:enum{x-y-z,w0}}",
	"enum{a,b,c,d,e,f,g,h,i,j,k,l,m,n,o,p}", "flags{a,b,c,d,e,f,g,h,i,j,k,l,m,n,o,p}", "variant{a,b,c,d,e,f,g,h,i,j,k,l,m,n,o,p}",
	"record{a:u8,b:u8,c:u8,d:u8,e:u8,f:u8,g:u8,h:u8,i:u8,j:u8,k:u8,l:u8,m:u8,n:u8,o:u8,p:u8}",
}

// badTypes are no text forms of types.
var badTypes = []string{
	"", " ", "u", "u9", "u64", "U8", "string", "units", "unit ", "u8 ", " u8", "u8\n", "u8\x00", "u8,", "u8>", "u8u8", "u8,u8", "u8-", "-u8", "u8<>", "u8{}", "text<u8>", "unit<unit>", "é", "\xff", "none",
	"list", "list<", "list<>", "list<u8", "listu8>", "list u8", "list<u8,u8>", "list<u8,>", "list<,u8>", "list<u8>>", "list<u8>u8", "list<<u8>>", "list< u8>", "list<u8 >", "list <u8>", "list{u8}", "list<u8}", "list(u8)", "List<u8>",
	"list<unit>", "option<unit>", "option<u8,u8>", "option", "option<>", "list<file>", "list<_>",
	"result", "result<>", "result<u8>", "result<u8,>", "result<,u8>", "result<_,u8>", "result<u8,_>", "result<u8, text>", "result<u8,u8,u8>", "result{u8,u8}",
	"tuple", "tuple<>", "tuple<unit>", "tuple<u8,unit>", "tuple<u8, u8>", "tuple<u8,,u8>", "tuple<u8,u8,>", "tuple<u8,u8,u8,u8,u8,u8,u8>", "tuple{u8}", "tuple<a:u8>",
	"record", "record{}", "record{a}", "record{a:}", "record{:u8}", "record{a:unit}", "record{a:u8,}", "record{,a:u8}", "record{a:u8,b}", "record{a:u8,a:u8}", "record{a:u8,b:u8,a:text}", "record{a: u8}", "record{a :u8}", "record{a:u8, b:u8}", "record {a:u8}", "record<a:u8>", "record{A:u8}", "record{a-:u8}", "record{a--b:u8}", "record{1:u8}", "record{-a:u8}", "record{a:u8", "record{a:u8}}", "record{a:u8;b:u8}", "record{a::u8}", "record{a:u8:u8}", "record{u8}",
	"record{thirteen-byte:u8}", "record{a:u8,b:u8,c:u8,d:u8,e:u8,f:u8,g:u8,h:u8,i:u8,j:u8,k:u8,l:u8,m:u8,n:u8,o:u8,p:u8,q:u8}",
	"variant", "variant{}", "variant{a:unit}", "variant{a,b:unit}", "variant{a,a}", "variant{a:u8,a}", "variant{a,}", "variant{,a}", "variant{a(u8)}", "variant{a, b}", "variant{thirteen-byte}", "variant{a,b,c,d,e,f,g,h,i,j,k,l,m,n,o,p,q}", "variant{a:}", "variant<a>",
	"enum", "enum{}", "enum{a,a}", "enum{a:u8}", "enum{a:unit}", "enum{a, b}", "enum{a,}", "enum{A}", "enum{a_b}", "enum{é}", "enum{thirteen-byte}", "enum{a,b,c,d,e,f,g,h,i,j,k,l,m,n,o,p,q}", "enum<a>",
	"flags", "flags{}", "flags{a,a}", "flags{a:u8}", "flags{a,b,c,d,e,f,g,h,i,j,k,l,m,n,o,p,q}", "flags<a>",
	"own", "own<>", "own<A>", "own<1a>", "own<a-->", "own<thirteen-byte>", "own<a,b>", "own<own<a>>", "own<a>>", "own{a}", "own< a>", "own<a", "own<a:u8>", "borrow", "borrow<>", "borrow<A>", "borrow<a,b>", "borrow<thirteen-byte>",
	"stream", "stream<>", "stream<u8,u8>", "stream<borrow<f>>", "future<borrow<f>>", "stream<list<borrow<f>>>", "future<record{a:u8,b:borrow<f>}>", "stream<stream<borrow<f>>>", "list<stream<borrow<f>>>", "future<tuple<own<f>,borrow<f>>>", "stream<_>",
	"list<list<list<list<u8>>>>", "option<list<result<u8,tuple<u8>>>>", "tuple<u8,list<list<list<u8>>>>", "record{a:u8,b:list<list<list<u8>>>}", "stream<stream<stream<stream<unit>>>>", "variant{a:variant{a:variant{a:variant{a}}}}",
	"tuple<tuple<u8,u8,u8,u8,u8,u8>,tuple<u8,u8,u8,u8,u8,u8>,tuple<u8,u8,u8,u8,u8,u8>,u8,u8,u8>",
	"record{a:u8,b:u8,c:u8,d:u8,e:u8,f:u8,g:u8,h:u8,i:u8,j:u8,k:u8,l:u8,m:u8,n:u8,o:u8,p:tuple<u8,u8,u8,u8,u8,tuple<u8,u8>>}",
	"async func()", "func()", "func()->u8",
}

// typeModel is what chapter 3 says of a type, computed from its text form alone.
type typeModel struct {
	word        string
	deep, parts int64
	resources   []string
	own, borrow bool
}

var modelWords = regexp.MustCompile(`^(unit|bool|u8|s8|u16|s16|u32|s32|s64|char|text)$`)
var modelAngle = regexp.MustCompile(`^(list|option|result|tuple|own|borrow|stream|future)<(.*)>$`)
var modelBrace = regexp.MustCompile(`^(record|variant|enum|flags)\{(.*)\}$`)
var modelName = regexp.MustCompile(`^[a-z](-?[a-z0-9])*$`)

func isName(s string) bool {
	return len(s) <= 12 && modelName.MatchString(s)
}

// areNames reports whether the elements of list are distinct names.
func areNames(list []string) bool {
	for i, s := range list {
		if !isName(s) || slices.Contains(list[:i], s) {
			return false
		}
	}
	return true
}

// pieces splits s at the commas that stand in no brackets.
func pieces(s string) []string {
	list := []string{""}
	open := 0
	for i := range len(s) {
		switch s[i] {
		case '<', '{':
			open++
		case '>', '}':
			open--
		case ',':
			if open == 0 {
				list = append(list, "")
				continue
			}
		}
		list[len(list)-1] += s[i : i+1]
	}
	return list
}

// modelOfType returns what a text form says, and whether it is one of a valid type.
func modelOfType(s string) (typeModel, bool) {
	m, ok := partOfType(s)
	return m, ok && m.deep <= 4 && m.parts <= 24
}

func partOfType(s string) (typeModel, bool) {
	if modelWords.MatchString(s) {
		return typeModel{word: s, deep: 1, parts: 1}, true
	}
	if found := modelAngle.FindStringSubmatch(s); found != nil {
		m := typeModel{word: found[1]}
		if m.word == "own" || m.word == "borrow" {
			return typeModel{m.word, 1, 1, found[2:], m.word == "own", m.word == "borrow"}, isName(found[2])
		}
		units, ok := m.addAll(pieces(found[2]))
		switch many := len(pieces(found[2])); m.word {
		case "list", "option":
			ok = ok && many == 1 && units == 0
		case "result":
			ok = ok && many == 2
		case "tuple":
			ok = ok && many <= 6 && units == 0
		default:
			ok = ok && many == 1 && !m.borrow
		}
		return m, ok
	}
	found := modelBrace.FindStringSubmatch(s)
	if found == nil {
		return typeModel{}, false
	}
	m := typeModel{word: found[1]}
	var labels, kids []string
	for _, piece := range pieces(found[2]) {
		label, kid, typed := strings.Cut(piece, ":")
		labels = append(labels, label)
		if typed {
			kids = append(kids, kid)
		} else if m.word == "variant" {
			m.parts++
			m.deep = 1
		}
	}
	units, ok := m.addAll(kids)
	ok = ok && units == 0 && len(labels) <= 16 && areNames(labels)
	switch m.word {
	case "record":
		ok = ok && len(kids) == len(labels)
	case "enum", "flags":
		ok = ok && len(kids) == 0
	}
	return m, ok
}

// addAll adds to m itself and its Kids, and returns the number of units among these.
func (m *typeModel) addAll(kids []string) (int, bool) {
	units := 0
	m.parts++
	for _, kid := range kids {
		k, ok := partOfType(kid)
		if !ok {
			return 0, false
		}
		if k.word == "unit" {
			units++
		}
		m.deep = max(m.deep, k.deep)
		m.parts += k.parts
		m.own = m.own || k.own
		m.borrow = m.borrow || k.borrow
		m.resources = append(m.resources, k.resources...)
	}
	m.deep++
	slices.Sort(m.resources)
	m.resources = slices.Compact(m.resources)
	return units, true
}

// modelOfFunc reports whether s is the text form of a valid function type.
func modelOfFunc(s string) bool {
	s = strings.TrimPrefix(s, "async ")
	s, ok := strings.CutPrefix(s, "func(")
	params, result, closed := strings.Cut(s, ")")
	if !ok || !closed {
		return false
	}
	if result != "" {
		m, fine := modelOfType(strings.TrimPrefix(result, "->"))
		if !fine || !strings.HasPrefix(result, "->") || m.word == "unit" || m.borrow {
			return false
		}
	}
	if params == "" {
		return true
	}
	var names []string
	for _, piece := range pieces(params) {
		name, kid, _ := strings.Cut(piece, ":")
		m, fine := modelOfType(kid)
		if !fine || m.word == "unit" {
			return false
		}
		names = append(names, name)
	}
	return len(names) <= 6 && areNames(names)
}

// printed is the text form of a valid type, written from the table of chapter 3.
func printed(u impl.Type) string {
	word := kindWords[u.Kind-1]
	switch u.Kind {
	case impl.TyOwn, impl.TyBorrow:
		return word + "<" + u.Name + ">"
	case impl.TyEnum, impl.TyFlags:
		return word + "{" + strings.Join(u.Labels, ",") + "}"
	case impl.TyRecord, impl.TyVariant:
		text := word
		for i, kid := range u.Kids {
			text += "{,"[min(i, 1):min(i, 1)+1] + u.Labels[i]
			if kid.Kind != impl.TyUnit {
				text += ":" + printed(kid)
			}
		}
		return text + "}"
	}
	if len(u.Kids) == 0 {
		return word
	}
	for i, kid := range u.Kids {
		word += "<,"[min(i, 1):min(i, 1)+1] + printed(kid)
	}
	return word + ">"
}

// someType makes up a type of at most deep levels that meets the requirements of its kind; it may have too many parts, and
// a borrow in a stream.
func someType(r *rand.Rand, deep int, unit bool) impl.Type {
	names := strings.Fields("a b c-1 file res unit own list twelve-bytes z9 y x w v u tt")
	kind := int64(r.Intn(23) + 1)
	if deep == 1 && kind >= impl.TyList && kind <= impl.TyVariant || kind >= impl.TyStream && deep == 1 {
		kind = int64(r.Intn(10) + 2)
	}
	if kind == impl.TyUnit && !unit {
		kind = impl.TyText
	}
	u := impl.Type{Kind: kind}
	many := 0
	switch kind {
	case impl.TyList, impl.TyOption, impl.TyStream, impl.TyFuture:
		many = 1
	case impl.TyResult:
		many = 2
	case impl.TyTuple:
		many = 1 + r.Intn(6)
	case impl.TyRecord, impl.TyVariant, impl.TyEnum, impl.TyFlags:
		many = 1 + r.Intn(4)
		if r.Intn(4) == 0 {
			many = 16
		}
		for _, i := range r.Perm(16)[:many] {
			u.Labels = append(u.Labels, names[i])
		}
		if kind >= impl.TyEnum {
			many = 0
		}
	case impl.TyOwn, impl.TyBorrow:
		u.Name = names[r.Intn(16)]
	}
	for range many {
		u.Kids = append(u.Kids, someType(r, deep-1, kind == impl.TyResult || kind == impl.TyVariant || kind >= impl.TyStream))
	}
	return u
}

// someTypes makes up valid types.
func someTypes(seed int64, many int) []impl.Type {
	r := rand.New(rand.NewSource(seed))
	var list []impl.Type
	for len(list) < many {
		u := someType(r, 1+r.Intn(4), true)
		if _, ok := modelOfType(printed(u)); ok {
			list = append(list, u)
		}
	}
	return list
}

// changes are s with one byte removed, replaced, inserted or doubled, and with a piece of it cut off or exchanged.
func changes(s, bytes string) []string {
	list := []string{s, s + s, s + " ", " " + s}
	for i := range len(s) {
		list = append(list, s[:i]+s[i+1:], s[:i], s[i:], s[:i]+s[i:i+1]+s[i:])
		for _, b := range strings.Split(bytes, "") {
			list = append(list, s[:i]+b+s[i+1:], s[:i]+b+s[i:])
		}
	}
	return list
}

// typed reads a type that the test needs.
func typed(t *testing.T, s string) impl.Type {
	t.Helper()
	u, ok := impl.ReadType(s)
	if !ok {
		t.Fatalf("ReadType(%q) fails", s)
	}
	return u
}

// nested is a type of a number of levels, the innermost of which is inner.
func nested(kind int64, levels int, inner impl.Type) impl.Type {
	for range levels - 1 {
		inner = impl.Type{Kind: kind, Kids: []impl.Type{inner}}
	}
	return inner
}

// checkBadType checks that everything says that u is invalid.
func checkBadType(t *testing.T, what string, u impl.Type) {
	t.Helper()
	zero(t, what, impl.TypeOk(u), impl.TypeText(u), impl.DeepOf(u), impl.PartsOf(u), impl.HasHandles(u), impl.HasBorrow(u), int64(len(impl.ResourcesOf(u))))
	f := impl.FuncType{Result: u}
	g := impl.FuncType{Params: []impl.Param{{Name: "a", Type: u}}, Result: impl.Type{Kind: impl.TyUnit}}
	for _, f := range []impl.FuncType{f, g} {
		checkBadFunc(t, what+" in a function", f)
	}
}

// checkBadFunc checks that everything says that f is invalid.
func checkBadFunc(t *testing.T, what string, f impl.FuncType) {
	t.Helper()
	zero(t, what, impl.FuncOk(f), impl.FuncText(f), int64(len(impl.ParamsOf(f))))
	checkBadFace(t, what, impl.Face{Package: "app", Name: "calc", Version: "1.0.0", Resources: []string{"a", "f", "file", "r"}, Funcs: []impl.Func{{Name: "f", Type: f}}}, "f")
}

// checkBadFace checks that everything says that f is invalid.
func checkBadFace(t *testing.T, what string, f impl.Face, names ...string) {
	t.Helper()
	zero(t, what, impl.FaceOk(f))
	for _, name := range append(names, "") {
		g, ok := impl.FuncIn(f, name)
		if ok || !alike(g, impl.FuncType{}) {
			t.Errorf("%s: FuncIn returns %+v, %v", what, g, ok)
		}
	}
}

func TestP4Constants(t *testing.T) {
	is(t, "limits", all(int64(impl.MaxName), int64(impl.MaxDeep), int64(impl.MaxParts), int64(impl.MaxLabels), int64(impl.MaxKids), int64(impl.MaxParams), int64(impl.MaxFuncs), int64(impl.MaxOwn)), 12, 4, 24, 16, 6, 6, 8, 4)
	kinds := []int64{
		impl.TyUnit, impl.TyBool, impl.TyU8, impl.TyS8, impl.TyU16, impl.TyS16, impl.TyU32, impl.TyS32, impl.TyS64, impl.TyChar, impl.TyText, impl.TyList, impl.TyOption, impl.TyResult,
		impl.TyTuple, impl.TyRecord, impl.TyVariant, impl.TyEnum, impl.TyFlags, impl.TyOwn, impl.TyBorrow, impl.TyStream, impl.TyFuture,
	}
	for i, kind := range kinds {
		is(t, kindWords[i], all(kind), i+1)
	}
}

func TestP4NameOk(t *testing.T) {
	for _, s := range []string{"a", "z", "a-1", "a1", "a-b-c", "abcdefghijkl", "a-0", "z9-9z", "twelve-bytes", "list", "a-b-c-d-e-f1"} {
		is(t, s, all(impl.NameOk(s)), true)
	}
	for _, s := range []string{"", "-", "a-", "-a", "a--b", "1a", "1", "thirteen-byte", "abcdefghijklm", "A", "aB", "a_b", "a.b", "a b", " a", "a ", "a\n", "é", "aé", "a\xff", "\x00", "a\x00", "a---b", "abcdefghijk-", strings.Repeat("a", 1000)} {
		zero(t, s, impl.NameOk(s))
	}
	for b := range 256 {
		s := string([]byte{byte(b)})
		for _, name := range []string{s, "a" + s, "a" + s + "c", s + "c", "a-" + s, "a" + s + "-c", "abcdefghijk" + s, "abcdefghijkl" + s} {
			if impl.NameOk(name) != isName(name) {
				t.Errorf("NameOk(%q) is %v", name, impl.NameOk(name))
			}
		}
	}
}

func TestP4TypeTexts(t *testing.T) {
	u8, unit := impl.Type{Kind: impl.TyU8}, impl.Type{Kind: impl.TyUnit}
	file := impl.Type{Kind: impl.TyOwn, Name: "file"}
	for _, c := range []struct {
		text string
		want impl.Type
	}{
		{"list<u8>", impl.Type{Kind: impl.TyList, Kids: []impl.Type{u8}}},
		{"option<own<file>>", impl.Type{Kind: impl.TyOption, Kids: []impl.Type{file}}},
		{"result<unit,u8>", impl.Type{Kind: impl.TyResult, Kids: []impl.Type{unit, u8}}},
		{"result<u8,unit>", impl.Type{Kind: impl.TyResult, Kids: []impl.Type{u8, unit}}},
		{"tuple<u8,own<file>>", impl.Type{Kind: impl.TyTuple, Kids: []impl.Type{u8, file}}},
		{"record{b:own<file>,a:u8}", impl.Type{Kind: impl.TyRecord, Labels: []string{"b", "a"}, Kids: []impl.Type{file, u8}}},
		{"variant{none,some:u8}", impl.Type{Kind: impl.TyVariant, Labels: []string{"none", "some"}, Kids: []impl.Type{unit, u8}}},
		{"enum{b,a}", impl.Type{Kind: impl.TyEnum, Labels: []string{"b", "a"}}},
		{"flags{x}", impl.Type{Kind: impl.TyFlags, Labels: []string{"x"}}},
		{"borrow<a-1>", impl.Type{Kind: impl.TyBorrow, Name: "a-1"}},
		{"stream<unit>", impl.Type{Kind: impl.TyStream, Kids: []impl.Type{unit}}},
		{"future<own<file>>", impl.Type{Kind: impl.TyFuture, Kids: []impl.Type{file}}},
	} {
		u, ok := impl.ReadType(c.text)
		is(t, c.text, all(ok, alike(u, c.want), impl.TypeOk(c.want), impl.TypeText(c.want)), true, true, true, c.text)
	}
	for i, word := range kindWords[:11] {
		u, ok := impl.ReadType(word)
		is(t, word, all(ok, alike(u, impl.Type{Kind: int64(i + 1)}), impl.TypeText(impl.Type{Kind: int64(i + 1)})), true, true, word)
	}
	for _, s := range goodTypes {
		u, ok := impl.ReadType(s)
		is(t, s, all(ok, impl.TypeOk(u), impl.TypeText(u), printed(u)), true, true, s, s)
	}
}

// TestP4TypeKinds gives every kind a field that it does not use.
func TestP4TypeKinds(t *testing.T) {
	for _, kind := range []int64{0, -1, 24, 30, 255, 256 + 3, 1<<32 + 3, math.MaxInt64, math.MinInt64} {
		u := impl.Type{Kind: kind}
		checkBadType(t, "kind "+strconv.FormatInt(kind, 10), u)
		checkBadType(t, "a list of kind "+strconv.FormatInt(kind, 10), impl.Type{Kind: impl.TyList, Kids: []impl.Type{u}})
		checkBadType(t, "with Kids, kind "+strconv.FormatInt(kind, 10), impl.Type{Kind: kind, Kids: []impl.Type{{Kind: impl.TyU8}}})
		checkBadType(t, "with a name, kind "+strconv.FormatInt(kind, 10), impl.Type{Kind: kind, Name: "a"})
	}
	for _, s := range goodTypes {
		u := typed(t, s)
		named := u
		named.Name = "a"
		if u.Name == "" {
			checkBadType(t, s+" with a name", named)
			checkBadType(t, s+" with a name, in a list", impl.Type{Kind: impl.TyList, Kids: []impl.Type{named}})
		}
		labelled := u
		labelled.Labels = append(slices.Clone(u.Labels), "lll")
		if len(u.Labels) == 0 || len(u.Kids) > 0 {
			checkBadType(t, s+" with a label", labelled)
		}
		lacking := u
		if len(u.Labels) > 0 && (len(u.Kids) > 0 || len(u.Labels) == 1) {
			lacking.Labels = u.Labels[1:]
			checkBadType(t, s+" without its first label", lacking)
		}
		more := u
		more.Kids = append(slices.Clone(u.Kids), impl.Type{Kind: impl.TyU8})
		if u.Kind != impl.TyTuple || len(u.Kids) == 6 {
			checkBadType(t, s+" with another Kid", more)
		}
		if less := u; len(u.Kids) == 1 || len(u.Kids) > 1 && u.Kind != impl.TyTuple {
			less.Kids = u.Kids[1:]
			checkBadType(t, s+" without its first Kid", less)
		}
	}
	for kind := int64(impl.TyList); kind <= impl.TyFuture; kind++ {
		checkBadType(t, kindWords[kind-1]+" of nothing", impl.Type{Kind: kind})
	}
}

// limitTypes are types at a limit, and beyond it.
func limitTypes() (within, beyond []impl.Type) {
	u8 := impl.Type{Kind: impl.TyU8}
	labels := strings.Fields("a b c d e f g h i j k l m n o p q")
	kids := slices.Repeat([]impl.Type{u8}, 17)
	six := impl.Type{Kind: impl.TyTuple, Kids: kids[:6]}
	for _, kind := range []int64{impl.TyList, impl.TyOption, impl.TyTuple, impl.TyStream, impl.TyFuture} {
		within = append(within, nested(kind, 4, u8))
		beyond = append(beyond, nested(kind, 5, u8), nested(kind, 6, u8), nested(kind, 100, u8))
		beyond = append(beyond, impl.Type{Kind: impl.TyTuple, Kids: []impl.Type{u8, nested(kind, 4, u8)}})
		beyond = append(beyond, impl.Type{Kind: impl.TyResult, Kids: []impl.Type{nested(kind, 4, u8), u8}})
		within = append(within, impl.Type{Kind: impl.TyResult, Kids: []impl.Type{u8, nested(kind, 3, u8)}})
	}
	for _, kind := range []int64{impl.TyRecord, impl.TyVariant} {
		within = append(within, impl.Type{Kind: kind, Labels: labels[:16], Kids: kids[:16]})
		beyond = append(beyond, impl.Type{Kind: kind, Labels: labels, Kids: kids}, impl.Type{Kind: kind, Labels: labels[:16], Kids: kids}, impl.Type{Kind: kind, Labels: labels, Kids: kids[:16]})
		beyond = append(beyond, impl.Type{Kind: kind, Labels: labels[:3], Kids: kids[:2]}, impl.Type{Kind: kind, Labels: labels[:2], Kids: kids[:3]}, impl.Type{Kind: kind, Labels: labels[:2]})
		for many := range 17 { // one of 16 labels has a tuple: 17 parts, and those of the tuple
			u := impl.Type{Kind: kind, Labels: labels[:16], Kids: slices.Clone(kids[:16])}
			u.Kids[many%16] = impl.Type{Kind: impl.TyTuple, Kids: []impl.Type{u8, impl.Type{Kind: impl.TyTuple, Kids: kids[:1+many%6]}, u8, u8}}
			if 17+4+1+many%6 <= 24 {
				within = append(within, u)
			} else {
				beyond = append(beyond, u)
			}
		}
	}
	for _, kind := range []int64{impl.TyEnum, impl.TyFlags} {
		within = append(within, impl.Type{Kind: kind, Labels: labels[:1]}, impl.Type{Kind: kind, Labels: labels[:16]})
		beyond = append(beyond, impl.Type{Kind: kind, Labels: labels}, impl.Type{Kind: kind, Labels: labels[:16], Kids: kids[:16]}, impl.Type{Kind: kind, Labels: labels[:1], Kids: kids[:1]})
	}
	within = append(within, six, impl.Type{Kind: impl.TyTuple, Kids: []impl.Type{six, six, six, u8, u8}}, impl.Type{Kind: impl.TyTuple, Kids: []impl.Type{u8, u8, six, six, six}})
	beyond = append(beyond, impl.Type{Kind: impl.TyTuple, Kids: kids[:7]}, impl.Type{Kind: impl.TyTuple, Kids: kids[:0]})
	beyond = append(beyond, impl.Type{Kind: impl.TyTuple, Kids: []impl.Type{six, six, six, u8, u8, u8}}, impl.Type{Kind: impl.TyTuple, Kids: []impl.Type{six, six, six, six, six, six}})
	beyond = append(beyond, impl.Type{Kind: impl.TyList, Kids: []impl.Type{{Kind: impl.TyTuple, Kids: []impl.Type{six, six, six, u8, u8}}}})
	return within, beyond
}

func TestP4TypeLimits(t *testing.T) {
	within, beyond := limitTypes()
	for _, u := range within {
		s := printed(u)
		m, ok := modelOfType(s)
		read, readOk := impl.ReadType(s)
		is(t, s, all(ok, impl.TypeOk(u), impl.TypeText(u), impl.DeepOf(u), impl.PartsOf(u), readOk, alike(read, u)), true, true, s, m.deep, m.parts, true, true)
	}
	for _, u := range beyond {
		checkBadType(t, printedLoose(u), u)
		checkReadType(t, printedLoose(u))
	}
	twelve := impl.Type{Kind: impl.TyEnum, Labels: []string{"abcdefghijkl"}}
	is(t, "a label of 12 bytes", all(impl.TypeOk(twelve)), true)
	for _, bad := range []string{"", "abcdefghijklm", "A", "a-", "1"} {
		for _, kind := range []int64{impl.TyEnum, impl.TyFlags, impl.TyRecord, impl.TyVariant} {
			u := impl.Type{Kind: kind, Labels: []string{"a", bad}}
			if kind == impl.TyRecord || kind == impl.TyVariant {
				u.Kids = []impl.Type{{Kind: impl.TyU8}, {Kind: impl.TyU8}}
			}
			checkBadType(t, "label "+bad, u)
		}
		checkBadType(t, "own of "+bad, impl.Type{Kind: impl.TyOwn, Name: bad})
		checkBadType(t, "borrow of "+bad, impl.Type{Kind: impl.TyBorrow, Name: bad})
	}
}

// printedLoose is what printed would write if the type were valid.
func printedLoose(u impl.Type) string {
	word := kindWords[u.Kind-1]
	var list []string
	for i, label := range u.Labels {
		if i < len(u.Kids) {
			label += ":" + printedLoose(u.Kids[i])
		}
		list = append(list, label)
	}
	if len(u.Labels) > 0 {
		return word + "{" + strings.Join(list, ",") + "}"
	}
	for _, kid := range u.Kids {
		list = append(list, printedLoose(kid))
	}
	if u.Kind < impl.TyList {
		return word
	}
	return word + "<" + strings.Join(list, ",") + ">"
}

// TestP4TypeUnits puts unit, and then a borrow, in every place where a Kid can stand.
func TestP4TypeUnits(t *testing.T) {
	u8, unit, borrow := impl.Type{Kind: impl.TyU8}, impl.Type{Kind: impl.TyUnit}, impl.Type{Kind: impl.TyBorrow, Name: "r"}
	ab := []string{"a", "b"}
	for _, c := range []struct {
		kind                 int64
		labels               []string
		many                 int
		unitFits, borrowFits bool
	}{
		{impl.TyList, nil, 1, false, true}, {impl.TyOption, nil, 1, false, true}, {impl.TyResult, nil, 2, true, true}, {impl.TyTuple, nil, 2, false, true},
		{impl.TyRecord, ab, 2, false, true}, {impl.TyVariant, ab, 2, true, true}, {impl.TyStream, nil, 1, true, false}, {impl.TyFuture, nil, 1, true, false},
	} {
		for i := range c.many {
			with := func(kid impl.Type) impl.Type {
				kids := slices.Repeat([]impl.Type{u8}, c.many)
				kids[i] = kid
				return impl.Type{Kind: c.kind, Labels: c.labels, Kids: kids}
			}
			is(t, kindWords[c.kind-1], all(impl.TypeOk(with(u8)), impl.TypeOk(with(unit)), impl.TypeOk(with(borrow))), true, c.unitFits, c.borrowFits)
			for _, inner := range []impl.Type{{Kind: impl.TyList, Kids: []impl.Type{borrow}}, {Kind: impl.TyVariant, Labels: ab, Kids: []impl.Type{unit, borrow}}, {Kind: impl.TyResult, Kids: []impl.Type{unit, {Kind: impl.TyTuple, Kids: []impl.Type{u8, borrow}}}}} {
				is(t, kindWords[c.kind-1]+" of "+printed(inner), all(impl.TypeOk(with(inner))), c.borrowFits)
			}
			is(t, kindWords[c.kind-1], all(impl.TypeOk(with(impl.Type{Kind: impl.TyOwn, Name: "r"}))), true)
		}
	}
	for _, s := range []string{"variant{a}", "variant{a,b}", "result<unit,unit>"} {
		is(t, s, all(impl.TypeText(typed(t, s))), s)
	}
}

func TestP4TypeLabels(t *testing.T) {
	u8 := impl.Type{Kind: impl.TyU8}
	for _, kind := range []int64{impl.TyRecord, impl.TyVariant, impl.TyEnum, impl.TyFlags} {
		for _, labels := range []string{"a a", "a b a", "a b b", "a a b", "b a c a", "a b c d e f g h i j k l m n o a"} {
			u := impl.Type{Kind: kind, Labels: strings.Fields(labels)}
			if kind == impl.TyRecord || kind == impl.TyVariant {
				u.Kids = slices.Repeat([]impl.Type{u8}, len(u.Labels))
			}
			checkBadType(t, kindWords[kind-1]+" of "+labels, u)
		}
	}
	is(t, "labels in one type and its Kid", all(impl.TypeOk(typed(t, "record{a:record{a:u8},b:enum{a,b}}"))), true)
}

func TestP4ReadTypeRejects(t *testing.T) {
	for _, s := range badTypes {
		u, ok := impl.ReadType(s)
		if ok || !alike(u, impl.Type{}) {
			t.Errorf("ReadType(%q) is %+v, %v", s, u, ok)
		}
		if _, ok := modelOfType(s); ok {
			t.Errorf("the model accepts %q", s)
		}
	}
}

// checkReadType compares ReadType with the model.
func checkReadType(t *testing.T, s string) {
	t.Helper()
	u, ok := impl.ReadType(s)
	_, want := modelOfType(s)
	if ok != want || ok && (impl.TypeText(u) != s || printed(u) != s || !impl.TypeOk(u)) || !ok && !alike(u, impl.Type{}) {
		t.Errorf("ReadType(%q) is %+v, %v, want %v", s, u, ok, want)
	}
}

func TestP4ReadTypeModel(t *testing.T) {
	t.Parallel()
	for _, s := range slices.Concat(goodTypes, badTypes) {
		for _, changed := range changes(s, " ,:<>{}()-_auU18\x00é") {
			checkReadType(t, changed)
		}
		checkReadType(t, strings.ReplaceAll(s, ",", ", "))
		checkReadType(t, strings.ReplaceAll(s, ":", ": "))
		checkReadType(t, strings.ReplaceAll(s, "u8", "unit"))
		checkReadType(t, strings.ReplaceAll(s, "u8", "borrow<r>"))
		checkReadType(t, strings.ReplaceAll(s, "own", "borrow"))
		checkReadType(t, strings.ReplaceAll(s, "b", "a"))
		checkReadType(t, strings.ToUpper(s))
		for _, around := range []string{"list<X>", "tuple<u8,X>", "result<X,unit>", "variant{a,b:X}", "record{a:X}", "stream<X>", "option<X", "X>", "X,X", "tuple<X,X>"} {
			checkReadType(t, strings.ReplaceAll(around, "X", s))
		}
	}
}

func TestP4TypeMeasures(t *testing.T) {
	u := typed(t, "record{a:list<own<res>>,b:borrow<file>}")
	is(t, "the example", all(impl.DeepOf(u), impl.PartsOf(u), impl.HasHandles(u), impl.HasBorrow(u), strings.Join(impl.ResourcesOf(u), " ")), 3, 4, true, true, "file res")
	list := someTypes(1, 3000)
	for _, s := range goodTypes {
		list = append(list, typed(t, s))
	}
	for _, u := range list {
		s := printed(u)
		m, _ := modelOfType(s)
		read, ok := impl.ReadType(s)
		is(t, s, all(impl.TypeOk(u), impl.TypeText(u), ok, alike(read, u), impl.SameType(read, u)), true, s, true, true, true)
		is(t, s, all(impl.DeepOf(u), impl.PartsOf(u), impl.HasHandles(u), impl.HasBorrow(u)), m.deep, m.parts, m.own || m.borrow, m.borrow)
		if !slices.Equal(impl.ResourcesOf(u), m.resources) {
			t.Errorf("%s: resources %q, want %q", s, impl.ResourcesOf(u), m.resources)
		}
	}
	is(t, "resources given more than once", all(strings.Join(impl.ResourcesOf(typed(t, "tuple<own<z>,borrow<a>,own<a>,list<own<z>>,stream<own<m>>>")), " ")), "a m z")
}

// TestP4SomeInvalidTypes breaks one part of a valid type.
func TestP4SomeInvalidTypes(t *testing.T) {
	r := rand.New(rand.NewSource(2))
	for _, u := range someTypes(3, 1000) {
		u = broken(r, u)
		checkBadType(t, shown(u), u)
	}
}

// broken returns u with something wrong in one part of it.
func broken(r *rand.Rand, u impl.Type) impl.Type {
	if len(u.Kids) > 0 && r.Intn(3) > 0 {
		u.Kids = slices.Clone(u.Kids)
		i := r.Intn(len(u.Kids))
		u.Kids[i] = broken(r, u.Kids[i])
		return u
	}
	switch r.Intn(3) {
	case 0:
		u.Kind = []int64{0, -1, 24, math.MaxInt64}[r.Intn(4)]
	case 1:
		u.Labels = append(slices.Clone(u.Labels), "A")
	case 2:
		u.Name += "-"
	}
	return u
}

// goodFuncs are text forms of function types.
var goodFuncs = []string{
	"func()", "async func()", "func()->u8", "async func()->list<own<r>>", "func(a:u8)", "func(a:u8,b:text)->s64", "async func(a:u8,b:text)->s64", "func(b:u8,a:u8)", "func(a:borrow<r>)->own<r>",
	"func(a:u8,b:u8,c:u8,d:u8,e:u8,f:u8)", "func(func:u8,async:u8,u8:u8)", "func(abcdefghijkl:list<borrow<r>>)->stream<unit>", "func(a:record{a:u8,b:variant{a,b:char}},b:result<unit,unit>)->result<unit,unit>", "func(a:future<unit>)->future<own<r>>",
	"func(a:list<list<list<u8>>>)->list<list<list<u8>>>",
}

// badFuncs are no text forms of function types.
var badFuncs = []string{
	"", "func", "func(", "func)", "func(a)", "func(a:)", "func(:u8)", "func(a:unit)", "func(a:u8,a:u8)", "func(a:u8,b:u8,a:text)", "func(u8)", "func(a:u8,)", "func(,a:u8)", "func(a:u8 ,b:u8)", "func(a:u8, b:u8)", "func(a: u8)", "func( )", "func ()", " func()", "func() ",
	"func()->unit", "func()->", "func() -> u8", "func()->borrow<r>", "func()->list<borrow<r>>", "func()->result<u8,borrow<r>>", "func()->stream<borrow<r>>", "func(a:stream<borrow<r>>)", "func()->u8 ", "func()->u8->u8", "func()->u8,u8", "func()->(u8)", "func()>u8", "func()-u8", "func()u8",
	"func(a:u8,b:u8,c:u8,d:u8,e:u8,f:u8,g:u8)", "func(thirteen-byte:u8)", "func(A:u8)", "func(a-:u8)", "func(1:u8)", "func(a:list<unit>)", "func(a:list<list<list<list<u8>>>>)", "func()->list<list<list<list<u8>>>>", "func(a:U8)",
	"async", "async ", "asyncfunc()", "async  func()", "async async func()", "func async()", "Async func()", "async func", "async\nfunc()", "func()async ", "u8", "func()func()", "func())", "func(()", "func(a:func())", "Func()", "func()\x00", "func(a:u8)b:u8)",
}

func TestP4Funcs(t *testing.T) {
	f, ok := impl.ReadFunc("async func(a:u8,b:text)->s64")
	want := impl.FuncType{Params: []impl.Param{{Name: "a", Type: impl.Type{Kind: impl.TyU8}}, {Name: "b", Type: impl.Type{Kind: impl.TyText}}}, Result: impl.Type{Kind: impl.TyS64}, Async: true}
	is(t, "ReadFunc", all(ok, alike(f, want), impl.FuncText(want), impl.FuncOk(want)), true, true, "async func(a:u8,b:text)->s64", true)
	f, ok = impl.ReadFunc("func()")
	want = impl.FuncType{Result: impl.Type{Kind: impl.TyUnit}}
	is(t, "ReadFunc of the least", all(ok, alike(f, want), impl.FuncText(want)), true, true, "func()")
	for _, s := range goodFuncs {
		f, ok := impl.ReadFunc(s)
		is(t, s, all(ok, impl.FuncOk(f), impl.FuncText(f), modelOfFunc(s), f.Async), true, true, s, true, strings.HasPrefix(s, "async "))
	}
	for _, s := range badFuncs {
		f, ok := impl.ReadFunc(s)
		if ok || !alike(f, impl.FuncType{}) || modelOfFunc(s) {
			t.Errorf("ReadFunc(%q) is %+v, %v", s, f, ok)
		}
	}
}

func TestP4ReadFuncModel(t *testing.T) {
	for _, s := range slices.Concat(goodFuncs, badFuncs) {
		list := append(changes(s, " ,:<>{}()-_auU1\x00é"), strings.ReplaceAll(s, ",", ", "), strings.ReplaceAll(s, "u8", "unit"), strings.ReplaceAll(s, "own", "borrow"), strings.ReplaceAll(s, "b:", "a:"), "async "+s, s+"->u8", s+"->unit")
		for _, changed := range list {
			f, ok := impl.ReadFunc(changed)
			if ok != modelOfFunc(changed) || ok && (impl.FuncText(f) != changed || !impl.FuncOk(f)) || !ok && !alike(f, impl.FuncType{}) {
				t.Errorf("ReadFunc(%q) is %+v, %v", changed, f, ok)
			}
		}
	}
}

// TestP4FuncOk makes up functions of valid types, and checks text and validity against the definition.
func TestP4FuncOk(t *testing.T) {
	r := rand.New(rand.NewSource(4))
	list := someTypes(5, 500)
	names := strings.Fields("a b c d-1 e f func async unit")
	for range 3000 {
		f := impl.FuncType{Result: list[r.Intn(len(list))], Async: r.Intn(2) == 0}
		var params []string
		ok := !strings.Contains(printed(f.Result), "borrow<")
		for range r.Intn(8) {
			p := impl.Param{Name: names[r.Intn(len(names))], Type: list[r.Intn(len(list))]}
			ok = ok && !slices.Contains(params, p.Name) && p.Type.Kind != impl.TyUnit
			f.Params = append(f.Params, p)
			params = append(params, p.Name)
		}
		ok = ok && len(params) <= 6
		if !ok {
			checkBadFunc(t, shown(f), f)
			continue
		}
		text := "func("
		for i, p := range f.Params {
			text += strings.Repeat(",", min(i, 1)) + p.Name + ":" + printed(p.Type)
		}
		text += ")"
		if f.Async {
			text = "async " + text
		}
		if f.Result.Kind != impl.TyUnit {
			text += "->" + printed(f.Result)
		}
		read, readOk := impl.ReadFunc(text)
		is(t, text, all(impl.FuncOk(f), impl.FuncText(f), readOk, alike(read, f), impl.SameFunc(read, f)), true, text, true, true, true)
		types := impl.ParamsOf(f)
		is(t, text, all(len(types) == len(f.Params)), true)
		for i, u := range types {
			is(t, text, all(alike(u, f.Params[i].Type)), true)
		}
	}
}

func TestP4FuncLimits(t *testing.T) {
	u8, unit := impl.Type{Kind: impl.TyU8}, impl.Type{Kind: impl.TyUnit}
	six := func(name string, u, result impl.Type) impl.FuncType {
		return impl.FuncType{Params: []impl.Param{{Name: "a", Type: u8}, {Name: "b", Type: u8}, {Name: "c", Type: u8}, {Name: "d", Type: u8}, {Name: "e", Type: u8}, {Name: name, Type: u}}, Result: result}
	}
	borrow := impl.Type{Kind: impl.TyBorrow, Name: "r"}
	is(t, "six parameters", all(impl.FuncOk(six("f", u8, unit)), impl.FuncOk(six("abcdefghijkl", borrow, u8)), impl.FuncOk(six("f", nested(impl.TyList, 4, u8), nested(impl.TyList, 4, u8)))), true, true, true)
	seven := six("f", u8, unit)
	seven.Params = append(seven.Params, impl.Param{Name: "g", Type: u8})
	checkBadFunc(t, "seven parameters", seven)
	for _, name := range []string{"a", "e", "", "A", "abcdefghijklm", "f-"} {
		checkBadFunc(t, "a parameter "+name, six(name, u8, unit))
	}
	for _, u := range []impl.Type{unit, {}, nested(impl.TyList, 5, u8), {Kind: impl.TyList, Kids: []impl.Type{unit}}, {Kind: impl.TyStream, Kids: []impl.Type{borrow}}} {
		checkBadFunc(t, "a parameter of an invalid type", six("f", u, unit))
	}
	for _, u := range []impl.Type{borrow, {}, nested(impl.TyList, 2, borrow), nested(impl.TyOption, 4, borrow), nested(impl.TyList, 5, u8), {Kind: impl.TyFuture, Kids: []impl.Type{borrow}}, {Kind: impl.TyTuple, Kids: []impl.Type{u8, borrow}}} {
		checkBadFunc(t, "a result of an invalid type", six("f", u8, u))
		checkBadFunc(t, "a result of an invalid type", impl.FuncType{Result: u})
	}
	checkBadFunc(t, "the zero function", impl.FuncType{})
}

// calc is a valid interface with two resources and three functions.
func calc(t *testing.T) impl.Face {
	t.Helper()
	var list []impl.Func
	for i, s := range []string{"async func(a:u8,b:text)->s64", "func(f:borrow<file>,l:list<own<res>>)", "func()->own<res>"} {
		f, ok := impl.ReadFunc(s)
		if !ok {
			t.Fatal(s)
		}
		list = append(list, impl.Func{Name: []string{"add", "bind", "create"}[i], Type: f})
	}
	return impl.Face{Package: "app", Name: "calc", Version: "1.0.0", Resources: []string{"file", "res"}, Funcs: list}
}

func TestP4FuncIn(t *testing.T) {
	face := calc(t)
	is(t, "FaceOk", all(impl.FaceOk(face)), true)
	for _, function := range face.Funcs {
		f, ok := impl.FuncIn(face, function.Name)
		is(t, function.Name, all(ok, alike(f, function.Type), impl.SameFunc(f, function.Type)), true, true, true)
	}
	for _, name := range []string{"", "ad", "addd", "sub", "Add", "file", "calc", "zzz"} {
		f, ok := impl.FuncIn(face, name)
		is(t, name, all(ok, alike(f, impl.FuncType{})), false, true)
	}
	empty := impl.Face{Package: "a", Name: "b", Version: "0.0.0"}
	is(t, "an empty face", all(impl.FaceOk(empty)), true)
	f, ok := impl.FuncIn(empty, "")
	is(t, "FuncIn of an empty face", all(ok, alike(f, impl.FuncType{})), false, true)
	face.Version = "1.0"
	checkBadFace(t, "an invalid version", face, "add", "bind")
}

func TestP4FaceOk(t *testing.T) {
	change := func(what string, want bool, do func(f *impl.Face)) {
		t.Helper()
		face := roomy(calc(t))
		do(&face)
		is(t, what, all(impl.FaceOk(face)), want)
		if !want {
			checkBadFace(t, what, face, "add", "bind", "create")
		}
	}
	for _, name := range append(noNames(), "a", "twelve-bytes") {
		change("the package "+name, isName(name), func(f *impl.Face) { f.Package = name })
		change("the name "+name, isName(name), func(f *impl.Face) { f.Name = name })
		change("a resource z"+name, isName("z"+name), func(f *impl.Face) { f.Resources = []string{"file", "res", "z"}; f.Resources[2] = "z" + name })
		change("a function z"+name, isName("z"+name), func(f *impl.Face) { f.Funcs[2].Name = "z" + name })
	}
	for _, version := range append(noVersions(), "0.0.0", "999.999.999", "1.0.0") {
		_, ok := modelOf(version)
		change("the version "+version, ok, func(f *impl.Face) { f.Version = version })
	}
	for _, list := range []string{"file res", "a file res", "file res z", "a file m res", "file file-1 res"} {
		change("the resources "+list, true, func(f *impl.Face) { f.Resources = strings.Fields(list) })
	}
	for _, list := range []string{"", "file", "res", "res file", "file file res", "file res res", "a file m res z", "a b", "file m a res", "fil res", "File res", "file res res-", "1 file res", "file res s--"} {
		change("the resources "+list, false, func(f *impl.Face) { f.Resources = strings.Fields(list) })
	}
	for _, list := range []string{"add bind create", "a b c", "add add-1 bind", "a a1 aa"} {
		change("the functions "+list, true, func(f *impl.Face) { rename(f, list) })
	}
	for _, list := range []string{"add create bind", "bind add create", "add add create", "add bind bind", "add bind create-", "Add bind create", "add bind thirteen-byte", "add bind"} {
		change("the functions "+list, false, func(f *impl.Face) { rename(f, list) })
	}
	change("eight functions", true, func(f *impl.Face) { f.Funcs = manyFuncs(8) })
	change("nine functions", false, func(f *impl.Face) { f.Funcs = manyFuncs(9) })
	change("an invalid function", false, func(f *impl.Face) { f.Funcs[1].Type.Result.Kind = 0 })
	change("an invalid function at the end", false, func(f *impl.Face) { f.Funcs[2].Type.Result = impl.Type{Kind: impl.TyBorrow, Name: "res"} })
	for i := range 3 {
		change("an own handle that is not listed, in a result", false, func(f *impl.Face) { f.Funcs[i].Type.Result = impl.Type{Kind: impl.TyOwn, Name: "other"} })
		change("an own handle that is listed, in a result", true, func(f *impl.Face) { f.Funcs[i].Type.Result = impl.Type{Kind: impl.TyOwn, Name: "file"} })
	}
	for i := range 2 {
		for _, kind := range []int64{impl.TyOwn, impl.TyBorrow} {
			for _, name := range []string{"file", "other", "re", "calc"} {
				handle := impl.Type{Kind: kind, Name: name}
				change("a handle in a parameter", name == "file", func(f *impl.Face) { f.Funcs[0].Type.Params[i].Type = handle })
				change("a handle in a list in a parameter", name == "file", func(f *impl.Face) { f.Funcs[0].Type.Params[i].Type = nested(impl.TyList, 4, handle) })
			}
		}
	}
}

// noNames are strings that are no names.
func noNames() []string {
	return []string{"", "A", "a-", "a--b", "a_b", "é", "thirteen-byte", "a b", "a\x00"}
}

func rename(f *impl.Face, list string) {
	for i := range f.Funcs {
		f.Funcs[i].Name = append(strings.Fields(list), "", "")[i]
	}
}

func manyFuncs(many int) []impl.Func {
	var list []impl.Func
	for i := range many {
		list = append(list, impl.Func{Name: "f" + strconv.Itoa(i), Type: impl.FuncType{Result: impl.Type{Kind: impl.TyUnit}}})
	}
	return list
}

func TestP4SameType(t *testing.T) {
	list := someTypes(6, 150)
	for _, s := range goodTypes {
		list = append(list, typed(t, s))
	}
	for _, a := range list {
		for _, b := range list {
			if impl.SameType(a, b) != (printed(a) == printed(b)) {
				t.Errorf("SameType of %s and %s is %v", printed(a), printed(b), impl.SameType(a, b))
			}
		}
	}
	base := impl.Type{Kind: -5, Name: "No Name", Labels: []string{"x", "x", ""}, Kids: []impl.Type{{Kind: 99, Kids: []impl.Type{{Labels: []string{""}}}}, {Name: "y"}}}
	is(t, "an invalid type", all(impl.SameType(base, roomy(base)), impl.SameType(impl.Type{}, impl.Type{}), impl.SameType(base, impl.Type{})), true, true, false)
	empty := impl.Type{Labels: []string{}, Kids: []impl.Type{}}
	is(t, "nil and empty slices", all(impl.SameType(empty, impl.Type{}), impl.SameType(impl.Type{}, empty)), true, true)
	for i, do := range []func(u *impl.Type){
		func(u *impl.Type) { u.Kind++ }, func(u *impl.Type) { u.Kind += 1 << 32 }, func(u *impl.Type) { u.Name = "no name" }, func(u *impl.Type) { u.Name = "" },
		func(u *impl.Type) { u.Labels = u.Labels[:2] }, func(u *impl.Type) { u.Labels[2] = "z" }, func(u *impl.Type) { u.Labels[0] = "" }, func(u *impl.Type) { u.Labels = nil }, func(u *impl.Type) { u.Labels = append(u.Labels, "") },
		func(u *impl.Type) { u.Labels[0], u.Labels[2] = u.Labels[2], u.Labels[0] },
		func(u *impl.Type) { u.Kids = u.Kids[:1] }, func(u *impl.Type) { u.Kids[1].Name = "" }, func(u *impl.Type) { u.Kids[0].Kids[0].Labels = nil }, func(u *impl.Type) { u.Kids[0].Kids[0].Kind = 1 },
		func(u *impl.Type) { u.Kids[0].Kids = nil }, func(u *impl.Type) { u.Kids[0], u.Kids[1] = u.Kids[1], u.Kids[0] }, func(u *impl.Type) { u.Kids = append(u.Kids, impl.Type{}) }, func(u *impl.Type) { u.Kids = nil },
	} {
		other := roomy(base)
		do(&other)
		is(t, "change "+strconv.Itoa(i), all(impl.SameType(base, other), impl.SameType(other, base)), false, false)
	}
}

// TestP4SameTypeInOneArray compares lists of Kids that start at the same element and have different ends.
func TestP4SameTypeInOneArray(t *testing.T) {
	row := []impl.Type{{Kind: 1}, {Kind: 1}, {Kind: 2}}
	pairs := func(a, b []impl.Type) impl.Type {
		return impl.Type{Kids: []impl.Type{{Kids: a}, {Kids: b}}}
	}
	is(t, "starts of one array", all(impl.SameType(pairs(row[:1], row[:2]), pairs(row[1:2], row[1:])), impl.SameType(pairs(row[:2], row[:1]), pairs(row[1:], row[1:2]))), false, false)
	is(t, "the same lists twice", all(impl.SameType(pairs(row[:1], row[:1]), pairs(row[1:2], row[1:2]))), true)
	is(t, "one list and two", all(impl.SameType(pairs(row[:1], row[:1]), pairs(row[1:2], row[2:])), impl.SameType(pairs(row[:1], row[:1]), pairs(row[2:], row[1:2]))), false, false)
	is(t, "two lists and one", all(impl.SameType(pairs(row[1:2], row[2:]), pairs(row[:1], row[:1])), impl.SameType(pairs(row[2:], row[1:2]), pairs(row[:1], row[:1]))), false, false)
}

// TestP4SameDeepTypes checks the limit of 100 levels, wherever in a type the levels are.
func TestP4SameDeepTypes(t *testing.T) {
	for levels := range 130 {
		a, b := nested(impl.TyList, levels+1, impl.Type{Kind: impl.TyU8}), nested(impl.TyList, levels+1, impl.Type{Kind: impl.TyU8})
		other := nested(impl.TyList, levels+1, impl.Type{Kind: impl.TyS8})
		is(t, strconv.Itoa(levels+1)+" levels", all(impl.SameType(a, b), impl.SameType(a, a), impl.SameType(a, other)), levels < 100, levels < 100, false)
		wide := func(kid impl.Type) impl.Type {
			return impl.Type{Kind: impl.TyTuple, Kids: []impl.Type{{Kind: impl.TyU8}, {Kind: impl.TyU8}, kid}}
		}
		is(t, strconv.Itoa(levels+2)+" levels in the last Kid", all(impl.SameType(wide(a), wide(b))), levels < 99)
		f := impl.FuncType{Params: []impl.Param{{Name: "a", Type: a}}}
		g := impl.FuncType{Params: []impl.Param{{Name: "a", Type: b}}}
		is(t, strconv.Itoa(levels+1)+" levels in a parameter", all(impl.SameFunc(f, g), impl.SameFunc(impl.FuncType{Result: a}, impl.FuncType{Result: b})), levels < 100, levels < 100)
		face := impl.Face{Funcs: []impl.Func{{Type: impl.FuncType{Result: a}}, {Type: f}}}
		like := impl.Face{Funcs: []impl.Func{{Type: impl.FuncType{Result: b}}, {Type: g}}}
		is(t, strconv.Itoa(levels+1)+" levels in a face", all(impl.SameFace(face, like)), levels < 100)
	}
	// The same list of Kids at two levels, at the deeper of which it goes beyond the limit.
	shared := nested(impl.TyList, 99, impl.Type{Kind: impl.TyU8}).Kids
	a := impl.Type{Kids: []impl.Type{{Kids: shared}, {Kids: []impl.Type{{Kids: shared}}}}}
	is(t, "Kids at two levels", all(impl.SameType(a, a), impl.SameType(a.Kids[0], a.Kids[0])), false, true)
}

func TestP4SameFunc(t *testing.T) {
	base := impl.FuncType{Params: []impl.Param{{Name: "A", Type: impl.Type{Kind: 77}}, {Name: "A", Type: impl.Type{Name: "x"}}}, Result: impl.Type{Kind: -1, Kids: []impl.Type{{}}}}
	is(t, "an invalid function", all(impl.SameFunc(base, roomy(base)), impl.SameFunc(impl.FuncType{}, impl.FuncType{Params: []impl.Param{}}), impl.SameFunc(base, impl.FuncType{})), true, true, false)
	for i, do := range []func(f *impl.FuncType){
		func(f *impl.FuncType) { f.Async = true }, func(f *impl.FuncType) { f.Result.Kind = 0 }, func(f *impl.FuncType) { f.Result.Kids = nil }, func(f *impl.FuncType) { f.Params = f.Params[:1] }, func(f *impl.FuncType) { f.Params = nil },
		func(f *impl.FuncType) { f.Params[1].Name = "B" }, func(f *impl.FuncType) { f.Params[0].Type.Kind = 7 }, func(f *impl.FuncType) { f.Params[1].Type.Name = "" },
		func(f *impl.FuncType) { f.Params[0], f.Params[1] = f.Params[1], f.Params[0] }, func(f *impl.FuncType) { f.Params = append(f.Params, impl.Param{}) },
	} {
		other := roomy(base)
		do(&other)
		is(t, "change "+strconv.Itoa(i), all(impl.SameFunc(base, other), impl.SameFunc(other, base)), false, false)
	}
	for _, a := range goodFuncs {
		for _, b := range goodFuncs {
			f, _ := impl.ReadFunc(a)
			g, _ := impl.ReadFunc(b)
			is(t, a+" and "+b, all(impl.SameFunc(f, g)), a == b)
		}
	}
}

func TestP4SameFace(t *testing.T) {
	base := calc(t)
	is(t, "a face", all(impl.SameFace(base, roomy(base)), impl.SameFace(impl.Face{}, impl.Face{Resources: []string{}, Funcs: []impl.Func{}}), impl.SameFace(base, impl.Face{})), true, true, false)
	base.Version = "none"
	base.Resources = []string{"z", "A", "z"}
	is(t, "an invalid face", all(impl.SameFace(base, roomy(base))), true)
	for i, do := range []func(f *impl.Face){
		func(f *impl.Face) { f.Package = "other" }, func(f *impl.Face) { f.Name = "" }, func(f *impl.Face) { f.Version = "1.0.0" }, func(f *impl.Face) { f.Resources = f.Resources[:2] }, func(f *impl.Face) { f.Resources[1] = "a" }, func(f *impl.Face) { f.Resources = nil },
		func(f *impl.Face) { f.Funcs = f.Funcs[:2] }, func(f *impl.Face) { f.Funcs = nil }, func(f *impl.Face) { f.Funcs[2].Name = "other" }, func(f *impl.Face) { f.Funcs[0].Type.Async = false }, func(f *impl.Face) { f.Funcs[1].Type.Result.Kind = 2 },
		func(f *impl.Face) { f.Funcs[1], f.Funcs[2] = f.Funcs[2], f.Funcs[1] }, func(f *impl.Face) { f.Funcs[0].Type.Params[1].Name = "c" }, func(f *impl.Face) { f.Funcs = append(f.Funcs, impl.Func{}) }, func(f *impl.Face) { f.Resources = append(f.Resources, "") },
	} {
		other := roomy(base)
		do(&other)
		is(t, "change "+strconv.Itoa(i), all(impl.SameFace(base, other), impl.SameFace(other, base)), false, false)
	}
}

// deepTypes are types of very many levels, and types whose Kids share memory or contain themselves.
func deepTypes() []impl.Type {
	u8 := impl.Type{Kind: impl.TyU8}
	circle := []impl.Type{{Kind: impl.TyTuple, Labels: []string{"a"}}, {Kind: impl.TyStream}}
	circle[0].Kids, circle[1].Kids = circle, circle[:1]
	double := u8
	for range 90 {
		double = impl.Type{Kind: impl.TyTuple, Kids: []impl.Type{double, double}}
	}
	return []impl.Type{
		nested(impl.TyList, 10000, u8), nested(impl.TyStream, 1000000, impl.Type{Kind: impl.TyBorrow, Name: "r"}), nested(0, 10000, u8), nested(math.MaxInt64, 10000, u8),
		{Kind: impl.TyRecord, Labels: []string{"a"}, Kids: []impl.Type{nested(impl.TyOption, 10000, u8)}}, circle[0], circle[1], double,
		{Kind: impl.TyTuple, Kids: slices.Repeat([]impl.Type{u8}, 100000)}, {Kind: impl.TyEnum, Labels: slices.Repeat([]string{"a"}, 100000)}, {Kind: impl.TyOwn, Name: strings.Repeat("a", 100000)},
	}
}

func TestP1DeepTypes(t *testing.T) {
	for i, u := range deepTypes() {
		what := "deep type " + strconv.Itoa(i)
		checkBadType(t, what, u)
		checkBadType(t, what+" in a list", impl.Type{Kind: impl.TyList, Kids: []impl.Type{u}})
		same := i >= 7
		is(t, what, all(impl.SameType(u, u), impl.SameType(u, impl.Type{}), impl.SameType(impl.Type{}, u)), same, false, false)
		f := impl.FuncType{Params: []impl.Param{{Name: "a", Type: u}}, Result: u}
		is(t, what, all(impl.SameFunc(f, f), impl.SameFunc(f, impl.FuncType{}), impl.SameFunc(impl.FuncType{}, f)), same, false, false)
		face := impl.Face{Package: "a", Name: "b", Version: "1.0.0", Funcs: []impl.Func{{Name: "f", Type: f}}}
		is(t, what, all(impl.SameFace(face, face), impl.SameFace(face, impl.Face{}), impl.SameFace(impl.Face{}, face)), same, false, false)
		checkBadFace(t, what, face, "f")
	}
	for _, s := range []string{"list<", "tuple<u8,", "record{a:", "variant{a,", "own<", "async ", "func(", "func(a:", "->", "a", "<", ","} {
		long := strings.Repeat(s, 100000)
		for _, text := range []string{long, long + "u8" + strings.Repeat(">", 100000), "func(" + long, "tuple<" + long, "enum{" + long, "record{" + long, "func()->" + long} {
			u, ok := impl.ReadType(text)
			f, fOk := impl.ReadFunc(text)
			is(t, "a long text", all(ok, fOk, alike(u, impl.Type{}), alike(f, impl.FuncType{}), impl.NameOk(text)), false, false, true, true, false)
		}
	}
}

func TestP1Types(t *testing.T) {
	list := someTypes(7, 200)
	within, beyond := limitTypes()
	for _, u := range slices.Concat(list, within, beyond, []impl.Type{{}, {Kind: -1}}) {
		pure(t, "types", u, func(u impl.Type) []any {
			return all(impl.TypeOk(u), impl.DeepOf(u), impl.PartsOf(u), impl.HasHandles(u), impl.HasBorrow(u), impl.ResourcesOf(u), impl.TypeText(u), impl.SameType(u, u), impl.SameType(u, impl.Type{}))
		})
		f := impl.FuncType{Params: []impl.Param{{Name: "a", Type: u}, {Name: "b", Type: u}}, Result: u}
		g := impl.FuncType{Params: []impl.Param{{Name: "a", Type: u}, {Name: "b", Type: u}}, Result: impl.Type{Kind: impl.TyUnit}}
		for _, f := range []impl.FuncType{f, g} {
			pure(t, "functions", f, func(f impl.FuncType) []any {
				return all(impl.FuncOk(f), impl.FuncText(f), impl.ParamsOf(f), impl.SameFunc(f, f), impl.SameFunc(f, impl.FuncType{}))
			})
			face := impl.Face{Package: "a", Name: "b", Version: "1.0.0", Resources: impl.ResourcesOf(u), Funcs: []impl.Func{{Name: "f", Type: f}, {Name: "g", Type: g}}}
			pure(t, "faces", face, func(face impl.Face) []any {
				f, ok := impl.FuncIn(face, "f")
				g, gOk := impl.FuncIn(face, "g")
				return all(impl.FaceOk(face), f, ok, g, gOk, impl.SameFace(face, face), impl.SameFace(face, impl.Face{}))
			})
		}
	}
	for _, s := range slices.Concat(goodTypes, badTypes, goodFuncs, badFuncs) {
		pure(t, s, s, func(s string) []any {
			u, ok := impl.ReadType(s)
			f, fOk := impl.ReadFunc(s)
			return all(u, ok, f, fOk, impl.NameOk(s))
		})
	}
	face := calc(t)
	pure(t, "FuncIn", face, func(face impl.Face) []any {
		f, _ := impl.FuncIn(face, "bind")
		g, _ := impl.FuncIn(face, "bind")
		return all(f, g, impl.ParamsOf(f), impl.ParamsOf(g))
	})
}
