package tests

import (
	"math"
	"math/rand"
	"slices"
	"strconv"
	"strings"
	"testing"

	"loop.example/g00901/impl"
)

// The model of chapter 8 lists all reasons in the order of the document. The first one is what the functions return.

func isInteger(kind int64) bool {
	return impl.TyU8 <= kind && kind <= impl.TyS64
}

// reasonsOf lists the reasons why a valid type cannot be used as another one.
func reasonsOf(a, b impl.Type, at string) []impl.Reason {
	if isInteger(a.Kind) && isInteger(b.Kind) {
		if isNumber(b.Kind, numberRanges[a.Kind][0]) && isNumber(b.Kind, numberRanges[a.Kind][1]) {
			return nil
		}
		return []impl.Reason{{Kind: impl.RsRange, At: at}}
	}
	if a.Kind != b.Kind {
		return []impl.Reason{{Kind: impl.RsKind, At: at}}
	}
	var list []impl.Reason
	switch a.Kind {
	case impl.TyList, impl.TyOption:
		list = reasonsOf(a.Kids[0], b.Kids[0], at+map[int64]string{impl.TyList: "[]", impl.TyOption: "?"}[a.Kind])
	case impl.TyResult:
		list = append(reasonsOf(a.Kids[0], b.Kids[0], at+".ok"), reasonsOf(a.Kids[1], b.Kids[1], at+".err")...)
	case impl.TyTuple:
		if len(a.Kids) != len(b.Kids) {
			list = append(list, impl.Reason{Kind: impl.RsParts, At: at})
		}
		for i := range min(len(a.Kids), len(b.Kids)) {
			list = append(list, reasonsOf(a.Kids[i], b.Kids[i], at+"."+strconv.Itoa(i))...)
		}
	case impl.TyRecord:
		for i, label := range b.Labels {
			j := slices.Index(a.Labels, label)
			if j < 0 {
				list = append(list, impl.Reason{Kind: impl.RsLabel, At: at + "." + label})
			} else {
				list = append(list, reasonsOf(a.Kids[j], b.Kids[i], at+"."+label)...)
			}
		}
	case impl.TyVariant, impl.TyEnum, impl.TyFlags:
		for i, label := range a.Labels {
			j := slices.Index(b.Labels, label)
			if j < 0 {
				list = append(list, impl.Reason{Kind: impl.RsCase, At: at + "." + label})
			} else if a.Kind == impl.TyVariant {
				list = append(list, reasonsOf(a.Kids[i], b.Kids[j], at+"."+label)...)
			}
		}
	case impl.TyOwn, impl.TyBorrow:
		if a.Name != b.Name {
			list = append(list, impl.Reason{Kind: impl.RsResource, At: at})
		}
	case impl.TyStream, impl.TyFuture:
		if printed(a) != printed(b) {
			list = append(list, impl.Reason{Kind: impl.RsParts, At: at})
		}
	}
	return list
}

func reasonsOfFunc(a, b impl.FuncType, at string) []impl.Reason {
	var list []impl.Reason
	if len(a.Params) != len(b.Params) {
		list = append(list, impl.Reason{Kind: impl.RsParam, At: at})
	}
	for i := range min(len(a.Params), len(b.Params)) {
		place := at + "(" + b.Params[i].Name + ")"
		if a.Params[i].Name != b.Params[i].Name {
			list = append(list, impl.Reason{Kind: impl.RsParam, At: place})
		}
		list = append(list, reasonsOf(b.Params[i].Type, a.Params[i].Type, place)...)
	}
	list = append(list, reasonsOf(a.Result, b.Result, at+"->")...)
	if a.Async && !b.Async {
		list = append(list, impl.Reason{Kind: impl.RsAsync, At: at})
	}
	return list
}

func reasonsOfFace(have, want impl.Face, at string) []impl.Reason {
	at += want.Package + "/" + want.Name
	var list []impl.Reason
	if have.Package+"/"+have.Name != want.Package+"/"+want.Name {
		list = append(list, impl.Reason{Kind: impl.RsFace, At: at})
	}
	if !servesModel(have.Version, want.Version) {
		list = append(list, impl.Reason{Kind: impl.RsVersion, At: at})
	}
	for _, name := range want.Resources {
		if !slices.Contains(have.Resources, name) {
			list = append(list, impl.Reason{Kind: impl.RsResource, At: at + "." + name})
		}
	}
	for _, f := range want.Funcs {
		i := slices.IndexFunc(have.Funcs, func(g impl.Func) bool { return g.Name == f.Name })
		if i < 0 {
			list = append(list, impl.Reason{Kind: impl.RsFunc, At: at + "." + f.Name})
		} else {
			list = append(list, reasonsOfFunc(have.Funcs[i].Type, f.Type, at+"."+f.Name)...)
		}
	}
	return list
}

func reasonsOfWorld(have, want impl.World) []impl.Reason {
	var list []impl.Reason
	each := func(have, want []impl.Face, at string) {
		for _, w := range want {
			i := slices.IndexFunc(have, func(h impl.Face) bool { return h.Package == w.Package && h.Name == w.Name })
			if i < 0 {
				list = append(list, impl.Reason{Kind: impl.RsFace, At: at + w.Package + "/" + w.Name})
			} else {
				list = append(list, reasonsOfFace(have[i], w, at)...)
			}
		}
	}
	each(want.Imports, have.Imports, "import ")
	each(have.Exports, want.Exports, "export ")
	return list
}

// checkReason compares what a function returns with the first reason of a list.
func checkReason(t *testing.T, what string, got impl.Reason, no bool, list []impl.Reason) {
	t.Helper()
	want := append(list, impl.Reason{})[0]
	if got != want || no != (len(list) > 0) {
		t.Errorf("%s: %+v, %v, want %+v", what, got, no, want)
	}
}

// checkTypes compares WhyNot and MayStand with the model.
func checkTypes(t *testing.T, a, b impl.Type) bool {
	t.Helper()
	what := printed(a) + " as " + printed(b)
	r, no := impl.WhyNot(a, b)
	list := reasonsOf(a, b, "")
	checkReason(t, what, r, no, list)
	is(t, what, all(impl.MayStand(a, b)), len(list) == 0)
	return len(list) == 0
}

func TestP9SubtypeConstants(t *testing.T) {
	is(t, "constants", all(int64(impl.RsKind), int64(impl.RsRange), int64(impl.RsParts), int64(impl.RsLabel), int64(impl.RsCase), int64(impl.RsResource), int64(impl.RsParam), int64(impl.RsAsync), int64(impl.RsFunc), int64(impl.RsVersion), int64(impl.RsFace)), 1, 2, 3, 4, 5, 6, 7, 8, 9, 10, 11)
}

func TestP9ReasonText(t *testing.T) {
	for i, want := range []string{"another kind", "numbers do not fit", "other parts", "a label lacks", "an unknown case", "another resource", "other params", "async", "a function lacks", "another version", "another interface"} {
		kind := int64(i + 1)
		is(t, want, all(impl.ReasonText(impl.Reason{Kind: kind}), impl.ReasonText(impl.Reason{Kind: kind, At: ".a[]"}), impl.ReasonText(impl.Reason{Kind: kind, At: " "}), impl.ReasonText(impl.Reason{Kind: kind, At: "import a/b.f(x)"})), want, ".a[]: "+want, " : "+want, "import a/b.f(x): "+want)
	}
	for _, kind := range []int64{0, -1, 12, 13, 256 + 1, 1<<32 + 1, math.MaxInt64, math.MinInt64} {
		zero(t, strconv.FormatInt(kind, 10), impl.ReasonText(impl.Reason{Kind: kind}), impl.ReasonText(impl.Reason{Kind: kind, At: ".a"}))
	}
	zero(t, "no reason", impl.ReasonText(impl.Reason{}))
}

// TestP9Integers compares the ranges of all integer types, alone and inside of other types.
func TestP9Integers(t *testing.T) {
	// Each row lists the types whose range holds that of the first one.
	holds := map[string]string{"u8": "u8 u16 s16 u32 s32 s64", "s8": "s8 s16 s32 s64", "u16": "u16 u32 s32 s64", "s16": "s16 s32 s64", "u32": "u32 s64", "s32": "s32 s64", "s64": "s64"}
	for a, list := range holds {
		for b := range holds {
			fits := slices.Contains(strings.Fields(list), b)
			for form, at := range map[string]string{"X": "", "list<X>": "[]", "option<X>": "?", "result<X,u8>": ".ok", "result<unit,X>": ".err", "tuple<u8,X>": ".1", "record{a:X}": ".a", "variant{b,a:X}": ".a", "list<option<list<X>>>": "[]?[]"} {
				want := impl.Reason{}
				if !fits {
					want = impl.Reason{Kind: impl.RsRange, At: at}
				}
				r, no := impl.WhyNot(typed(t, strings.ReplaceAll(form, "X", a)), typed(t, strings.ReplaceAll(form, "X", b)))
				is(t, a+" as "+b+" in "+form, all(r == want, no), true, !fits)
			}
			r, no := impl.WhyNot(typed(t, "stream<"+a+">"), typed(t, "stream<"+b+">"))
			is(t, "a stream of "+a+" as one of "+b, all(no, r.Kind == impl.RsParts), a != b, a != b)
		}
		for _, other := range []string{"bool", "char", "text", "unit", "enum{a}", "flags{a}", "list<u8>", "own<r>"} {
			r, no := impl.WhyNot(typed(t, a), typed(t, other))
			s, sNo := impl.WhyNot(typed(t, other), typed(t, a))
			is(t, a+" as "+other, all(r == impl.Reason{Kind: impl.RsKind}, no, s == impl.Reason{Kind: impl.RsKind}, sNo), true, true, true, true)
		}
	}
}

// reasonCase says why one text form cannot be used as another; the kind is 0 if it can.
type reasonCase struct {
	a, b string
	kind int64
	at   string
}

var typeReasons = []reasonCase{
	{"unit", "unit", 0, ""}, {"bool", "bool", 0, ""}, {"char", "char", 0, ""}, {"text", "text", 0, ""}, {"unit", "bool", impl.RsKind, ""}, {"char", "text", impl.RsKind, ""}, {"bool", "u8", impl.RsKind, ""}, {"char", "u32", impl.RsKind, ""}, {"u8", "char", impl.RsKind, ""},
	{"list<u8>", "list<u16>", 0, ""}, {"list<u8>", "option<u8>", impl.RsKind, ""}, {"list<u16>", "list<u8>", impl.RsRange, "[]"}, {"list<list<text>>", "list<list<char>>", impl.RsKind, "[][]"}, {"list<list<u8>>", "list<u8>", impl.RsKind, "[]"}, {"option<u8>", "option<s8>", impl.RsRange, "?"}, {"option<option<text>>", "option<option<u8>>", impl.RsKind, "??"}, {"option<list<u8>>", "option<list<text>>", impl.RsKind, "?[]"}, {"list<option<u8>>", "list<option<text>>", impl.RsKind, "[]?"},
	{"result<u8,u8>", "result<u16,s16>", 0, ""}, {"result<unit,unit>", "result<unit,unit>", 0, ""}, {"result<unit,u8>", "result<u8,u8>", impl.RsKind, ".ok"}, {"result<u8,unit>", "result<u8,u8>", impl.RsKind, ".err"}, {"result<u8,u8>", "result<unit,u8>", impl.RsKind, ".ok"}, {"result<text,text>", "result<u8,u8>", impl.RsKind, ".ok"}, {"result<u8,text>", "result<u8,u8>", impl.RsKind, ".err"}, {"result<u16,u16>", "result<u8,text>", impl.RsRange, ".ok"}, {"result<result<u8,u8>,u8>", "result<result<u8,text>,text>", impl.RsKind, ".ok.err"},
	{"tuple<u8>", "tuple<u8,u8>", impl.RsParts, ""}, {"tuple<u8,u8>", "tuple<u8>", impl.RsParts, ""}, {"tuple<text>", "tuple<u8,u8>", impl.RsParts, ""}, {"tuple<u8,text>", "tuple<u8,u8>", impl.RsKind, ".1"}, {"tuple<text,text>", "tuple<u8,u8>", impl.RsKind, ".0"}, {"tuple<u8,u8,u8,u8,u8,u16>", "tuple<u8,u8,u8,u8,u8,u8>", impl.RsRange, ".5"}, {"tuple<u8,u8>", "tuple<u16,u32>", 0, ""}, {"tuple<u8,tuple<u8,text>>", "tuple<u8,tuple<u8,u8>>", impl.RsKind, ".1.1"}, {"tuple<u8,tuple<u8>>", "tuple<u8,tuple<u8,u8>>", impl.RsParts, ".1"}, {"tuple<u8>", "record{a:u8}", impl.RsKind, ""},
	{"record{a:u8,b:text}", "record{b:text}", 0, ""}, {"record{a:u8,b:text}", "record{b:text,a:u16}", 0, ""}, {"record{b:text}", "record{a:u8,b:text}", impl.RsLabel, ".a"}, {"record{b:text}", "record{b:u8,a:u8}", impl.RsKind, ".b"}, {"record{b:text}", "record{a:u8,b:u8}", impl.RsLabel, ".a"}, {"record{a:text,b:text}", "record{b:u8,a:u8}", impl.RsKind, ".b"}, {"record{x:text,a:u8}", "record{a:u8}", 0, ""}, {"record{a:record{b:u8}}", "record{a:record{c:u8}}", impl.RsLabel, ".a.c"}, {"record{a:list<text>}", "record{a:list<u8>}", impl.RsKind, ".a[]"}, {"record{a:record{b:u8,c:u8}}", "record{a:record{c:u8}}", 0, ""}, {"record{aa:u8}", "record{a:u8}", impl.RsLabel, ".a"}, {"record{a-1:u16}", "record{a-1:u8}", impl.RsRange, ".a-1"},
	{"variant{a}", "variant{a,d}", 0, ""}, {"variant{a,d}", "variant{a}", impl.RsCase, ".d"}, {"variant{d,a}", "variant{a}", impl.RsCase, ".d"}, {"variant{a,b:u8}", "variant{c,b:u16,a}", 0, ""}, {"variant{a:u8}", "variant{a}", impl.RsKind, ".a"}, {"variant{a}", "variant{a:u8}", impl.RsKind, ".a"}, {"variant{a:text,d}", "variant{a:u8}", impl.RsKind, ".a"}, {"variant{d,a:text}", "variant{a:u8}", impl.RsCase, ".d"}, {"variant{a:variant{b,c}}", "variant{a:variant{c}}", impl.RsCase, ".a.b"}, {"variant{a,b}", "enum{a,b}", impl.RsKind, ""}, {"variant{a:u8,b:text}", "variant{b:u8,a:text}", impl.RsKind, ".a"},
	{"enum{a}", "enum{b,a}", 0, ""}, {"enum{a,b}", "enum{b}", impl.RsCase, ".a"}, {"enum{b,c,a}", "enum{b}", impl.RsCase, ".c"}, {"enum{a,b}", "enum{b,a}", 0, ""}, {"enum{a}", "flags{a}", impl.RsKind, ""}, {"flags{a}", "flags{b,a}", 0, ""}, {"flags{a,b}", "flags{a}", impl.RsCase, ".b"}, {"flags{a,b}", "flags{c,d}", impl.RsCase, ".a"}, {"list<flags{a}>", "list<flags{b}>", impl.RsCase, "[].a"},
	{"own<bed>", "own<bed>", 0, ""}, {"own<bed>", "own<lab>", impl.RsResource, ""}, {"own<bed>", "borrow<bed>", impl.RsKind, ""}, {"borrow<bed>", "own<bed>", impl.RsKind, ""}, {"borrow<bed>", "borrow<lab>", impl.RsResource, ""}, {"list<own<bed>>", "list<own<lab>>", impl.RsResource, "[]"}, {"own<bed>", "own<beds>", impl.RsResource, ""},
	{"stream<u8>", "stream<u8>", 0, ""}, {"stream<u8>", "stream<u16>", impl.RsParts, ""}, {"stream<u8>", "future<u8>", impl.RsKind, ""}, {"future<unit>", "future<unit>", 0, ""}, {"future<unit>", "future<u8>", impl.RsParts, ""}, {"stream<record{a:u8,b:u8}>", "stream<record{a:u8}>", impl.RsParts, ""}, {"stream<record{a:u8,b:u8}>", "stream<record{b:u8,a:u8}>", impl.RsParts, ""}, {"stream<own<a>>", "stream<own<b>>", impl.RsParts, ""}, {"list<future<u8>>", "list<future<u16>>", impl.RsParts, "[]"}, {"stream<enum{a}>", "stream<enum{a,b}>", impl.RsParts, ""},
}

func TestP9TypeReasons(t *testing.T) {
	for _, c := range typeReasons {
		a, b := typed(t, c.a), typed(t, c.b)
		r, no := impl.WhyNot(a, b)
		is(t, c.a+" as "+c.b, all(r == impl.Reason{Kind: c.kind, At: c.at}, no, impl.MayStand(a, b)), true, c.kind != 0, c.kind == 0)
		checkTypes(t, a, b)
	}
}

// relatedTypes are types many of which can be used as each other.
func relatedTypes(t *testing.T) []impl.Type {
	var list []impl.Type
	for _, s := range strings.Fields("unit bool u8 s8 u16 s16 u32 s32 s64 char text list<u8> list<s16> list<text> option<u8> option<u16> option<list<u8>> option<list<u32>> result<unit,unit> result<u8,unit> result<u16,unit> result<unit,u8> result<u8,s8> result<s16,s16> tuple<u8> tuple<u16> tuple<u8,s8> tuple<s16,s16> " +
		"record{a:u8} record{b:u8} record{a:u16} record{a:u8,b:u8} record{b:u8,a:u8} record{b:u16,a:u8} record{a:u8,b:u8,c:text} record{c:text} record{a:record{a:u8,b:u8}} record{a:record{b:u16}} variant{a} variant{b} variant{a,b} variant{b,a} variant{a:u8} variant{a:u16} variant{b,a:u8} variant{a:u16,b,c} variant{a:variant{a}} variant{a:variant{b,a}} " +
		"enum{a} enum{b} enum{a,b} enum{b,a} enum{c,b,a} flags{a} flags{b} flags{a,b} flags{b,c,a} own<r> own<s> borrow<r> borrow<s> stream<u8> stream<u16> future<u8> future<unit> list<variant{a}> list<variant{a,b}> list<record{a:u8,b:u8}> list<record{a:s64}>") {
		list = append(list, typed(t, s))
	}
	return list
}

// checkOrder checks that a relation, given as a matrix, is reflexive and transitive, and that it is neither empty nor full.
func checkOrder(t *testing.T, what string, may [][]bool) {
	t.Helper()
	held := 0
	for a := range may {
		if !may[a][a] {
			t.Errorf("%s %d: not reflexive", what, a)
		}
		for b := range may {
			if !may[a][b] {
				continue
			}
			held++
			for c := range may {
				if may[b][c] && !may[a][c] {
					t.Errorf("%s %d, %d, %d: not transitive", what, a, b, c)
				}
			}
		}
	}
	if held < len(may)*3/2 || held > len(may)*len(may)*9/10 {
		t.Errorf("%s: %d of %d pairs", what, held, len(may)*len(may))
	}
}

func TestP9TypesOrder(t *testing.T) {
	list := relatedTypes(t)
	var may [][]bool
	for _, a := range list {
		var row []bool
		for _, b := range list {
			row = append(row, checkTypes(t, a, b))
		}
		may = append(may, row)
	}
	checkOrder(t, "type", may)
	for _, u := range someTypes(91, 300) {
		is(t, printed(u), all(impl.MayStand(u, roomy(u))), true)
	}
}

// widened makes up a type as which u can be used. It may have too many parts.
func widened(r *rand.Rand, u impl.Type) impl.Type {
	if isInteger(u.Kind) {
		var fit []int64
		for kind := int64(impl.TyU8); kind <= impl.TyS64; kind++ {
			if isNumber(kind, numberRanges[u.Kind][0]) && isNumber(kind, numberRanges[u.Kind][1]) {
				fit = append(fit, kind)
			}
		}
		return impl.Type{Kind: fit[r.Intn(len(fit))]}
	}
	if u.Kind >= impl.TyOwn {
		return u
	}
	order := r.Perm(max(len(u.Kids), len(u.Labels)))
	if len(u.Labels) == 0 {
		slices.Sort(order)
	}
	if u.Kind == impl.TyRecord {
		order = order[:1+r.Intn(len(order))]
	}
	w := impl.Type{Kind: u.Kind}
	for _, i := range order {
		if len(u.Labels) > 0 {
			w.Labels = append(w.Labels, u.Labels[i])
		}
		if len(u.Kids) > 0 {
			w.Kids = append(w.Kids, widened(r, u.Kids[i]))
		}
	}
	if n := len(w.Labels); n < 16 && u.Kind >= impl.TyVariant && u.Kind <= impl.TyFlags && r.Intn(2) == 0 {
		i := r.Intn(n + 1)
		w.Labels = slices.Insert(w.Labels, i, "more"+strconv.Itoa(n))
		if u.Kind == impl.TyVariant {
			w.Kids = slices.Insert(w.Kids, i, someType(r, 1, true))
		}
	}
	return w
}

// validWidened makes up a valid type as which u can be used.
func validWidened(r *rand.Rand, u impl.Type) impl.Type {
	for range 20 {
		w := widened(r, u)
		if _, ok := modelOfType(printed(w)); ok {
			return w
		}
	}
	return u
}

// varied returns a copy of u in which some parts are others. It may be invalid.
func varied(r *rand.Rand, u impl.Type) impl.Type {
	u = roomy(u)
	if len(u.Kids) > 0 && r.Intn(4) > 0 {
		i := r.Intn(len(u.Kids))
		u.Kids[i] = varied(r, u.Kids[i])
		return u
	}
	n := len(u.Labels)
	switch {
	case isInteger(u.Kind):
		u.Kind = impl.TyU8 + int64(r.Intn(7))
	case u.Kind == impl.TyOwn || u.Kind == impl.TyBorrow:
		u.Name = pick(r, []string{"file", "res", "a"})
		u.Kind = impl.TyOwn + int64(r.Intn(5)/4)
	case u.Kind == impl.TyTuple && r.Intn(2) == 0:
		u.Kids = append(u.Kids, impl.Type{Kind: impl.TyU8})
	case n > 1 && r.Intn(2) == 0:
		i := r.Intn(n)
		u.Labels = slices.Delete(u.Labels, i, i+1)
		if len(u.Kids) > 0 {
			u.Kids = slices.Delete(u.Kids, i, i+1)
		}
	case n > 0 && r.Intn(2) == 0:
		u.Labels[r.Intn(n)] = pick(r, []string{"other", "a", "b"})
	case n > 0 && r.Intn(2) == 0:
		u.Labels = append(u.Labels, "another")
		if len(u.Kids) > 0 {
			u.Kids = append(u.Kids, impl.Type{Kind: impl.TyU8})
		}
	case n > 0:
		i, j := r.Intn(n), r.Intn(n)
		u.Labels[i], u.Labels[j] = u.Labels[j], u.Labels[i]
	default:
		return someType(r, 1+r.Intn(2), false)
	}
	return u
}

// TestP9TypesModel makes up types that can be used as each other, and types that are not quite so.
func TestP9TypesModel(t *testing.T) {
	r := rand.New(rand.NewSource(92))
	met := map[int64]int{}
	for _, a := range someTypes(93, 1500) {
		b := validWidened(r, a)
		c := validWidened(r, b)
		is(t, printed(a)+", "+printed(b)+", "+printed(c), all(checkTypes(t, a, b), checkTypes(t, b, c), checkTypes(t, a, c)), true, true, true)
		checkTypes(t, b, a)
		for range 4 {
			other := varied(r, b)
			if r.Intn(2) == 0 {
				other = varied(r, other)
			}
			if _, ok := modelOfType(printed(other)); ok {
				checkTypes(t, a, other)
				checkTypes(t, other, a)
				reason, _ := impl.WhyNot(a, other)
				met[reason.Kind]++
			}
		}
	}
	for kind := int64(0); kind <= impl.RsResource; kind++ {
		if met[kind] < 20 {
			t.Errorf("reason %d: met %d times only", kind, met[kind])
		}
	}
}

func TestP9Funcs(t *testing.T) {
	for _, c := range []reasonCase{
		{"func()", "func()", 0, ""}, {"func(a:u16)->u8", "func(a:u8)->u16", 0, ""}, {"func(a:u8)", "func(a:u16)", impl.RsRange, "(a)"}, {"func(a:u8)", "func(b:u8)", impl.RsParam, "(b)"}, {"func(a:u8,b:u8)", "func(b:u8,a:u8)", impl.RsParam, "(b)"}, {"func(a:u8,b:u8)", "func(a:u8,c:u8)", impl.RsParam, "(c)"}, {"func()", "func(a:u8)", impl.RsParam, ""}, {"func(a:u8)", "func()", impl.RsParam, ""}, {"func(a:u8)->text", "func()->u8", impl.RsParam, ""}, {"func(a:u8)", "func(b:u16)", impl.RsParam, "(b)"},
		{"func(a:u8,b:text)", "func(a:text,c:u8)", impl.RsKind, "(a)"}, {"func(a:u8,b:text)", "func(a:u8,b:u8)", impl.RsKind, "(b)"}, {"func(a:record{x:u8})", "func(a:record{x:u8,y:u8})", 0, ""}, {"func(a:record{x:u8,y:u8})", "func(a:record{x:u8})", impl.RsLabel, "(a).y"}, {"func(a:variant{x})", "func(a:variant{x,y})", impl.RsCase, "(a).y"}, {"func(a:variant{x,y})", "func(a:variant{x})", 0, ""}, {"func(a:list<u8>)", "func(a:list<text>)", impl.RsKind, "(a)[]"}, {"func(a:own<r>)", "func(a:borrow<r>)", impl.RsKind, "(a)"}, {"func(a:own<r>)", "func(a:own<s>)", impl.RsResource, "(a)"},
		{"func()->u16", "func()->u8", impl.RsRange, "->"}, {"func()->u8", "func()", impl.RsKind, "->"}, {"func()", "func()->u8", impl.RsKind, "->"}, {"func()->result<u8,text>", "func()->result<u8,char>", impl.RsKind, "->.err"}, {"func()->record{x:u8,y:u8}", "func()->record{x:u8}", 0, ""}, {"func()->record{x:u8}", "func()->record{x:u8,y:u8}", impl.RsLabel, "->.y"}, {"func(a:u8)->text", "func(a:u8)->u8", impl.RsKind, "->"}, {"func(a:text)->text", "func(a:u8)->u8", impl.RsKind, "(a)"},
		{"async func()", "func()", impl.RsAsync, ""}, {"func()", "async func()", 0, ""}, {"async func()", "async func()", 0, ""}, {"async func()->u8", "func()->text", impl.RsKind, "->"}, {"async func(a:u8)", "func(a:u16)", impl.RsRange, "(a)"}, {"async func(a:u8)", "func()", impl.RsParam, ""}, {"async func(a:u8)->u8", "func(a:u8)->u8", impl.RsAsync, ""},
	} {
		a, _ := impl.ReadFunc(c.a)
		b, ok := impl.ReadFunc(c.b)
		r, no := impl.WhyNotFunc(a, b)
		is(t, c.a+" as "+c.b, all(ok, r == impl.Reason{Kind: c.kind, At: c.at}, no, impl.FuncServes(a, b)), true, true, c.kind != 0, c.kind == 0)
		checkReason(t, c.a+" as "+c.b, r, no, reasonsOfFunc(a, b, ""))
	}
}

// relatedFuncs are function types many of which can be called as each other.
func relatedFuncs() []impl.FuncType {
	var list []impl.FuncType
	for _, params := range []string{"", "a:u8", "a:u16", "b:u8", "a:u8,b:u8", "a:u16,b:s16", "a:record{x:u8}", "a:record{y:u8,x:u8}", "a:enum{x}", "a:enum{y,x}", "a:own<r>"} {
		for _, result := range []string{"", "->u8", "->u16", "->record{x:u8}", "->record{x:u8,y:u8}", "->enum{x}", "->enum{x,y}"} {
			for _, async := range []string{"", "async "} {
				f, ok := impl.ReadFunc(async + "func(" + params + ")" + result)
				if ok {
					list = append(list, f)
				}
			}
		}
	}
	return list
}

func TestP9FuncsOrder(t *testing.T) {
	list := relatedFuncs()
	for _, s := range goodFuncs {
		f, _ := impl.ReadFunc(s)
		list = append(list, f)
	}
	var may [][]bool
	for _, a := range list {
		var row []bool
		for _, b := range list {
			r, no := impl.WhyNotFunc(a, b)
			checkReason(t, printedFunc(a)+" as "+printedFunc(b), r, no, reasonsOfFunc(a, b, ""))
			row = append(row, impl.FuncServes(a, b))
			is(t, printedFunc(a)+" as "+printedFunc(b), all(impl.FuncServes(a, b)), !no)
		}
		may = append(may, row)
	}
	checkOrder(t, "function", may)
}

// widenedFunc makes up a valid function type as which f can be called.
func widenedFunc(r *rand.Rand, f impl.FuncType, list []impl.Type) (impl.FuncType, impl.FuncType) {
	narrow, wide := impl.FuncType{Async: r.Intn(2) == 0}, impl.FuncType{}
	wide.Async = narrow.Async || r.Intn(2) == 0
	for _, p := range f.Params {
		u := list[r.Intn(len(list))]
		narrow.Params = append(narrow.Params, impl.Param{Name: p.Name, Type: validWidened(r, u)})
		wide.Params = append(wide.Params, impl.Param{Name: p.Name, Type: u})
	}
	u := list[r.Intn(len(list))]
	narrow.Result, wide.Result = u, validWidened(r, u)
	return narrow, wide
}

func TestP9FuncsModel(t *testing.T) {
	r := rand.New(rand.NewSource(94))
	list := someTypes(95, 300)
	names := strings.Fields("a b c d e f")
	for range 1500 {
		shape := impl.FuncType{}
		for _, name := range names[:r.Intn(5)] {
			shape.Params = append(shape.Params, impl.Param{Name: name})
		}
		f, g := widenedFunc(r, shape, list)
		if !modelOfFunc(printedFunc(f)) || !modelOfFunc(printedFunc(g)) {
			continue
		}
		what := printedFunc(f) + " as " + printedFunc(g)
		is(t, what, all(impl.FuncServes(f, g), impl.FuncServes(f, f)), true, true)
		other := roomy(g)
		if n := len(other.Params); n > 0 && r.Intn(3) > 0 {
			i := r.Intn(n)
			other.Params[i].Type = varied(r, other.Params[i].Type)
			if r.Intn(4) == 0 {
				other.Params[i].Name = "z"
			}
			if r.Intn(6) == 0 {
				other.Params = other.Params[:i]
			}
		} else {
			other.Result = varied(r, other.Result)
		}
		if impl.FuncOk(other) {
			reason, no := impl.WhyNotFunc(f, other)
			checkReason(t, printedFunc(f)+" as "+printedFunc(other), reason, no, reasonsOfFunc(f, other, ""))
			reason, no = impl.WhyNotFunc(other, f)
			checkReason(t, printedFunc(other)+" as "+printedFunc(f), reason, no, reasonsOfFunc(other, f, ""))
		}
	}
}

// faceOf makes an interface of its version, its resources and its functions.
func faceOf(t *testing.T, version, resources string, funcs ...string) impl.Face {
	t.Helper()
	f := impl.Face{Package: "base", Name: "beds", Version: version, Resources: strings.Fields(resources)}
	for _, s := range funcs {
		name, text, _ := strings.Cut(s, ": ")
		u, ok := impl.ReadFunc(text)
		if !ok {
			t.Fatal(s)
		}
		f.Funcs = append(f.Funcs, impl.Func{Name: name, Type: u})
	}
	if !impl.FaceOk(f) {
		t.Fatal(faceText(f))
	}
	return f
}

// relatedFaces are interfaces many of which can be used where others are expected.
func relatedFaces(t *testing.T) []impl.Face {
	other, another := faceOf(t, "1.0.0", ""), faceOf(t, "1.0.0", "bed")
	other.Package, another.Name = "bases", "bed"
	list := []impl.Face{other, another}
	for _, version := range []string{"0.1.0", "0.1.1", "0.2.0", "1.0.0", "1.2.0", "2.0.0"} {
		for _, resources := range []string{"", "bed", "bed lab", "lab"} {
			for _, funcs := range []string{"", "f: func()", "f: func(a:u8)", "f: func(a:u16)", "f: func(a:u16); g: func()", "g: async func()"} {
				list = append(list, faceOf(t, version, resources, slices.DeleteFunc(strings.Split(funcs, "; "), func(s string) bool { return s == "" })...))
			}
		}
	}
	return list
}

func TestP9Faces(t *testing.T) {
	have := faceOf(t, "1.2.0", "bed lab", "f: func(a:u16)", "g: func()", "h: async func()->record{x:u8,y:text}")
	for i, c := range []struct {
		want   impl.Face
		reason impl.Reason
		serves bool
	}{
		{have, impl.Reason{}, true}, {faceOf(t, "1.0.0", ""), impl.Reason{}, true}, {faceOf(t, "1.2.0", "lab", "f: func(a:u8)", "h: async func()->record{y:text}"), impl.Reason{}, true}, {faceOf(t, "1.1.9", "bed", "g: async func()"), impl.Reason{}, true},
		{faceOf(t, "1.3.0", ""), impl.Reason{Kind: impl.RsVersion, At: "base/beds"}, true}, {faceOf(t, "2.0.0", ""), impl.Reason{Kind: impl.RsVersion, At: "base/beds"}, true}, {faceOf(t, "0.2.0", "bed"), impl.Reason{Kind: impl.RsVersion, At: "base/beds"}, true}, {faceOf(t, "1.3.0", "none"), impl.Reason{Kind: impl.RsVersion, At: "base/beds"}, false},
		{faceOf(t, "1.0.0", "bad"), impl.Reason{Kind: impl.RsResource, At: "base/beds.bad"}, false}, {faceOf(t, "1.0.0", "bed chair desk"), impl.Reason{Kind: impl.RsResource, At: "base/beds.chair"}, false}, {faceOf(t, "1.0.0", "bee", "a: func()"), impl.Reason{Kind: impl.RsResource, At: "base/beds.bee"}, false},
		{faceOf(t, "1.0.0", "bed", "a: func()"), impl.Reason{Kind: impl.RsFunc, At: "base/beds.a"}, false}, {faceOf(t, "1.0.0", "", "f: func(a:u8)", "i: func()"), impl.Reason{Kind: impl.RsFunc, At: "base/beds.i"}, false}, {faceOf(t, "1.0.0", "", "f: func(a:u32)", "i: func()"), impl.Reason{Kind: impl.RsRange, At: "base/beds.f(a)"}, false}, {faceOf(t, "1.0.0", "", "a: func()", "f: func(a:u32)"), impl.Reason{Kind: impl.RsFunc, At: "base/beds.a"}, false},
		{faceOf(t, "1.0.0", "", "f: func(b:u8)"), impl.Reason{Kind: impl.RsParam, At: "base/beds.f(b)"}, false}, {faceOf(t, "1.0.0", "", "f: func()"), impl.Reason{Kind: impl.RsParam, At: "base/beds.f"}, false}, {faceOf(t, "1.0.0", "", "h: func()->record{x:u8}"), impl.Reason{Kind: impl.RsAsync, At: "base/beds.h"}, false}, {faceOf(t, "1.0.0", "", "h: func()->record{z:u8}"), impl.Reason{Kind: impl.RsLabel, At: "base/beds.h->.z"}, false}, {faceOf(t, "1.0.0", "", "g: func()->u8"), impl.Reason{Kind: impl.RsKind, At: "base/beds.g->"}, false},
	} {
		r, no := impl.WhyNotFace(have, c.want)
		is(t, "face "+strconv.Itoa(i), all(r == c.reason, no, impl.FaceServes(have, c.want)), true, c.reason.Kind != 0, c.serves)
	}
	for _, do := range []func(f *impl.Face){func(f *impl.Face) { f.Package = "bases" }, func(f *impl.Face) { f.Name = "bed" }, func(f *impl.Face) { f.Package, f.Name = f.Name, f.Package }, func(f *impl.Face) { f.Name = "bed"; f.Version = "2.0.0"; f.Resources = []string{"none"} }} {
		want := faceOf(t, "1.0.0", "")
		do(&want)
		r, no := impl.WhyNotFace(have, want)
		is(t, want.Package+"/"+want.Name, all(r == impl.Reason{Kind: impl.RsFace, At: want.Package + "/" + want.Name}, no, impl.FaceServes(have, want)), true, true, false)
	}
}

func TestP9FacesOrder(t *testing.T) {
	list := relatedFaces(t)
	var may, serves [][]bool
	for _, a := range list {
		var row, served []bool
		for _, b := range list {
			r, no := impl.WhyNotFace(a, b)
			want := reasonsOfFace(a, b, "")
			checkReason(t, faceText(a)+" as "+faceText(b), r, no, want)
			others := slices.DeleteFunc(slices.Clone(want), func(r impl.Reason) bool { return r.Kind == impl.RsVersion })
			is(t, faceText(a)+" as "+faceText(b), all(impl.FaceServes(a, b)), len(others) == 0)
			row, served = append(row, !no), append(served, impl.FaceServes(a, b))
		}
		may, serves = append(may, row), append(serves, served)
	}
	checkOrder(t, "interface", may)
	checkOrder(t, "interface without version", serves)
}

func TestP9Worlds(t *testing.T) {
	bare := impl.World{Package: "a", Name: "v", Version: "1.0.0"}
	world := func(imports, exports []impl.Face) impl.World {
		return impl.World{Package: "a", Name: "w", Version: "1.0.0", Imports: imports, Exports: exports}
	}
	named := func(f impl.Face, name string) impl.Face {
		f.Name = name
		return f
	}
	old, new := faceOf(t, "1.0.0", "", "f: func(a:u8)"), faceOf(t, "1.2.0", "bed", "f: func(a:u16)", "g: func()")
	lab, next := named(old, "lab"), faceOf(t, "2.0.0", "", "f: func(a:u8)")
	faces := func(list ...impl.Face) []impl.Face { return list }
	for i, c := range []struct {
		have, want impl.World
		reason     impl.Reason
	}{
		{bare, bare, impl.Reason{}}, {world(faces(old, lab), faces(new)), world(faces(old, lab), faces(new)), impl.Reason{}}, {bare, world(faces(old, lab), nil), impl.Reason{}}, {world(nil, faces(old, lab)), bare, impl.Reason{}}, {world(faces(old), faces(new)), world(faces(new, lab), faces(old)), impl.Reason{}},
		{world(faces(old), nil), bare, impl.Reason{Kind: impl.RsFace, At: "import base/beds"}}, {world(faces(old, lab), nil), world(faces(old), nil), impl.Reason{Kind: impl.RsFace, At: "import base/lab"}}, {world(faces(old), nil), world(nil, faces(old)), impl.Reason{Kind: impl.RsFace, At: "import base/beds"}}, {bare, world(nil, faces(old)), impl.Reason{Kind: impl.RsFace, At: "export base/beds"}}, {world(nil, faces(lab)), world(nil, faces(old, lab)), impl.Reason{Kind: impl.RsFace, At: "export base/beds"}},
		{world(faces(new), nil), world(faces(old), nil), impl.Reason{Kind: impl.RsVersion, At: "import base/beds"}}, {world(nil, faces(old)), world(nil, faces(new)), impl.Reason{Kind: impl.RsVersion, At: "export base/beds"}}, {world(faces(next), nil), world(faces(old), nil), impl.Reason{Kind: impl.RsVersion, At: "import base/beds"}}, {world(nil, faces(next)), world(nil, faces(old)), impl.Reason{Kind: impl.RsVersion, At: "export base/beds"}},
		{world(faces(old), nil), world(faces(faceOf(t, "1.0.0", "", "f: func()")), nil), impl.Reason{Kind: impl.RsParam, At: "import base/beds.f"}}, {world(faces(old), nil), world(faces(faceOf(t, "1.0.0", "", "g: func()")), nil), impl.Reason{Kind: impl.RsFunc, At: "import base/beds.f"}}, {world(faces(faceOf(t, "1.0.0", "", "f: func(a:u16)")), nil), world(faces(old), nil), impl.Reason{Kind: impl.RsRange, At: "import base/beds.f(a)"}}, {world(nil, faces(old)), world(nil, faces(faceOf(t, "1.0.0", "bed"))), impl.Reason{Kind: impl.RsResource, At: "export base/beds.bed"}}, {world(nil, faces(old)), world(nil, faces(faceOf(t, "1.0.0", "", "f: func(a:u8)->u8"))), impl.Reason{Kind: impl.RsKind, At: "export base/beds.f->"}},
		{world(faces(old), faces(old)), world(faces(next), faces(lab)), impl.Reason{Kind: impl.RsVersion, At: "import base/beds"}}, {world(faces(old, lab), nil), world(faces(next), nil), impl.Reason{Kind: impl.RsVersion, At: "import base/beds"}}, {world(faces(named(next, "a"), named(next, "b")), nil), world(faces(named(old, "b")), nil), impl.Reason{Kind: impl.RsFace, At: "import base/a"}},
	} {
		r, no := impl.WhyNotWorld(c.have, c.want)
		is(t, "worlds "+strconv.Itoa(i), all(r == c.reason, no), true, c.reason.Kind != 0)
		checkReason(t, "worlds "+strconv.Itoa(i), r, no, reasonsOfWorld(c.have, c.want))
	}
}

func TestP9WorldsOrder(t *testing.T) {
	r := rand.New(rand.NewSource(96))
	list := relatedFaces(t)
	someFaces := func() []impl.Face {
		var found []impl.Face
		for _, name := range []string{"beds", "lab", "ward"} {
			if r.Intn(3) == 0 {
				f := list[r.Intn(len(list))]
				if r.Intn(2) == 0 {
					f = list[2+r.Intn(2)*18+r.Intn(6)]
				}
				f.Package, f.Name = "base", name
				found = append(found, f)
			}
		}
		return found
	}
	var worlds []impl.World
	for range 120 {
		worlds = append(worlds, impl.World{Package: pick(r, []string{"a", "b"}), Name: pick(r, []string{"v", "w"}), Version: pick(r, []string{"1.0.0", "2.0.0"}), Imports: someFaces(), Exports: someFaces()})
	}
	var may [][]bool
	for _, a := range worlds {
		var row []bool
		for _, b := range worlds {
			reason, no := impl.WhyNotWorld(a, b)
			checkReason(t, impl.WorldText(a)+" as "+impl.WorldText(b), reason, no, reasonsOfWorld(a, b))
			row = append(row, !no)
		}
		may = append(may, row)
	}
	checkOrder(t, "world", may)
}

// TestP9Invalid gives all functions invalid arguments on one side and on both.
func TestP9Invalid(t *testing.T) {
	u8, unit := impl.Type{Kind: impl.TyU8}, impl.Type{Kind: impl.TyUnit}
	v := impl.Value{Kind: impl.TyU8}
	bad := []impl.Type{{}, {Kind: -1}, {Kind: 24}, {Kind: 30, Name: "a"}, {Kind: impl.TyU8, Name: "a"}, {Kind: impl.TyU8, Labels: []string{"a"}}, {Kind: impl.TyU8, Kids: []impl.Type{u8}}, {Kind: impl.TyList}, {Kind: impl.TyList, Kids: []impl.Type{unit}}, {Kind: impl.TyOwn}, {Kind: impl.TyTuple}, {Kind: impl.TyEnum, Labels: []string{"a", "a"}}, {Kind: impl.TyRecord, Labels: []string{"a"}}, {Kind: impl.TyVariant, Kids: []impl.Type{u8}}, {Kind: impl.TyStream, Kids: []impl.Type{{Kind: impl.TyBorrow, Name: "r"}}}, nested(impl.TyList, 5, u8)}
	_, beyond := limitTypes()
	for i, u := range slices.Concat(bad, beyond, deepTypes()) {
		what := "bad type " + strconv.Itoa(i)
		for _, pair := range [][2]impl.Type{{u, u}, {u, u8}, {u8, u}, {u, unit}} {
			r, no := impl.WhyNot(pair[0], pair[1])
			w, code := impl.TakeAs(v, pair[0], pair[1])
			is(t, what, all(r == impl.Reason{}, no, impl.MayStand(pair[0], pair[1]), alike(w, impl.Value{}), code), true, false, false, true, impl.ErrForm)
			w, code = impl.TakeAs(impl.Value{Kind: 99}, pair[0], pair[1])
			is(t, what, all(alike(w, impl.Value{}), code), true, impl.ErrForm)
		}
		good := impl.FuncType{Result: unit}
		for _, f := range []impl.FuncType{{Result: u}, {Result: unit, Params: []impl.Param{{Name: "a", Type: u}}}, {Result: u, Async: true}} {
			checkBadFuncs(t, what, f, good)
		}
	}
	good := impl.FuncType{Result: unit}
	for _, f := range []impl.FuncType{{}, {Result: unit, Params: []impl.Param{{Name: "a", Type: unit}}}, {Result: unit, Params: []impl.Param{{Name: "a", Type: u8}, {Name: "a", Type: u8}}}, {Result: unit, Params: []impl.Param{{Name: "A", Type: u8}}}, {Result: impl.Type{Kind: impl.TyBorrow, Name: "r"}}, {Result: unit, Params: make([]impl.Param, 7)}} {
		checkBadFuncs(t, "a bad function", f, good)
	}
	for _, do := range []func(f *impl.Face){func(f *impl.Face) { f.Package = "" }, func(f *impl.Face) { f.Name = "A" }, func(f *impl.Face) { f.Version = "1" }, func(f *impl.Face) { f.Resources = []string{"b", "a"} }, func(f *impl.Face) { f.Resources = []string{"a", "a"} }, func(f *impl.Face) { f.Funcs = manyFuncs(9) }, func(f *impl.Face) { f.Funcs = []impl.Func{{Name: "f"}} }, func(f *impl.Face) { f.Funcs[0].Type.Result = impl.Type{Kind: impl.TyOwn, Name: "none"} }} {
		face := roomy(calc(t))
		do(&face)
		checkBadFaces(t, "a bad interface", face, calc(t))
	}
	fine := someWorld(t)
	for _, do := range []func(w *impl.World){func(w *impl.World) { w.Package = "" }, func(w *impl.World) { w.Name = "-" }, func(w *impl.World) { w.Version = "1.0" }, func(w *impl.World) { w.Imports = append(w.Imports, w.Imports[0]) }, func(w *impl.World) { w.Exports = make([]impl.Face, 7) }, func(w *impl.World) { w.Exports[0].Version = "" }} {
		w := roomy(fine)
		do(&w)
		for _, pair := range [][2]impl.World{{w, w}, {w, fine}, {fine, w}, {w, {Package: "a", Name: "b", Version: "1.0.0"}}, {{Package: "a", Name: "b", Version: "1.0.0"}, w}} {
			r, no := impl.WhyNotWorld(pair[0], pair[1])
			is(t, "a bad world", all(r == impl.Reason{}, no), true, false)
		}
	}
}

// checkBadFuncs checks that everything says that f is invalid.
func checkBadFuncs(t *testing.T, what string, f, good impl.FuncType) {
	t.Helper()
	for _, pair := range [][2]impl.FuncType{{f, f}, {f, good}, {good, f}} {
		r, no := impl.WhyNotFunc(pair[0], pair[1])
		is(t, what, all(r == impl.Reason{}, no, impl.FuncServes(pair[0], pair[1])), true, false, false)
	}
	bare := impl.Face{Package: "a", Name: "b", Version: "1.0.0"}
	bad := bare
	bad.Funcs = []impl.Func{{Name: "f", Type: f}}
	checkBadFaces(t, what, bad, bare)
}

// checkBadFaces checks that everything says that f is invalid.
func checkBadFaces(t *testing.T, what string, f, good impl.Face) {
	t.Helper()
	for _, pair := range [][2]impl.Face{{f, f}, {f, good}, {good, f}} {
		r, no := impl.WhyNotFace(pair[0], pair[1])
		is(t, what, all(r == impl.Reason{}, no, impl.FaceServes(pair[0], pair[1])), true, false, false)
		worlds := [2]impl.World{}
		for i := range worlds {
			worlds[i] = impl.World{Package: "a", Name: "b", Version: "1.0.0", Exports: []impl.Face{pair[i]}}
		}
		r, no = impl.WhyNotWorld(worlds[0], worlds[1])
		is(t, what, all(r == impl.Reason{}, no), true, false)
	}
}

// meaning says what a value of type u means as one of type b: by labels, whatever their order is, and without the sizes of
// integers.
func meaning(v impl.Value, u, b impl.Type) string {
	var list []string
	switch u.Kind {
	case impl.TyRecord:
		for i, label := range b.Labels {
			j := slices.Index(u.Labels, label)
			list = append(list, label+"="+meaning(v.Kids[j], u.Kids[j], b.Kids[i]))
		}
	case impl.TyVariant, impl.TyEnum:
		label := u.Labels[v.Num]
		if len(v.Kids) > 0 {
			label += meaning(v.Kids[0], u.Kids[v.Num], b.Kids[slices.Index(b.Labels, label)])
		}
		return label
	case impl.TyFlags:
		for i, label := range u.Labels {
			if v.Num/int64(math.Pow(2, float64(i)))%2 == 1 {
				list = append(list, label)
			}
		}
	default:
		list = append(list, strconv.FormatInt(v.Num, 10), strconv.Quote(v.Text))
		for i, kid := range v.Kids {
			switch u.Kind {
			case impl.TyTuple:
				list = append(list, meaning(kid, u.Kids[i], b.Kids[i]))
			case impl.TyResult:
				list = append(list, meaning(kid, u.Kids[v.Num], b.Kids[v.Num]))
			default:
				list = append(list, meaning(kid, u.Kids[0], b.Kids[0]))
			}
		}
		return "(" + strings.Join(list, " ") + ")"
	}
	slices.Sort(list)
	return "{" + strings.Join(list, " ") + "}"
}

func TestP10TakeAs(t *testing.T) {
	for _, c := range []struct{ value, a, b, want string }{
		{"{a: 9, b: y(7), c: {p, q}}", "record{a:u8,b:variant{x,y:u8},c:flags{p,q}}", "record{c:flags{o,q,p},b:variant{z,y:u16,x}}", "{c: {q, p}, b: y(7)}"},
		{"()", "unit", "unit", "()"}, {"true", "bool", "bool", "true"}, {"255", "u8", "s16", "255"}, {"-128", "s8", "s64", "-128"}, {"4294967295", "u32", "s64", "4294967295"}, {"7", "u8", "u8", "7"}, {`'\u{e9}'`, "char", "char", `'\u{e9}'`}, {`"a"`, "text", "text", `"a"`},
		{"[]", "list<u8>", "list<u16>", "[]"}, {"[1, 2, 3]", "list<u8>", "list<s32>", "[1, 2, 3]"}, {"none", "option<u8>", "option<u16>", "none"}, {"some(3)", "option<u8>", "option<u16>", "some(3)"}, {"ok(1)", "result<u8,s8>", "result<u16,s16>", "ok(1)"}, {"err(-1)", "result<u8,s8>", "result<u16,s16>", "err(-1)"}, {"ok", "result<unit,s8>", "result<unit,s16>", "ok"}, {"err", "result<u8,unit>", "result<u16,unit>", "err"}, {"(1, [2], 'a')", "tuple<u8,list<u8>,char>", "tuple<u16,list<u32>,char>", "(1, [2], 'a')"},
		{"{a: 1, b: 2, c: 3}", "record{a:u8,b:u8,c:u8}", "record{c:u16,a:u32}", "{c: 3, a: 1}"}, {"{a: 1, b: 2}", "record{a:u8,b:u8}", "record{b:u8,a:u8}", "{b: 2, a: 1}"}, {"{a: {b: 1, c: 2}, d: 3}", "record{a:record{b:u8,c:u8},d:u8}", "record{a:record{c:u8}}", "{a: {c: 2}}"}, {"[{a: 1, b: 2}, {a: 3, b: 4}]", "list<record{a:u8,b:u8}>", "list<record{b:u16}>", "[{b: 2}, {b: 4}]"},
		{"a", "variant{a,b:u8}", "variant{b:u8,c,a}", "a"}, {"b(9)", "variant{a,b:u8}", "variant{b:u16,c,a}", "b(9)"}, {"a(b)", "variant{a:variant{b}}", "variant{c,a:variant{a,b}}", "a(b)"}, {"b", "enum{a,b}", "enum{x,b,y,a}", "b"}, {"a", "enum{a,b}", "enum{x,b,y,a}", "a"}, {"{}", "flags{a,b}", "flags{c,b,a}", "{}"}, {"{b}", "flags{a,b}", "flags{c,b,a}", "{b}"}, {"{a, b}", "flags{a,b}", "flags{c,b,a}", "{b, a}"}, {"{" + strings.ReplaceAll(sixteen, ",", ", ") + "}", "flags{" + sixteen + "}", "flags{p,b,c,d,e,f,g,h,i,j,k,l,m,n,o,a}", "{p, b, c, d, e, f, g, h, i, j, k, l, m, n, o, a}"},
		{"own#3", "own<r>", "own<r>", "own#3"}, {"borrow#2147483647", "borrow<r>", "borrow<r>", "borrow#2147483647"}, {"stream#5", "stream<u8>", "stream<u8>", "stream#5"}, {"future#0", "future<unit>", "future<unit>", "future#0"}, {"{h: [own#1, own#2], s: stream#3}", "record{s:stream<own<r>>,h:list<own<r>>}", "record{h:list<own<r>>,s:stream<own<r>>}", ""},
	} {
		a, b := typed(t, c.a), typed(t, c.b)
		if c.want == "" {
			c.value, c.want = "{s: stream#3, h: [own#1, own#2]}", c.value
		}
		v, code := impl.ReadValue(c.value, a)
		is(t, c.value, all(code), impl.OK)
		w, code := impl.TakeAs(v, a, b)
		is(t, c.value+" as "+c.b, all(code, impl.ValueText(w, b), impl.Fits(w, b), meaning(w, b, b)), impl.OK, c.want, true, meaning(v, a, b))
	}
	v := impl.Value{Kind: impl.TyRecord, Kids: []impl.Value{{Kind: impl.TyU8, Num: 9}, {Kind: impl.TyVariant, Num: 1, Kids: []impl.Value{{Kind: impl.TyU8, Num: 7}}}, {Kind: impl.TyFlags, Num: 3}}}
	want := impl.Value{Kind: impl.TyRecord, Kids: []impl.Value{{Kind: impl.TyFlags, Num: 6}, {Kind: impl.TyVariant, Num: 1, Kids: []impl.Value{{Kind: impl.TyU16, Num: 7}}}}}
	w, code := impl.TakeAs(v, typed(t, "record{a:u8,b:variant{x,y:u8},c:flags{p,q}}"), typed(t, "record{c:flags{o,q,p},b:variant{z,y:u16,x}}"))
	is(t, "the example", all(alike(w, want), code), true, impl.OK)
}

func TestP10TakeAsErrors(t *testing.T) {
	for _, c := range typeReasons {
		a, b := typed(t, c.a), typed(t, c.b)
		v := impl.DefaultOf(a)
		w, code := impl.TakeAs(v, a, b)
		if c.kind == 0 {
			is(t, c.a+" as "+c.b, all(code, impl.Fits(w, b)), impl.OK, true)
		} else {
			is(t, c.a+" as "+c.b, all(code, alike(w, impl.Value{})), impl.ErrType, true)
		}
		// The value must fit the first type, even if it fits the second one.
		if !impl.SameType(a, b) && c.kind == 0 && a.Kind != b.Kind {
			w, code = impl.TakeAs(impl.DefaultOf(b), a, b)
			is(t, c.b+" for "+c.a, all(code, alike(w, impl.Value{})), impl.ErrType, true)
		}
	}
	u8, u16 := typed(t, "u8"), typed(t, "u16")
	for _, v := range []impl.Value{{}, {Kind: impl.TyU16, Num: 1}, {Kind: impl.TyU8, Num: 256}, {Kind: impl.TyU8, Num: -1}, {Kind: impl.TyU8, Text: "a"}, {Kind: impl.TyU8, Kids: []impl.Value{{}}}, {Kind: 99}, deepValue(impl.TyList, 10000, impl.Value{Kind: impl.TyU8}), deepValue(impl.TyU8, 1000000, impl.Value{})} {
		for _, to := range []impl.Type{u8, u16, {Kind: impl.TyText}} {
			w, code := impl.TakeAs(v, u8, to)
			is(t, "a value that does not fit", all(code, alike(w, impl.Value{})), impl.ErrType, true)
		}
		w, code := impl.TakeAs(v, u8, impl.Type{})
		is(t, "an invalid type", all(code, alike(w, impl.Value{})), impl.ErrForm, true)
	}
	v := impl.Value{Kind: impl.TyU8, Num: 1}
	for _, pair := range [][2]impl.Type{{u16, u8}, {u16, u16}, {u8, typed(t, "s8")}, {u8, typed(t, "bool")}, {u8, typed(t, "list<u8>")}} {
		w, code := impl.TakeAs(v, pair[0], pair[1])
		is(t, printed(pair[0])+" as "+printed(pair[1]), all(code, alike(w, impl.Value{})), impl.ErrType, true)
	}
	w, code := impl.TakeAs(v, u8, u8)
	is(t, "a value of the same type", all(code, alike(w, v)), impl.OK, true)
}

// TestP10Compose converts values to a wider type and to one that is wider still, and at once.
func TestP10Compose(t *testing.T) {
	r := rand.New(rand.NewSource(101))
	changed := 0
	for _, a := range someTypes(102, 1500) {
		b := validWidened(r, a)
		c := validWidened(r, b)
		for range 4 {
			v, text := someValue(r, a)
			one, oneCode := impl.TakeAs(v, a, b)
			two, twoCode := impl.TakeAs(one, b, c)
			once, onceCode := impl.TakeAs(v, a, c)
			what := text + " as " + printed(b) + " as " + printed(c)
			is(t, what, all(oneCode, twoCode, onceCode, impl.Fits(one, b), impl.Fits(two, c), fitsModel(one, b), alike(two, once)), impl.OK, impl.OK, impl.OK, true, true, true, true)
			is(t, what, all(meaning(one, b, b), meaning(once, c, c)), meaning(v, a, b), meaning(v, a, c))
			same, code := impl.TakeAs(v, a, a)
			is(t, what, all(alike(same, v), code), true, impl.OK)
			if !alike(one, v) {
				changed++
			}
		}
	}
	is(t, "values have changed", all(changed > 500), true)
}

// subtypeCase is what the functions of chapter 8 are called with.
type subtypeCase struct {
	Value        impl.Value
	A, B         impl.Type
	F, G         impl.FuncType
	Have, Want   impl.Face
	Older, Newer impl.World
}

func TestP1Subtype(t *testing.T) {
	r := rand.New(rand.NewSource(82))
	call := func(c subtypeCase) []any {
		typeReason, typeNo := impl.WhyNot(c.A, c.B)
		funcReason, funcNo := impl.WhyNotFunc(c.F, c.G)
		faceReason, faceNo := impl.WhyNotFace(c.Have, c.Want)
		worldReason, worldNo := impl.WhyNotWorld(c.Older, c.Newer)
		v, code := impl.TakeAs(c.Value, c.A, c.B)
		w, sameCode := impl.TakeAs(c.Value, c.A, c.A)
		return all(typeReason, typeNo, funcReason, funcNo, faceReason, faceNo, worldReason, worldNo, v, code, w, sameCode, impl.MayStand(c.A, c.B), impl.FuncServes(c.F, c.G), impl.FaceServes(c.Have, c.Want), impl.ReasonText(typeReason))
	}
	var funcs []impl.FuncType
	for _, s := range goodFuncs {
		f, _ := impl.ReadFunc(s)
		funcs = append(funcs, f)
	}
	faces, types := relatedFaces(t), someTypes(83, 300)
	for _, a := range types {
		b := validWidened(r, a)
		if r.Intn(4) == 0 {
			b = varied(r, b)
		}
		v, _ := someValue(r, a)
		if r.Intn(4) == 0 {
			breakValue(r, &v)
		}
		have, want := faces[r.Intn(len(faces))], faces[r.Intn(len(faces))]
		older := impl.World{Package: "a", Name: "b", Version: "1.0.0", Imports: []impl.Face{have}, Exports: []impl.Face{want}}
		newer := impl.World{Package: "a", Name: "b", Version: "1.0.0", Imports: []impl.Face{want}, Exports: []impl.Face{have}}
		pure(t, printed(a), subtypeCase{v, a, b, funcs[r.Intn(len(funcs))], funcs[r.Intn(len(funcs))], have, want, older, newer}, call)
	}
	pure(t, "nothing valid", subtypeCase{}, call)
	pure(t, "nothing valid", subtypeCase{Value: impl.Value{Kids: []impl.Value{{}}}, A: impl.Type{Kind: 99, Kids: []impl.Type{{}}}, F: impl.FuncType{Params: []impl.Param{{}}}, Have: impl.Face{Funcs: []impl.Func{{}}}, Older: impl.World{Imports: []impl.Face{{}}}}, call)
}
