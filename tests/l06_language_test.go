package tests

import (
	"math"
	"math/rand"
	"slices"
	"strconv"
	"strings"
	"testing"

	"loop.example/g00901/impl"
)

// wardSource is the package of chapter 6, in its canonical form.
const wardSource = "package ward@1.2.0;\n\ninterface beds {\n  resource bed;\n  type spot = record { id: u32, name: text };\n  use base/types@1.0.0.{color as hue, size};\n  take: func(id: u32, how: hue) -> own<bed>;\n  watch: async func();\n}\n\nworld main {\n  import beds;\n  include base/common;\n}\n"

// The model of the grammar: a rule returns where it can end if it starts at a token. The first token with which no source
// starts is the last one that any rule has turned down, since no rule looks at a token before all those in front of it fit.
type (
	rule  func(m *model, at int) []int
	model struct {
		tokens []impl.Token
		far    int
	}
)

func accept(allowed func(token impl.Token) bool) rule {
	return func(m *model, at int) []int {
		if allowed(m.tokens[at]) {
			return []int{at + 1}
		}
		m.far = max(m.far, at)
		return nil
	}
}

// text accepts a sequence of words and signs.
func text(tokens string) rule {
	var list []rule
	for _, s := range strings.Fields(tokens) {
		list = append(list, accept(func(token impl.Token) bool { return token.Text == s && token.Kind != impl.TkEnd }))
	}
	return sequence(list...)
}

func sequence(list ...rule) rule {
	return func(m *model, at int) []int {
		ends := []int{at}
		for _, r := range list {
			var next []int
			for _, end := range ends {
				next = append(next, r(m, end)...)
			}
			slices.Sort(next)
			ends = slices.Compact(next)
		}
		return ends
	}
}

func choice(list ...rule) rule {
	return func(m *model, at int) []int {
		var ends []int
		for _, r := range list {
			ends = append(ends, r(m, at)...)
		}
		slices.Sort(ends)
		return slices.Compact(ends)
	}
}

// repeat accepts up to most repetitions of r.
func repeat(most int, r rule) rule {
	return func(m *model, at int) []int {
		all, ends := []int{at}, []int{at}
		for range most {
			var next []int
			for _, end := range ends {
				next = append(next, r(m, end)...)
			}
			all, ends = append(all, next...), next
		}
		slices.Sort(all)
		return slices.Compact(all)
	}
}

func optional(list ...rule) rule {
	return repeat(1, sequence(list...))
}

func series(most int, r rule) rule {
	return sequence(r, repeat(most-1, sequence(text(","), r)))
}

var (
	name    = accept(func(token impl.Token) bool { return token.Kind == impl.TkWord && isName(token.Text) })
	ident   = accept(func(token impl.Token) bool { return token.Kind == impl.TkWord && isIdent(token.Text) })
	release = accept(func(token impl.Token) bool {
		_, ok := modelOf(token.Text)
		return token.Kind == impl.TkNumber && ok
	})
	final = accept(func(token impl.Token) bool { return token.Kind == impl.TkEnd })
	path  = sequence(name, optional(text("/"), name, optional(text("@"), release)))
)

func isIdent(s string) bool {
	return isName(s) && !slices.Contains(kindWords, s)
}

// typeRule is the rule of a type at a nesting level. The levels beyond the limit have no first token.
func typeRule(level int) rule {
	if level > 4 {
		return accept(func(impl.Token) bool { return false })
	}
	return func(m *model, at int) []int {
		inner := typeRule(level + 1)
		var plain []rule
		for _, word := range kindWords[:11] {
			plain = append(plain, text(word))
		}
		return choice(
			choice(plain...),
			sequence(choice(text("list"), text("option"), text("stream"), text("future")), text("<"), inner, text(">")),
			sequence(text("result"), optional(text("<"), choice(text("_"), inner), optional(text(","), inner), text(">"))),
			sequence(text("tuple <"), series(6, inner), text(">")),
			sequence(choice(text("own"), text("borrow")), text("<"), ident, text(">")),
			sequence(text("record {"), series(16, sequence(name, text(":"), inner)), text("}")),
			sequence(text("variant {"), series(16, sequence(name, optional(text("("), inner, text(")")))), text("}")),
			sequence(choice(text("enum"), text("flags")), text("{"), series(16, name), text("}")),
			ident,
		)(m, at)
	}
}

var (
	function = sequence(optional(text("async")), text("func ("), optional(series(6, sequence(name, text(":"), typeRule(1)))), text(")"), optional(text("->"), typeRule(1)))
	item     = choice(
		sequence(name, text(":"), function),
		sequence(text("resource"), ident),
		sequence(text("type"), ident, text("="), typeRule(1)),
		sequence(text("use"), path, text(". {"), series(16, sequence(ident, optional(text("as"), ident))), text("}")),
	)
	face  = sequence(text("interface"), name, text("{"), repeat(16, sequence(item, text(";"))), text("}"))
	world = sequence(text("world"), name, text("{"), repeat(16, sequence(choice(text("import"), text("export"), text("include")), path, text(";"))), text("}"))
)

// packageRule is the rule of what may follow in a package that has some interfaces and worlds.
func packageRule(faces, worlds int) rule {
	return func(m *model, at int) []int {
		ends := []int{at}
		if faces < 8 {
			ends = append(ends, sequence(face, packageRule(faces+1, worlds))(m, at)...)
		}
		if worlds < 8 {
			ends = append(ends, sequence(world, packageRule(faces, worlds+1))(m, at)...)
		}
		slices.Sort(ends)
		return slices.Compact(ends)
	}
}

var wholePackage = sequence(text("package"), name, text("@"), release, text(";"), packageRule(0, 0))

// modelOfSource returns the line and the code of a source that must follow a rule.
func modelOfSource(s string, r rule) (int64, int64) {
	tokens, line, code := modelOfTokens(s)
	if code != impl.OK {
		return line, code
	}
	m := &model{tokens: tokens}
	if len(sequence(r, final)(m, 0)) == 0 {
		return tokens[m.far].Line, impl.ErrParse
	}
	return 0, impl.OK
}

// The printer of the model: sources in the canonical form.

func termSource(x impl.Term) string {
	if x.Kind == impl.TeName {
		return x.Name
	}
	word := kindWords[x.Kind-1]
	var kids, labels []string
	for _, kid := range x.Kids {
		kids = append(kids, termSource(kid))
	}
	switch x.Kind {
	case impl.TyResult:
		switch {
		case kids[0] == "unit" && kids[1] == "unit":
			return "result"
		case kids[1] == "unit":
			return "result<" + kids[0] + ">"
		case kids[0] == "unit":
			return "result<_, " + kids[1] + ">"
		}
	case impl.TyOwn, impl.TyBorrow:
		return word + "<" + x.Name + ">"
	case impl.TyRecord, impl.TyVariant, impl.TyEnum, impl.TyFlags:
		for i, label := range x.Labels {
			if x.Kind == impl.TyRecord {
				label += ": " + kids[i]
			} else if x.Kind == impl.TyVariant && kids[i] != "unit" {
				label += "(" + kids[i] + ")"
			}
			labels = append(labels, label)
		}
		return word + " { " + strings.Join(labels, ", ") + " }"
	}
	if len(kids) > 0 {
		word += "<" + strings.Join(kids, ", ") + ">"
	}
	return word
}

func pathSource(x impl.Path) string {
	s := x.Name
	if x.Package != "" {
		s = x.Package + "/" + s
	}
	if x.Version != "" {
		s += "@" + x.Version
	}
	return s
}

func itemSource(x impl.Item) string {
	var list []string
	switch x.Kind {
	case impl.ItResource:
		return "resource " + x.Name
	case impl.ItType:
		return "type " + x.Name + " = " + termSource(x.Term)
	case impl.ItUse:
		for _, u := range x.Uses {
			list = append(list, strings.TrimSuffix(u.Name+" as "+u.As, " as "))
		}
		return "use " + pathSource(x.From) + ".{" + strings.Join(list, ", ") + "}"
	}
	for _, p := range x.Params {
		list = append(list, p.Name+": "+termSource(p.Term))
	}
	s := "func(" + strings.Join(list, ", ") + ")"
	if x.Async {
		s = "async " + s
	}
	return x.Name + ": " + strings.TrimSuffix(s+" -> "+termSource(x.Term), " -> unit")
}

func packageSource(x impl.Package) string {
	s := "package " + x.Name + "@" + x.Version + ";\n"
	for _, f := range x.Faces {
		s += "\ninterface " + f.Name + " {\n"
		for _, i := range f.Items {
			s += "  " + itemSource(i) + ";\n"
		}
		s += "}\n"
	}
	for _, w := range x.Worlds {
		s += "\nworld " + w.Name + " {\n"
		for _, i := range w.Items {
			s += "  " + []string{"", "import", "export", "include"}[i.Kind] + " " + pathSource(i.Path) + ";\n"
		}
		s += "}\n"
	}
	return s
}

// constraint reports whether a package meets the static constraint on names.
func constraint(x impl.Package) bool {
	var faces, worlds []string
	for _, f := range x.Faces {
		var funcs, types []string
		for _, i := range f.Items {
			switch {
			case i.Kind == impl.ItFunc:
				funcs = append(funcs, i.Name)
			case i.Kind != impl.ItUse:
				types = append(types, i.Name)
			}
			for _, u := range i.Uses {
				types = append(types, append(strings.Fields(u.As), u.Name)[0])
			}
		}
		if !areNames(funcs) || !areNames(types) {
			return false
		}
		faces = append(faces, f.Name)
	}
	for _, w := range x.Worlds {
		worlds = append(worlds, w.Name)
	}
	return areNames(faces) && areNames(worlds)
}

// The makers of syntax trees.

var (
	someNames  = strings.Fields("a b c-1 bed size hue as use type resource func async import export include interface world package unit list own result u8 twelve-bytes z9 y x")
	someIdents = strings.Fields("a b c-1 bed size hue as use type resource func async import export include interface world package twelve-bytes z9 y x")
)

func pick(r *rand.Rand, list []string) string {
	return list[r.Intn(len(list))]
}

// someTerm makes up a term of at most deep levels.
func someTerm(r *rand.Rand, deep int) impl.Term {
	x := impl.Term{Kind: int64(r.Intn(24) + 1)}
	if deep == 1 && x.Kind >= impl.TyList && x.Kind <= impl.TyRecord && x.Kind != impl.TyResult || deep == 1 && x.Kind >= impl.TyStream {
		x.Kind = impl.TyU8
	}
	kids := 0
	switch x.Kind {
	case impl.TyList, impl.TyOption, impl.TyStream, impl.TyFuture:
		kids = 1
	case impl.TyResult:
		kids = 2
	case impl.TyTuple:
		kids = 1 + r.Intn(6)
	case impl.TyRecord, impl.TyVariant, impl.TyEnum, impl.TyFlags:
		for range 1 + r.Intn(5) {
			x.Labels = append(x.Labels, pick(r, someNames))
		}
		if x.Kind <= impl.TyVariant {
			kids = len(x.Labels)
		}
	case impl.TyOwn, impl.TyBorrow:
		x.Name = pick(r, someIdents)
	case 24:
		x = impl.Term{Kind: impl.TeName, Name: pick(r, someIdents)}
	}
	for range kids {
		mayLack := x.Kind == impl.TyResult || x.Kind == impl.TyVariant
		if mayLack && (deep == 1 || r.Intn(3) == 0) {
			x.Kids = append(x.Kids, impl.Term{Kind: impl.TyUnit})
		} else {
			x.Kids = append(x.Kids, someTerm(r, deep-1))
		}
	}
	return x
}

func somePath(r *rand.Rand) impl.Path {
	x := impl.Path{Name: pick(r, someNames)}
	if r.Intn(2) == 0 {
		x.Package = pick(r, someNames)
		if r.Intn(2) == 0 {
			x.Version = pick(r, []string{"0.0.0", "1.2.3", "999.0.999"})
		}
	}
	return x
}

func someItem(r *rand.Rand) impl.Item {
	switch kind := int64(r.Intn(4) + 1); kind {
	case impl.ItResource:
		return impl.Item{Kind: kind, Name: pick(r, someIdents)}
	case impl.ItType:
		return impl.Item{Kind: kind, Name: pick(r, someIdents), Term: someTerm(r, 4)}
	case impl.ItUse:
		x := impl.Item{Kind: kind, From: somePath(r)}
		for range 1 + r.Intn(3) {
			x.Uses = append(x.Uses, impl.UseName{Name: pick(r, someIdents), As: pick(r, append([]string{"", "", ""}, someIdents[:5]...))})
		}
		return x
	}
	x := impl.Item{Kind: impl.ItFunc, Name: pick(r, someNames), Async: r.Intn(2) == 0, Term: someTerm(r, 1+r.Intn(4))}
	for range r.Intn(4) {
		x.Params = append(x.Params, impl.TermParam{Name: pick(r, someNames), Term: someTerm(r, 1+r.Intn(4))})
	}
	return x
}

// somePackage makes up a package, which may violate the static constraint.
func somePackage(r *rand.Rand) impl.Package {
	x := impl.Package{Name: pick(r, someNames), Version: "1.20.300"}
	for range r.Intn(4) {
		f := impl.FaceDecl{Name: pick(r, someNames)}
		for range r.Intn(5) {
			f.Items = append(f.Items, someItem(r))
		}
		x.Faces = append(x.Faces, f)
	}
	for range r.Intn(3) {
		w := impl.WorldDecl{Name: pick(r, someNames)}
		for range r.Intn(4) {
			w.Items = append(w.Items, impl.WorldItem{Kind: int64(r.Intn(3) + 1), Path: somePath(r)})
		}
		x.Worlds = append(x.Worlds, w)
	}
	return x
}

// scattered returns the tokens of a source with other white space and comments around them.
func scattered(r *rand.Rand, s string) string {
	tokens, _, _ := modelOfTokens(s)
	text := ""
	for i, token := range tokens {
		gap := []string{" ", "\n", "  \n ", "// a } ; b\n", " //\n//\u00e9\t\r\n", "\n\n"}[r.Intn(6)]
		if i > 0 && r.Intn(3) == 0 && (tokens[i-1].Kind == impl.TkSign || token.Kind == impl.TkSign) {
			gap = ""
		}
		if i > 0 && tokens[i-1].Text == "/" {
			gap = " "
		}
		text += gap + token.Text
	}
	return text + []string{"", "// the end", " // the end\n"}[r.Intn(3)]
}

// checkTerm checks that x is valid and that its canonical source form is s.
func checkTerm(t *testing.T, x impl.Term, s string) {
	t.Helper()
	found, code := impl.ReadTerm(s)
	is(t, s, all(impl.TermOk(x), impl.TermText(x), impl.SameTerm(x, roomy(x)), code, alike(found, x)), true, s, true, impl.OK, true)
}

// checkNoTerm checks that everything says that x is invalid.
func checkNoTerm(t *testing.T, what string, x impl.Term) {
	t.Helper()
	u8 := impl.Term{Kind: impl.TyU8}
	zero(t, what, impl.TermOk(x), impl.TermText(x), impl.SameTerm(x, x), impl.SameTerm(x, u8), impl.SameTerm(u8, x))
	unit := impl.Term{Kind: impl.TyUnit}
	for i, item := range []impl.Item{
		{Kind: impl.ItType, Name: "a", Term: x}, {Kind: impl.ItFunc, Name: "a", Term: x}, {Kind: impl.ItFunc, Name: "a", Term: unit, Params: []impl.TermParam{{Name: "b", Term: x}}},
	} {
		checkNoPackage(t, what+" in item "+strconv.Itoa(i), impl.Package{Name: "p", Version: "1.0.0", Faces: []impl.FaceDecl{{Name: "f", Items: []impl.Item{item}}}})
	}
}

// checkNoPackage checks that everything says that x is invalid.
func checkNoPackage(t *testing.T, what string, x impl.Package) {
	t.Helper()
	good := impl.Package{Name: "p", Version: "1.0.0"}
	zero(t, what, impl.PackageOk(x), impl.PackageText(x), impl.SamePackage(x, x), impl.SamePackage(x, good), impl.SamePackage(good, x))
}

// termed reads a term that the test needs.
func termed(t *testing.T, s string) impl.Term {
	t.Helper()
	x, code := impl.ReadTerm(s)
	if code != impl.OK {
		t.Fatalf("ReadTerm(%q) fails", s)
	}
	return x
}

// packaged reads a package that the test needs.
func packaged(t *testing.T, s string) impl.Package {
	t.Helper()
	x, line, code := impl.ReadPackage(s)
	if code != impl.OK {
		t.Fatalf("ReadPackage(%q) fails in line %d: %d", s, line, code)
	}
	return x
}

func TestP6LanguageConstants(t *testing.T) {
	is(t, "constants", all(int64(impl.MaxItems), int64(impl.MaxDecls), int64(impl.TeName), int64(impl.ItResource), int64(impl.ItType), int64(impl.ItFunc), int64(impl.ItUse), int64(impl.WiImport), int64(impl.WiExport), int64(impl.WiInclude)), 16, 8, 30, 1, 2, 3, 4, 1, 2, 3)
}

func TestP6Reserved(t *testing.T) {
	for _, s := range kindWords {
		is(t, s, all(impl.Reserved(s)), true)
		zero(t, s, impl.Reserved(s+"s"), impl.Reserved(s[1:]), impl.Reserved(s+" "), impl.Reserved(strings.ToUpper(s)), impl.Reserved(" "+s))
	}
	for _, s := range []string{"", "type", "use", "resource", "func", "async", "as", "interface", "world", "package", "import", "export", "include", "string", "u64", "_", "bed", "\x00", "list<u8>", "unit bool"} {
		zero(t, s, impl.Reserved(s))
	}
}

func TestP6ReadTerm(t *testing.T) {
	u8, unit, bed := impl.Term{Kind: impl.TyU8}, impl.Term{Kind: impl.TyUnit}, impl.Term{Kind: impl.TeName, Name: "bed"}
	for _, c := range []struct {
		source string
		want   impl.Term
	}{
		{"bed", bed}, {"type", impl.Term{Kind: impl.TeName, Name: "type"}}, {"u64", impl.Term{Kind: impl.TeName, Name: "u64"}}, {"twelve-bytes", impl.Term{Kind: impl.TeName, Name: "twelve-bytes"}},
		{"list<u8>", impl.Term{Kind: impl.TyList, Kids: []impl.Term{u8}}}, {"option<bed>", impl.Term{Kind: impl.TyOption, Kids: []impl.Term{bed}}}, {"list<unit>", impl.Term{Kind: impl.TyList, Kids: []impl.Term{unit}}},
		{"stream<u8>", impl.Term{Kind: impl.TyStream, Kids: []impl.Term{u8}}}, {"future<unit>", impl.Term{Kind: impl.TyFuture, Kids: []impl.Term{unit}}}, {"stream<borrow<bed>>", impl.Term{Kind: impl.TyStream, Kids: []impl.Term{{Kind: impl.TyBorrow, Name: "bed"}}}},
		{"result", impl.Term{Kind: impl.TyResult, Kids: []impl.Term{unit, unit}}}, {"result<u8>", impl.Term{Kind: impl.TyResult, Kids: []impl.Term{u8, unit}}}, {"result<_, bed>", impl.Term{Kind: impl.TyResult, Kids: []impl.Term{unit, bed}}}, {"result<u8, bed>", impl.Term{Kind: impl.TyResult, Kids: []impl.Term{u8, bed}}},
		{"tuple<u8>", impl.Term{Kind: impl.TyTuple, Kids: []impl.Term{u8}}}, {"tuple<u8, bed, unit>", impl.Term{Kind: impl.TyTuple, Kids: []impl.Term{u8, bed, unit}}},
		{"own<bed>", impl.Term{Kind: impl.TyOwn, Name: "bed"}}, {"borrow<resource>", impl.Term{Kind: impl.TyBorrow, Name: "resource"}},
		{"record { a: u8, list: bed }", impl.Term{Kind: impl.TyRecord, Labels: []string{"a", "list"}, Kids: []impl.Term{u8, bed}}}, {"record { b: unit }", impl.Term{Kind: impl.TyRecord, Labels: []string{"b"}, Kids: []impl.Term{unit}}}, {"record { a: u8, a: u8 }", impl.Term{Kind: impl.TyRecord, Labels: []string{"a", "a"}, Kids: []impl.Term{u8, u8}}},
		{"variant { a, b(u8) }", impl.Term{Kind: impl.TyVariant, Labels: []string{"a", "b"}, Kids: []impl.Term{unit, u8}}}, {"variant { none }", impl.Term{Kind: impl.TyVariant, Labels: []string{"none"}, Kids: []impl.Term{unit}}},
		{"enum { b, a }", impl.Term{Kind: impl.TyEnum, Labels: []string{"b", "a"}}}, {"flags { x, x, u8 }", impl.Term{Kind: impl.TyFlags, Labels: []string{"x", "x", "u8"}}},
	} {
		checkTerm(t, c.want, c.source)
	}
	for i, word := range kindWords[:11] {
		checkTerm(t, impl.Term{Kind: int64(i + 1)}, word)
	}
}

// TestP6ReservedPlaces puts each reserved word into each place of a name in the grammar.
func TestP6ReservedPlaces(t *testing.T) {
	for _, word := range kindWords {
		for place, want := range map[string]int64{
			"package %@1.0.0;": impl.OK, "package a@1.0.0; interface % {}": impl.OK, "package a@1.0.0; world % {}": impl.OK, "package a@1.0.0; world w { import %; export %/a; include a/%; }": impl.OK, "package a@1.0.0; world w { import %/%@1.0.0; }": impl.OK,
			"F %: func();": impl.OK, "F f: func(%: u8);": impl.OK, "F use %.{a};": impl.OK, "F use %/%@1.0.0.{a};": impl.OK, "F type a = record { %: u8 };": impl.OK, "F type a = variant { %, %(u8) };": impl.OK, "F type a = enum { % };": impl.OK, "F type a = flags { %, a };": impl.OK,
			"F resource %;": impl.ErrParse, "F type % = u8;": impl.ErrParse, "F use a.{%};": impl.ErrParse, "F use a.{b, %};": impl.ErrParse, "F use a.{b as %};": impl.ErrParse, "F type a = own<%>;": impl.ErrParse, "F type a = borrow<%>;": impl.ErrParse,
		} {
			source := strings.ReplaceAll(place, "%", word)
			if items, ok := strings.CutPrefix(source, "F "); ok {
				source = "package a@1.0.0; interface f { " + items + " }"
			}
			x, _, code := impl.ReadPackage(source)
			is(t, source, all(code, impl.PackageOk(x)), want, want == impl.OK)
			if code == impl.OK {
				is(t, source, all(impl.PackageText(x)), packageSource(x))
			}
		}
		x, code := impl.ReadTerm(word)
		is(t, word, all(code == impl.OK, x.Kind == impl.TeName), slices.Index(kindWords, word) < 11 || word == "result", false)
		zero(t, word, impl.TermOk(impl.Term{Kind: impl.TeName, Name: word}), impl.TermOk(impl.Term{Kind: impl.TyOwn, Name: word}), impl.TermOk(impl.Term{Kind: impl.TyBorrow, Name: word}))
	}
}

// goodTerms are sources of types with their canonical forms.
var goodTerms = map[string]string{
	" u8": "u8", "u8 // x": "u8", "// x\n\nu8\n": "u8", " list < option<  text> >": "list<option<text>>", "list<list<list<u8>>>": "list<list<list<u8>>>", "list//\n<//\nu8//\n>//": "list<u8>",
	"result": "result", "result<_>": "result", "result<unit>": "result", "result<_,unit>": "result", "result < unit , unit >": "result", "result<u8>": "result<u8>", "result<u8,unit>": "result<u8>", "result<unit,u8>": "result<_, u8>", "result<_,u8>": "result<_, u8>", "result<u8,text>": "result<u8, text>", "result<result,result>": "result<result, result>", "result<result<_>>": "result<result>",
	"tuple<u8,bed>": "tuple<u8, bed>", "tuple<a,b,c,d,e,f>": "tuple<a, b, c, d, e, f>", "record{a:u8,b-c:list<bool>}": "record { a: u8, b-c: list<bool> }", "record{record:record{record:record}}": "", "variant{a,b(u8),c(unit)}": "variant { a, b(u8), c }", "variant{u8(u8)}": "variant { u8(u8) }", "enum{a,b}": "enum { a, b }", "flags{x}": "flags { x }", "own < bed >": "own<bed>",
	"enum{" + sixteen + "}": "enum { " + strings.ReplaceAll(sixteen, ",", ", ") + " }", "variant{" + sixteen + "}": "variant { " + strings.ReplaceAll(sixteen, ",", ", ") + " }", "record{" + strings.ReplaceAll(sixteen, ",", ":u8,") + ":u8}": "record { " + strings.ReplaceAll(sixteen, ",", ": u8, ") + ": u8 }",
}

// badTerms are no sources of types.
var badTerms = []string{
	"", " ", "// u8", "_", "1", "1.0.0", ",", "U8", "u8%", "u8\t", "u8 u8", "u8,", "u8;", "u8 >", "u8<>", "u8<u8>", "unit<_>", "bed<u8>", "bed bed", "toolongnamexx", "-", "->", "u8 ->", "func()", "a.b", "a/b", "(u8)", "thirteen-byte",
	"list", "list<", "list<>", "list<u8", "list u8", "list<u8>>", "list<u8,u8>", "list<u8,>", "list<_>", "list{u8}", "list(u8)", "list<u8}", "list<1>", "option", "option<>", "option<_>", "option<u8,u8>", "stream", "stream<>", "stream<_>", "future", "future<>", "future<_>", "stream<u8,u8>",
	"result<>", "result<,u8>", "result<u8,>", "result<_,>", "result<_,_>", "result<u8,_>", "result<u8,u8,u8>", "result<_,u8,u8>", "result<_", "result<u8", "result<u8,u8", "result>", "result u8", "result<_ u8>", "result{u8}", "result<_,u8>>", "result<__>",
	"tuple", "tuple<>", "tuple<_>", "tuple<u8,>", "tuple<,u8>", "tuple<u8,,u8>", "tuple<u8 u8>", "tuple<u8,u8,u8,u8,u8,u8,u8>", "tuple<u8,u8,u8,u8,u8,u8,>", "tuple{u8}", "tuple(u8)",
	"own", "own<>", "own<u8>", "own<list>", "own<unit>", "borrow<future>", "own<thirteen-byte>", "own<a,b>", "own<own<a>>", "own{a}", "own<_>", "own<1>", "own<a", "own<A>", "borrow", "borrow<>", "borrow<a,b>", "own<list<u8>>",
	"record", "record{}", "record{a}", "record{a:}", "record{:u8}", "record{a:u8,}", "record{,a:u8}", "record{a:u8 b:u8}", "record{a:u8;b:u8}", "record{a(u8)}", "record{a:_}", "record<a:u8>", "record{a:u8", "record{a:u8}}", "record{thirteen-byte:u8}", "record{1:u8}", "record{_:u8}", "record{a::u8}", "record{a->u8}", "record(a:u8)", "record { a: u8, b }",
	"variant", "variant{}", "variant{a()}", "variant{a(_)}", "variant{a:u8}", "variant{a,}", "variant{,a}", "variant{a b}", "variant{a(u8,u8)}", "variant{a(u8}", "variant{a u8)}", "variant{(u8)}", "variant{thirteen-byte}", "variant<a>", "variant{a(u8)(u8)}", "variant{a<u8>}",
	"enum", "enum{}", "enum{a,}", "enum{a(u8)}", "enum{a:u8}", "enum{thirteen-byte}", "enum<a>", "enum{a b}", "enum{1}", "enum{_}", "flags", "flags{}", "flags{a:u8}", "flags{a,}", "flags(a)",
	"enum{" + sixteen + ",q}", "flags{" + sixteen + ",q}", "variant{" + sixteen + ",q}", "record{" + strings.ReplaceAll(sixteen, ",", ":u8,") + ":u8,q:u8}", "enum{" + sixteen + ",}",
}

func TestP6TermSources(t *testing.T) {
	for source, want := range goodTerms {
		if want == "" {
			want, _ = "", source
			x, code := impl.ReadTerm(source)
			is(t, source, all(code, alike(x, impl.Term{})), impl.ErrParse, true)
			continue
		}
		x, code := impl.ReadTerm(source)
		is(t, source, all(code, termSource(x)), impl.OK, want)
		checkTerm(t, x, want)
	}
	for _, source := range badTerms {
		for _, s := range []string{source, " " + source + " // x"} {
			x, code := impl.ReadTerm(s)
			is(t, s, all(code, alike(x, impl.Term{})), impl.ErrParse, true)
		}
	}
	for _, c := range []struct {
		source string
		code   int64
	}{
		{strings.Repeat(" ", 30001), impl.ErrMany}, {strings.Repeat(" ", 29998) + "u8", impl.OK}, {strings.Repeat(" ", 29999) + "u8", impl.ErrMany}, {strings.Repeat("a ", 4001), impl.ErrMany}, {strings.Repeat("a ", 4000), impl.ErrParse}, {"u8 u8 %", impl.ErrParse}, {"u8%" + strings.Repeat(" a", 4001), impl.ErrParse}, {strings.Repeat("%", 30001), impl.ErrMany},
	} {
		x, code := impl.ReadTerm(c.source)
		is(t, "a long source", all(code, code == impl.OK || alike(x, impl.Term{})), c.code, true)
		p, code := impl.ReadPath(strings.Replace(c.source, "u8", "aa", 1))
		is(t, "a long source", all(code, code == impl.OK || p == impl.Path{}), c.code, true)
	}
}

// TestP6TermDepth checks the limit of nesting, and what it counts.
func TestP6TermDepth(t *testing.T) {
	for _, c := range []struct {
		inner string
		deep  int
	}{
		{"u8", 1}, {"unit", 1}, {"bed", 1}, {"own<bed>", 1}, {"borrow<bed>", 1}, {"enum{a}", 1}, {"flags{a,b}", 1}, {"variant{a,b}", 1}, {"result", 1}, {"result<_>", 1},
		{"list<u8>", 2}, {"list<unit>", 2}, {"option<bed>", 2}, {"stream<u8>", 2}, {"future<unit>", 2}, {"tuple<u8,own<bed>>", 2}, {"record{a:u8}", 2}, {"variant{a,b(u8)}", 2}, {"variant{a(unit)}", 2}, {"result<u8>", 2}, {"result<unit>", 2}, {"result<_,u8>", 2}, {"result<_,unit>", 2}, {"result<u8,unit>", 2},
		{"tuple<u8,list<u8>>", 3}, {"record{a:u8,b:list<u8>}", 3}, {"variant{a,b(result<u8>)}", 3}, {"result<_,result<_,unit>>", 3}, {"tuple<u8,u8,u8,u8,u8,list<list<list<u8>>>>", 5}, {"record{a:list<list<list<u8>>>}", 5}, {"result<_,list<list<list<u8>>>>", 5}, {"variant{a(list<list<list<u8>>>)}", 5},
	} {
		for _, form := range []string{"list<%>", "option<%>", "stream<%>", "future<%>", "tuple<u8,%>", "tuple<%,u8>", "result<%>", "result<_,%>", "result<u8,%>", "result<%,u8>", "record{a:%}", "record{a:u8,b:%}", "variant{a,b(%)}", "variant{a(%),b}"} {
			s := c.inner
			for levels := range 6 {
				x, code := impl.ReadTerm(s)
				want := int64(impl.OK)
				if c.deep+levels > 4 {
					want = impl.ErrParse
				}
				is(t, s, all(code, code == impl.OK || alike(x, impl.Term{})), want, true)
				_, modelCode := modelOfSource(s, typeRule(1))
				is(t, s, all(modelCode), want)
				if code == impl.OK {
					checkTerm(t, x, termSource(x))
				}
				s = strings.ReplaceAll(form, "%", s)
			}
		}
	}
	// In a tree a unit that is not printed takes no level.
	unit := impl.Term{Kind: impl.TyUnit}
	for _, x := range []impl.Term{{Kind: impl.TyResult, Kids: []impl.Term{unit, unit}}, {Kind: impl.TyVariant, Labels: []string{"a"}, Kids: []impl.Term{unit}}, {Kind: impl.TyEnum, Labels: []string{"a"}}} {
		for range 3 {
			x = impl.Term{Kind: impl.TyList, Kids: []impl.Term{x}}
		}
		checkTerm(t, x, termSource(x))
		checkNoTerm(t, "one level more", impl.Term{Kind: impl.TyList, Kids: []impl.Term{x}})
	}
	x := impl.Term{Kind: impl.TyList, Kids: []impl.Term{unit}}
	for range 2 {
		x = impl.Term{Kind: impl.TyList, Kids: []impl.Term{x}}
	}
	checkTerm(t, x, "list<list<list<unit>>>")
	checkNoTerm(t, "one level more", impl.Term{Kind: impl.TyList, Kids: []impl.Term{x}})
}

func TestP6TermModel(t *testing.T) {
	r := rand.New(rand.NewSource(61))
	words := append(slices.Clone(kindWords), "bed", "<", ">", "{", "}", "(", ")", ",", ":", "_", "thirteen-byte", "1")
	for range 1500 {
		x := someTerm(r, 1+r.Intn(4))
		s := termSource(x)
		checkTerm(t, x, s)
		y, code := impl.ReadTerm(scattered(r, s))
		is(t, s, all(code, alike(x, y), impl.SameTerm(x, y)), impl.OK, true, true)
		other := someTerm(r, 2)
		is(t, s+" and "+termSource(other), all(impl.SameTerm(x, other)), s == termSource(other))
		tokens, _, _ := modelOfTokens(s)
		for range 10 {
			changed := impl.TokensText(changedTokens(r, tokens, words))
			y, code := impl.ReadTerm(changed)
			_, want := modelOfSource(changed, typeRule(1))
			is(t, changed, all(code, code == impl.OK || alike(y, impl.Term{})), want, true)
		}
	}
}

// changedTokens returns a copy of list with one token removed, replaced, inserted or doubled, or with two exchanged.
func changedTokens(r *rand.Rand, list []impl.Token, words []string) []impl.Token {
	list = slices.Clone(list)
	i := r.Intn(len(list))
	other := impl.Token{Text: pick(r, words)}
	switch r.Intn(5) {
	case 0:
		return slices.Delete(list, i, i+1)
	case 1:
		list[i] = other
	case 2:
		return slices.Insert(list, i, other)
	case 3:
		return slices.Insert(list, i, list[i])
	case 4:
		j := r.Intn(len(list))
		list[i], list[j] = list[j], list[i]
	}
	return list
}

// someValidTerms are terms of all kinds.
func someValidTerms(t *testing.T) []impl.Term {
	var list []impl.Term
	for _, s := range []string{"unit", "u8", "text", "bed", "list<u8>", "option<bed>", "result", "result<u8>", "result<_, u8>", "tuple<u8, bed>", "record { a: u8, b: list<bed> }", "variant { a, b(u8) }", "enum { a, b }", "flags { a }", "own<bed>", "borrow<bed>", "stream<u8>", "future<list<u8>>"} {
		list = append(list, termed(t, s))
	}
	return list
}

func TestP6NoTerms(t *testing.T) {
	u8 := impl.Term{Kind: impl.TyU8}
	for _, kind := range []int64{0, -1, 24, 25, 29, 31, 255, 256 + 3, 1<<32 + 3, 1<<32 + 30, math.MaxInt64, math.MinInt64} {
		for _, x := range []impl.Term{{Kind: kind}, {Kind: kind, Name: "a"}, {Kind: kind, Kids: []impl.Term{u8}}, {Kind: kind, Labels: []string{"a"}}} {
			checkNoTerm(t, "kind "+strconv.FormatInt(kind, 10), x)
			checkNoTerm(t, "a list of kind "+strconv.FormatInt(kind, 10), impl.Term{Kind: impl.TyList, Kids: []impl.Term{x}})
			checkNoTerm(t, "a case of kind "+strconv.FormatInt(kind, 10), impl.Term{Kind: impl.TyVariant, Labels: []string{"a"}, Kids: []impl.Term{x}})
		}
	}
	for _, base := range someValidTerms(t) {
		named := base.Kind == impl.TeName || base.Kind == impl.TyOwn || base.Kind == impl.TyBorrow
		changes := map[string]func(x *impl.Term){
			"a kid more": func(x *impl.Term) { x.Kids = append(x.Kids, u8) }, "a label more": func(x *impl.Term) { x.Labels = append(x.Labels, "more") }, "an empty label more": func(x *impl.Term) { x.Labels = append(x.Labels, "") },
			"a name with a blank": func(x *impl.Term) { x.Name += " " }, "a name with a comment": func(x *impl.Term) { x.Name += "//" }, "a reserved name": func(x *impl.Term) { x.Name = "u8" }, "a long name": func(x *impl.Term) { x.Name = "thirteen-byte" }, "a name with arguments": func(x *impl.Term) { x.Name = "list<u8>" }, "two names": func(x *impl.Term) { x.Name = "a, b" },
		}
		if !named {
			changes["a name"] = func(x *impl.Term) { x.Name = "a" }
		} else {
			changes["no name"] = func(x *impl.Term) { x.Name = "" }
		}
		if len(base.Labels) > 0 {
			changes["a label less"] = func(x *impl.Term) { x.Labels = x.Labels[:len(x.Labels)-1] }
			changes["no labels"] = func(x *impl.Term) { x.Labels = nil }
			changes["neither labels nor kids"] = func(x *impl.Term) { x.Labels, x.Kids = nil, nil }
			for i := range base.Labels {
				for _, label := range append(noNames(), "a b", "a:u8", "a,b", "a(u8)", "a}", " a", "a ", "a//", "a\n") {
					changes["label "+label] = func(x *impl.Term) { x.Labels[i] = label }
				}
			}
		}
		if len(base.Kids) > 0 {
			changes["a kid less"] = func(x *impl.Term) { x.Kids = x.Kids[:len(x.Kids)-1] }
			changes["no kids"] = func(x *impl.Term) { x.Kids = nil }
			for i := range base.Kids {
				changes["no kind in kid "+strconv.Itoa(i)] = func(x *impl.Term) { x.Kids[i] = impl.Term{} }
				changes["a name in kid "+strconv.Itoa(i)] = func(x *impl.Term) { x.Kids[i] = impl.Term{Kind: impl.TyUnit, Name: "a"} }
				changes["a kid in kid "+strconv.Itoa(i)] = func(x *impl.Term) { x.Kids[i] = impl.Term{Kind: impl.TyUnit, Kids: []impl.Term{u8}} }
				changes["a label in kid "+strconv.Itoa(i)] = func(x *impl.Term) { x.Kids[i] = impl.Term{Kind: impl.TyUnit, Labels: []string{"a"}} }
				changes["a source as kid "+strconv.Itoa(i)] = func(x *impl.Term) { x.Kids[i] = impl.Term{Kind: impl.TeName, Name: "u8, u8"} }
				changes["underscore as kid "+strconv.Itoa(i)] = func(x *impl.Term) { x.Kids[i] = impl.Term{Kind: impl.TeName, Name: "_"} }
			}
		}
		for what, do := range changes {
			if base.Kind == impl.TyTuple && (what == "a kid more" || what == "a kid less") || (base.Kind == impl.TyEnum || base.Kind == impl.TyFlags) && (what == "a label more" || what == "a label less" && len(base.Labels) > 1) {
				continue
			}
			x := roomy(base)
			do(&x)
			checkNoTerm(t, termSource(base)+" with "+what, x)
		}
	}
}

// TestP6TermLimits gives a term as many Kids and Labels as there can be, and one more.
func TestP6TermLimits(t *testing.T) {
	u8 := impl.Term{Kind: impl.TyU8}
	many := func(kind int64, most int) {
		x := impl.Term{Kind: kind}
		for i := range most + 1 {
			if kind != impl.TyTuple {
				x.Labels = append(x.Labels, "l"+strconv.Itoa(i))
			}
			if kind <= impl.TyVariant {
				x.Kids = append(x.Kids, u8)
			}
		}
		checkNoTerm(t, "too many", x)
		x.Labels, x.Kids = x.Labels[:max(len(x.Labels)-1, 0)], x.Kids[:max(len(x.Kids)-1, 0)]
		checkTerm(t, x, termSource(x))
	}
	many(impl.TyTuple, 6)
	many(impl.TyRecord, 16)
	many(impl.TyVariant, 16)
	many(impl.TyEnum, 16)
	many(impl.TyFlags, 16)
}

func TestP6SameTerm(t *testing.T) {
	list := someValidTerms(t)
	for i, a := range list {
		for j, b := range list {
			is(t, termSource(a)+" and "+termSource(b), all(impl.SameTerm(a, roomy(b))), i == j)
		}
	}
	is(t, "nil and empty slices", all(impl.SameTerm(impl.Term{Kind: 3}, impl.Term{Kind: 3, Labels: []string{}, Kids: []impl.Term{}})), true)
	is(t, "invalid terms", all(impl.SameTerm(impl.Term{}, impl.Term{}), impl.SameTerm(impl.Term{Kind: impl.TeName, Name: "u8"}, impl.Term{Kind: impl.TyU8})), false, false)
}

// bigTerm is a term of that many tokens, near to 4000.
func bigTerm(tokens int) impl.Term {
	u8 := impl.Term{Kind: impl.TyU8}
	labels := strings.Split(sixteen, ",")
	enum := impl.Term{Kind: impl.TyEnum, Labels: labels}
	block := impl.Term{Kind: impl.TyRecord, Labels: labels, Kids: slices.Repeat([]impl.Term{u8}, 16)}
	row := impl.Term{Kind: impl.TyVariant, Labels: labels, Kids: slices.Repeat([]impl.Term{block}, 16)}
	short := impl.Term{Kind: impl.TyVariant, Labels: labels[:8], Kids: row.Kids[:8]}
	x := impl.Term{Kind: impl.TyVariant, Kids: []impl.Term{row, row, row, short}}
	// A case has two tokens with its comma, and its payload two more with the parentheses.
	left := tokens - 3946
	add := func(size int, kid impl.Term) {
		x.Kids = append(x.Kids, kid)
		left -= size
	}
	for left >= 38 {
		add(38, enum)
	}
	if left%2 != 0 {
		add(5, u8)
	}
	for left >= 8 {
		add(8, impl.Term{Kind: impl.TyOwn, Name: "a"})
	}
	for left > 0 {
		add(2, impl.Term{Kind: impl.TyUnit})
	}
	x.Labels = labels[:len(x.Kids)]
	return x
}

// TestP6TermSize checks the limit of tokens, which a canonical source form must keep.
func TestP6TermSize(t *testing.T) {
	for tokens := 3991; tokens <= 4010; tokens++ {
		x := bigTerm(tokens)
		s := termSource(x)
		_, code := impl.ReadTerm(s)
		if tokens > 4000 {
			is(t, "tokens", all(code), impl.ErrMany)
			checkNoTerm(t, strconv.Itoa(tokens)+" tokens", x)
			continue
		}
		list, _, _ := modelOfTokens(s)
		is(t, "tokens", all(code, int64(len(list))), impl.OK, tokens+1)
		checkTerm(t, x, s)
	}
	row := impl.Term{Kind: impl.TyEnum, Labels: slices.Repeat([]string{"twelve-bytes"}, 16)}
	block := impl.Term{Kind: impl.TyRecord, Labels: row.Labels, Kids: slices.Repeat([]impl.Term{row}, 16)}
	x := impl.Term{Kind: impl.TyTuple, Kids: slices.Repeat([]impl.Term{block}, 6)}
	checkTerm(t, x, termSource(x))
	checkNoTerm(t, "a long term", impl.Term{Kind: impl.TyTuple, Kids: []impl.Term{x, x}})
}

// TestP6PackageSize checks the limits of sources, and that a canonical source form must keep them.
func TestP6PackageSize(t *testing.T) {
	build := func(tokens int) impl.Package {
		x := impl.Package{Name: "p", Version: "1.0.0"}
		left := tokens - 5
		add := func(labels int) {
			last := len(x.Faces) - 1
			if last < 0 || len(x.Faces[last].Items) == 16 {
				last++
				x.Faces = append(x.Faces, impl.FaceDecl{Name: "f" + strconv.Itoa(last)})
				left -= 4
			}
			f := &x.Faces[last]
			f.Items = append(f.Items, impl.Item{Kind: impl.ItType, Name: "t" + strconv.Itoa(len(f.Items)), Term: impl.Term{Kind: impl.TyEnum, Labels: slices.Repeat([]string{"twelve-bytes"}, labels)}})
			left -= 2*labels + 6
		}
		for left > 80 {
			add(16)
		}
		w := impl.WorldDecl{Name: "w"}
		left -= 4
		for left > 38 || left%2 != 0 {
			w.Items = append(w.Items, impl.WorldItem{Kind: impl.WiImport, Path: impl.Path{Name: "a"}})
			left -= 3
		}
		x.Worlds = []impl.WorldDecl{w}
		add(left/2 - 3)
		return x
	}
	for tokens := 3991; tokens <= 4010; tokens++ {
		x := build(tokens)
		s := packageSource(x)
		y, line, code := impl.ReadPackage(s)
		if tokens > 4000 {
			_, wantLine, _ := modelOfTokens(s)
			is(t, "too many tokens", all(line, code, alike(y, impl.Package{})), wantLine, impl.ErrMany, true)
			checkNoPackage(t, strconv.Itoa(tokens)+" tokens", x)
			continue
		}
		list, _, _ := modelOfTokens(s)
		is(t, "many tokens", all(int64(len(list)), line, code, alike(x, y), impl.PackageText(x), impl.PackageOk(x), impl.SamePackage(x, y)), tokens+1, 0, impl.OK, true, s, true, true)
		short := strings.ReplaceAll(s, ", ", ",")
		for size := 29999; size <= 30001; size++ {
			y, line, code := impl.ReadPackage(short + strings.Repeat("/", size-len(short)))
			if size > 30000 {
				is(t, "too long", all(line, code, alike(y, impl.Package{})), 0, impl.ErrMany, true)
			} else {
				is(t, "long", all(line, code, alike(x, y)), 0, impl.OK, true)
			}
		}
	}
}

func TestP6TermOf(t *testing.T) {
	var same func(u impl.Type) impl.Term
	same = func(u impl.Type) impl.Term {
		x := impl.Term{Kind: u.Kind, Name: u.Name, Labels: u.Labels}
		for _, kid := range u.Kids {
			x.Kids = append(x.Kids, same(kid))
		}
		return x
	}
	list := someTypes(62, 200)
	for _, s := range goodTypes {
		list = append(list, typed(t, s))
	}
	for _, u := range list {
		is(t, printed(u), all(alike(impl.TermOf(u), same(u))), true)
		pure(t, "TermOf", u, func(u impl.Type) []any { return all(impl.TermOf(u)) })
	}
	is(t, "list<own<bed>>", all(impl.TermText(impl.TermOf(typed(t, "list<own<bed>>")))), "list<own<bed>>")
	own := impl.TermOf(typed(t, "own<u8>"))
	is(t, "a resource with a reserved name", all(own.Kind, own.Name, impl.TermOk(own)), impl.TyOwn, "u8", false)
	bad := []impl.Type{{}, {Kind: 30, Name: "a"}, {Kind: 24}, {Kind: impl.TyU8, Name: "a"}, {Kind: impl.TyList}, {Kind: impl.TyList, Kids: []impl.Type{{Kind: impl.TyUnit}}}, {Kind: impl.TyEnum, Labels: []string{"a", "a"}}, {Kind: impl.TyOwn, Name: "A"}, nested(impl.TyList, 5, impl.Type{Kind: impl.TyU8})}
	_, beyond := limitTypes()
	for _, u := range slices.Concat(bad, beyond, deepTypes()) {
		is(t, "an invalid type", all(alike(impl.TermOf(u), impl.Term{})), true)
	}
}

func TestP6Paths(t *testing.T) {
	for source, want := range map[string]impl.Path{
		"beds": {Name: "beds"}, "list": {Name: "list"}, "twelve-bytes": {Name: "twelve-bytes"}, "a/b": {Package: "a", Name: "b"}, "a / b @ 1.2.0": {Package: "a", Name: "b", Version: "1.2.0"}, " a\n/ // x\nb": {Package: "a", Name: "b"}, "u8/unit@999.999.999": {Package: "u8", Name: "unit", Version: "999.999.999"}, "a//b": {Name: "a"}, "a/b//@1": {Package: "a", Name: "b"}, "// x\na": {Name: "a"}, "package/use@0.0.0 // y\n": {Package: "package", Name: "use", Version: "0.0.0"},
	} {
		p, code := impl.ReadPath(source)
		is(t, source, all(p == want, code, impl.PathText(want)), true, impl.OK, pathSource(want))
		p, code = impl.ReadPath(pathSource(want))
		is(t, source, all(p == want, code), true, impl.OK)
	}
	for _, source := range []string{"", " ", "/", "@", "a/", "/b", "a/b/c", "a@1.0.0", "a/b@", "a/b@1", "a/b@1.0", "a/b@1.0.0.0", "a/b@01.0.0", "a/b@1.0.1000", "a/b@1.0.0@1.0.0", "a/b 1.0.0", "a b", "a.b", "a/b.", "1/b", "a/1", "a/_", "_", "thirteen-byte", "thirteen-byte/b", "a/thirteen-byte", "a/b@c", "@1.0.0", "a/@1.0.0", "a/b@1.0.0 c", "a/b@1.0.0.", "a:b", "a-", "A", "a%", "a/b@1..0"} {
		p, code := impl.ReadPath(source)
		is(t, source, all(p == impl.Path{}, code), true, impl.ErrParse)
	}
	names := append(noNames(), "a", "b-1", "twelve-bytes", "u8", "a ", " a", "a//", "a/b", "a@1.0.0", "/", "a.b", "a\n")
	versions := append(noVersions(), "1.2.3", "0.0.0", "999.999.999")
	for _, pack := range names {
		for _, s := range names {
			for _, version := range versions {
				p := impl.Path{Package: pack, Name: s, Version: version}
				_, versionOk := modelOf(version)
				ok := isName(s) && (isName(pack) && (version == "" || versionOk) || pack == "" && version == "")
				want := ""
				if ok {
					want = pathSource(p)
				}
				is(t, "PathText", all(impl.PathText(p)), want)
			}
		}
	}
}

func TestP6ReadPackage(t *testing.T) {
	u8, unit := impl.Term{Kind: impl.TyU8}, impl.Term{Kind: impl.TyUnit}
	want := impl.Package{
		Name: "ward", Version: "1.2.0",
		Faces: []impl.FaceDecl{
			{Name: "beds", Items: []impl.Item{
				{Kind: impl.ItResource, Name: "bed"},
				{Kind: impl.ItType, Name: "spot", Term: impl.Term{Kind: impl.TyRecord, Labels: []string{"id"}, Kids: []impl.Term{u8}}},
				{Kind: impl.ItUse, From: impl.Path{Package: "base", Name: "types", Version: "1.0.0"}, Uses: []impl.UseName{{Name: "color", As: "hue"}, {Name: "size"}}},
				{Kind: impl.ItUse, From: impl.Path{Name: "use"}, Uses: []impl.UseName{{Name: "as", As: "as"}}},
				{Kind: impl.ItFunc, Name: "take", Params: []impl.TermParam{{Name: "u8", Term: u8}, {Name: "how", Term: impl.Term{Kind: impl.TeName, Name: "hue"}}}, Term: impl.Term{Kind: impl.TyOwn, Name: "bed"}},
				{Kind: impl.ItFunc, Name: "watch", Async: true, Term: unit},
				{Kind: impl.ItFunc, Name: "type", Term: u8},
				{Kind: impl.ItFunc, Name: "use", Term: unit},
				{Kind: impl.ItFunc, Name: "resource", Async: true, Term: unit},
				{Kind: impl.ItFunc, Name: "list", Term: unit},
				{Kind: impl.ItFunc, Name: "async", Term: unit},
				{Kind: impl.ItFunc, Name: "func", Term: unit},
				{Kind: impl.ItType, Name: "type", Term: unit},
				{Kind: impl.ItResource, Name: "resource"},
			}},
			{Name: "list"},
		},
		Worlds: []impl.WorldDecl{
			{Name: "beds", Items: []impl.WorldItem{{Kind: impl.WiImport, Path: impl.Path{Name: "beds"}}, {Kind: impl.WiExport, Path: impl.Path{Package: "base", Name: "admin", Version: "1.0.0"}}, {Kind: impl.WiInclude, Path: impl.Path{Package: "include", Name: "import"}}}},
			{Name: "u8"},
		},
	}
	canonical := packageSource(want)
	for i, s := range []string{
		canonical,
		"package ward@1.2.0;world beds{import beds;export base/admin@1.0.0;include include/import;}interface beds{resource bed;type spot=record{id:u8};use base/types@1.0.0.{color as hue,size};use use.{as as as};take:func(u8:u8,how:hue)->own<bed>;watch:async func()->unit;type:func()->u8;use:func();resource:async func();list:func();async:func();func:func();type type=unit;resource resource;}world u8{}interface list{}",
	} {
		x, line, code := impl.ReadPackage(s)
		is(t, "source "+strconv.Itoa(i), all(line, code, alike(x, want), impl.PackageOk(x), impl.PackageText(x), impl.SamePackage(x, want)), 0, impl.OK, true, true, canonical, true)
	}
	x := packaged(t, wardSource)
	is(t, "the example", all(impl.PackageText(x), packageSource(x)), wardSource, wardSource)
	x, line, code := impl.ReadPackage("package a@1.0.0;\nworld w {\n need b;\n}")
	is(t, "the example", all(alike(x, impl.Package{}), line, code), true, 3, impl.ErrParse)
	for source, canonical := range map[string]string{
		"package a@1.0.0;": "package a@1.0.0;\n", "package package@0.0.0;// x": "package package@0.0.0;\n", "// y\npackage u8 @ 1.0.0 ;\n\n": "package u8@1.0.0;\n", "package a@1.0.0; interface b { }": "package a@1.0.0;\n\ninterface b {\n}\n", "package a@1.0.0; world b { }": "package a@1.0.0;\n\nworld b {\n}\n", "package a@1.0.0; world b { } interface b { f: func() -> unit; }": "package a@1.0.0;\n\ninterface b {\n  f: func();\n}\n\nworld b {\n}\n",
	} {
		x, line, code := impl.ReadPackage(source)
		is(t, source, all(line, code, impl.PackageText(x), packageSource(x)), 0, impl.OK, canonical, canonical)
	}
}

// TestP6Names checks the static constraint on names, and what it leaves open.
func TestP6Names(t *testing.T) {
	for body, want := range map[string]int64{
		"interface b {} interface b {}": impl.ErrForm, "interface b {} interface c {} world x {} interface b {}": impl.ErrForm, "world b {} world b {}": impl.ErrForm, "world b {} world c {} world c {}": impl.ErrForm, "interface b {} world b {}": impl.OK, "interface a {} world a {}": impl.OK,
		"interface b { f: func(); f: func(); }": impl.ErrForm, "interface b { f: func(); g: func(); f: async func() -> u8; }": impl.ErrForm, "interface b { f: func(); } interface c { f: func(); }": impl.OK, "interface b { f: func(); } interface c { f: func(); f: func(); }": impl.ErrForm,
		"interface b { resource x; resource x; }": impl.ErrForm, "interface b { type x = u8; type x = u8; }": impl.ErrForm, "interface b { resource x; type x = u8; }": impl.ErrForm, "interface b { type x = u8; f: func(); resource x; }": impl.ErrForm, "interface b { resource x; } interface c { resource x; }": impl.OK,
		"interface b { use c.{x}; type x = u8; }": impl.ErrForm, "interface b { use c.{y as x}; type x = u8; }": impl.ErrForm, "interface b { use c.{x as y}; type x = u8; }": impl.OK, "interface b { use c.{x as y}; resource y; }": impl.ErrForm, "interface b { resource x; use c.{x}; }": impl.ErrForm, "interface b { use c.{x, x}; }": impl.ErrForm, "interface b { use c.{x, y as x}; }": impl.ErrForm, "interface b { use c.{x as y, x as z}; }": impl.OK, "interface b { use c.{x as y, y as x}; }": impl.OK, "interface b { use c.{x, x as y}; }": impl.OK, "interface b { use c.{x}; use d.{x}; }": impl.ErrForm, "interface b { use c.{x as x}; }": impl.OK, "interface b { use c.{x as x, x}; }": impl.ErrForm, "interface b { use c.{x as y, z as y}; }": impl.ErrForm,
		"interface b { f: func(); type f = u8; }": impl.OK, "interface b { resource f; f: func(); }": impl.OK, "interface b { use c.{f}; f: func(); }": impl.OK, "interface b { use c.{g as f}; f: func(); g: func(); }": impl.OK, "interface b { type b = u8; b: func(b: b) -> b; }": impl.OK,
		"interface b { f: func(a: u8, a: u8); }": impl.OK, "interface b { type x = record { a: u8, a: u8 }; }": impl.OK, "interface b { type x = enum { a, a }; }": impl.OK, "world b { import a; import a; export a; include a; include a; }": impl.OK, "interface b { type x = x; use b.{y}; type y2 = z; }": impl.OK,
	} {
		source := "package a@1.0.0;\n" + body
		x, line, code := impl.ReadPackage(source)
		is(t, body, all(line, code, code == impl.OK || alike(x, impl.Package{})), 0, want, true)
		x, line, code = impl.ReadPackage(source + "\n}")
		is(t, body+" and a brace", all(line, code, alike(x, impl.Package{})), 3, impl.ErrParse, true)
	}
}

// TestP6PackageLines checks the line of each error: each source has its first wrong token behind an @@.
func TestP6PackageLines(t *testing.T) {
	const start = "package a@1.0.0; "
	inFace, inWorld := start+"interface b { ", start+"world b { "
	for _, s := range []string{
		"@@", "@@interface", "package @@", "package @@1", "package @@thirteen-byte", "package a @@;", "package a @ @@b", "package a @ @@1.0", "package a@@@01.0.0", "package a @ 1.0.0 @@", "package a @ 1.0.0 @@interface", "@@world", "package package @@package",
		start + "@@;", start + "@@package a@1.0.0;", start + "@@resource x;", start + "interface @@", start + "interface @@{", start + "interface @@thirteen-byte {", start + "interface b @@;", start + "interface b { @@", start + "interface b {} @@;", start + "interface b {} @@}", start + "world @@{", start + "world b @@", start + "world b @@;",
		inFace + "@@;", inFace + "@@1", inFace + "@@thirteen-byte", inFace + "f @@;", inFace + "f @@= u8", inFace + "f: @@", inFace + "f: @@fun()", inFace + "f: @@u8", inFace + "f: async @@()", inFace + "f: async @@async func()", inFace + "f: func @@;", inFace + "f: func( @@,", inFace + "f: func( @@1", inFace + "f: func(a @@)", inFace + "f: func(a: @@)", inFace + "f: func(a: u8 @@;", inFace + "f: func(a: u8, @@)", inFace + "f: func(a: u8 @@b: u8)", inFace + "f: func() @@}", inFace + "f: func() @@func", inFace + "f: func() @@: u8", inFace + "f: func() -> @@;", inFace + "f: func() -> @@_;", inFace + "f: func() -> u8 @@u8", inFace + "f: func() -> u8 @@}", inFace + "f: func(); @@;", inFace + "@@use.", inFace + "f: func(@@thirteen-byte: u8)",
		inFace + "resource @@;", inFace + "resource @@u8;", inFace + "resource @@list;", inFace + "resource @@thirteen-byte;", inFace + "resource x @@}", inFace + "resource x @@: func()", inFace + "resource x @@= u8", inFace + "resource @@1", inFace + "resource: @@x",
		inFace + "type @@;", inFace + "type @@u8 = u8;", inFace + "type @@own = u8;", inFace + "type x @@;", inFace + "type x @@: u8", inFace + "type x = @@;", inFace + "type x = @@_;", inFace + "type x = @@1;", inFace + "type x = u8 @@}", inFace + "type x = u8 @@<", inFace + "type x = x @@<", inFace + "type x = list @@;", inFace + "type x = list< @@>", inFace + "type x = list<u8 @@,", inFace + "type x = @@thirteen-byte;", inFace + "type: @@x = u8",
		inFace + "use @@;", inFace + "use @@.", inFace + "use a @@;", inFace + "use a @@{", inFace + "use a @@@1.0.0", inFace + "use a/ @@.", inFace + "use a/b @@/", inFace + "use a/b @ @@.", inFace + "use a/b @ @@1.0 . {", inFace + "use a/b @ @@1.0.0.0 . {", inFace + "use a/b@1.0.0 @@{", inFace + "use a. @@b", inFace + "use a.{ @@}", inFace + "use a.{ @@u8}", inFace + "use a.{b @@;", inFace + "use a.{b, @@}", inFace + "use a.{b as @@}", inFace + "use a.{b as @@list}", inFace + "use a.{b as c @@as", inFace + "use a.{b @@c}", inFace + "use a.{b} @@}", inFace + "use a.{b} @@as c", inFace + "use a.{b} @@.", inFace + "@@=",
		inWorld + "@@need b;", inWorld + "@@b;", inWorld + "@@;", inWorld + "import @@: func();", inWorld + "import @@;", inWorld + "import @@1", inWorld + "import a @@}", inWorld + "import a @@,", inWorld + "import a @@@1.0.0;", inWorld + "import a/ @@;", inWorld + "export a/b @@c", inWorld + "include a/b @ @@;", inWorld + "include a/b@1.0.0 @@.", inWorld + "import a; @@", inWorld + "@@use a;", inWorld + "@@resource r;", inWorld + "@@export-all b;", inWorld + "import @@thirteen-byte;",
	} {
		before, after, _ := strings.Cut(s, "@@")
		checkLine(t, "\n"+before+"\n\n"+after+"\n")
		_, line, code := impl.ReadPackage("\n" + before + "\n\n" + after)
		is(t, s, all(line, code), 4, impl.ErrParse)
	}
	for _, c := range []struct {
		source     string
		line, code int64
	}{
		{strings.Repeat("\n", 30001), 0, impl.ErrMany}, {start + "\n%", 2, impl.ErrParse}, {"nothing\n\n%", 3, impl.ErrParse}, {"nothing\n" + strings.Repeat("a\n", 3999) + "b", 4001, impl.ErrMany}, {"nothing\n" + strings.Repeat("a\n", 3999), 1, impl.ErrParse}, {start + "interface b {} interface b {}\n%", 2, impl.ErrParse}, {start + "\ninterface b {} interface b {}\n;", 3, impl.ErrParse}, {"", 1, impl.ErrParse}, {"\n\n", 3, impl.ErrParse}, {start + "interface b {\n// }", 2, impl.ErrParse}, {start + "interface b {\n// }\n\n", 4, impl.ErrParse},
	} {
		x, line, code := impl.ReadPackage(c.source)
		is(t, c.source[:min(len(c.source), 60)], all(alike(x, impl.Package{}), line, code), true, c.line, c.code)
	}
}

// checkLine compares ReadPackage with the model.
func checkLine(t *testing.T, s string) {
	t.Helper()
	x, line, code := impl.ReadPackage(s)
	wantLine, wantCode := modelOfSource(s, wholePackage)
	if wantCode == impl.OK && code == impl.ErrForm {
		wantCode = impl.ErrForm
		is(t, s, all(alike(x, impl.Package{})), true)
	}
	if line != wantLine || code != wantCode || code != impl.OK && !alike(x, impl.Package{}) {
		t.Errorf("ReadPackage(%q) returns line %d and code %d, want line %d and code %d", s, line, code, wantLine, wantCode)
	}
	if code == impl.OK && !constraint(x) {
		t.Errorf("ReadPackage(%q) ignores the constraint on names", s)
	}
}

// TestP6NestingLines checks that a type at the fifth level is turned down at its first token.
func TestP6NestingLines(t *testing.T) {
	for _, form := range []string{"list<@@u8>", "list<@@>", "list@@", "option<@@bed>", "stream<@@list<u8>>", "future<@@unit>", "tuple<@@u8,u8>", "tuple<@@result>", "result<@@u8>", "result<@@unit>", "result<@@result>", "result<@@,u8>", "result<_,@@u8>", "result<_,@@_>", "record{a:@@u8}", "record{a:@@unit}", "record{a:@@}", "variant{a(@@u8)}", "variant{a,b(@@unit)}", "variant{a,b(@@)}", "list<@@own<bed>>", "list<@@enum{a}>"} {
		before, after, _ := strings.Cut(form, "@@")
		for _, place := range []string{"type x = %;", "f: func(a: %);", "f: func(a: u8, b: %) -> u8;", "f: func() -> %;"} {
			for _, outer := range []string{"list<list<list<%>>>", "record{a:tuple<u8,variant{b,c(%)}>}", "result<_,result<u8,result<%>>>"} {
				s := strings.ReplaceAll(place, "%", strings.ReplaceAll(outer, "%", before+"\n"+after))
				source := "package a@1.0.0; interface b {\n" + s + "}"
				_, line, code := impl.ReadPackage(source)
				is(t, source, all(line, code), 3, impl.ErrParse)
				checkLine(t, source)
			}
		}
	}
	for _, form := range []string{"u8", "bed", "own<bed>", "result", "result<_>", "enum{a,b}", "flags{a}", "variant{a,b}"} {
		source := "package a@1.0.0; interface b { type x = list<list<list<" + form + ">>>; f: func(a: list<list<list<" + form + ">>>) -> list<list<list<" + form + ">>>; }"
		x, line, code := impl.ReadPackage(source)
		is(t, source, all(line, code, impl.PackageText(x)), 0, impl.OK, packageSource(x))
	}
}

// TestP6PackageLimits reaches each limit of the grammar, and exceeds it by one.
func TestP6PackageLimits(t *testing.T) {
	numbered := func(many int, form string) []string {
		var list []string
		for i := range many {
			list = append(list, strings.ReplaceAll(form, "%", "n"+strconv.Itoa(i)))
		}
		return list
	}
	inFace := "package a@1.0.0; interface b { "
	for _, c := range []struct {
		most                     int
		start, form, comma, stop string
		atComma                  bool
	}{
		{8, "package a@1.0.0; ", "interface % {}", " ", "", false}, {8, "package a@1.0.0; ", "world % {}", " ", "", false}, {8, "package a@1.0.0; ", "interface % {} world % {}", " ", "", false},
		{16, inFace, "resource %;", " ", "}", false}, {16, inFace, "type % = u8;", " ", "}", false}, {16, inFace, "use a.{%};", " ", "}", false}, {16, inFace, "%: func();", " ", "}", false}, {16, "package a@1.0.0; interface a {} world b { ", "import %;", " ", "}", false}, {16, "package a@1.0.0; world b { ", "include a/%;", " ", "}", false}, {16, "package a@1.0.0; world b { ", "export %;", " ", "}", false},
		{16, inFace + "use a.{", "%", ",", "};}", true}, {16, inFace + "use a.{", "x as %", ",", "};}", true}, {6, inFace + "f: func(", "%: u8", ",", ");}", true}, {6, inFace + "f: func(", "%: u8", ",", ") -> u8;}", true}, {6, inFace + "type x = tuple<", "%", ",", ">;}", true}, {16, inFace + "type x = record{", "%:u8", ",", "};}", true}, {16, inFace + "type x = variant{", "%", ",", "};}", true}, {16, inFace + "type x = variant{", "%(u8)", ",", "};}", true}, {16, inFace + "type x = enum{", "%", ",", "};}", true}, {16, inFace + "type x = flags{", "%", ",", "};}", true},
	} {
		list := numbered(c.most, c.form)
		source := c.start + strings.Join(list, c.comma) + c.stop
		x, line, code := impl.ReadPackage(source)
		is(t, source, all(line, code, impl.PackageOk(x), impl.PackageText(x)), 0, impl.OK, true, packageSource(x))
		next := strings.ReplaceAll(c.form, "%", "more")
		for _, source := range []string{c.start + strings.Join(list, c.comma) + "\n" + c.comma + "\n" + next + c.stop, c.start + strings.Join(list, c.comma) + "\n" + c.comma + "\n" + next} {
			want := int64(3)
			if c.atComma {
				want = 2
			}
			x, line, code := impl.ReadPackage(source)
			is(t, source, all(alike(x, impl.Package{}), line, code), true, want, impl.ErrParse)
			checkLine(t, source)
		}
	}
}

// TestP6PackageModel compares made-up packages and sources with the model.
func TestP6PackageModel(t *testing.T) {
	t.Parallel()
	r := rand.New(rand.NewSource(63))
	words := append(slices.Clone(someNames), "{", "}", "(", ")", "<", ">", ",", ";", ":", "=", ".", "/", "@", "_", "->", "1.2.3", "1.2", "thirteen-byte", "record", "variant", "enum", "tuple", "borrow")
	valid := 0
	for range 1500 {
		x := somePackage(r)
		s := packageSource(x)
		for _, source := range []string{s, scattered(r, s)} {
			y, line, code := impl.ReadPackage(source)
			if !constraint(x) {
				is(t, source, all(alike(y, impl.Package{}), line, code), true, 0, impl.ErrForm)
				continue
			}
			valid++
			is(t, source, all(alike(x, y), line, code, impl.PackageText(y)), true, 0, impl.OK, s)
		}
		is(t, s, all(impl.PackageOk(x), impl.SamePackage(x, roomy(x))), constraint(x), constraint(x))
		tokens, _, _ := modelOfTokens(s)
		for range 10 {
			var lines []string
			for _, token := range changedTokens(r, tokens, words) {
				lines = append(lines, token.Text)
			}
			checkLine(t, strings.Join(lines, "\n"))
		}
		checkLine(t, s[:r.Intn(len(s))])
	}
	if valid < 500 {
		t.Errorf("only %d valid packages", valid)
	}
}

func TestP6SamePackage(t *testing.T) {
	base := packaged(t, wardSource)
	is(t, "a package", all(impl.SamePackage(base, roomy(base)), impl.SamePackage(base, base), impl.SamePackage(impl.Package{}, impl.Package{})), true, true, false)
	empty := impl.Package{Name: "a", Version: "1.0.0"}
	is(t, "nil and empty slices", all(impl.SamePackage(empty, impl.Package{Name: "a", Version: "1.0.0", Faces: []impl.FaceDecl{}, Worlds: []impl.WorldDecl{}})), true)
	for i, do := range []func(x *impl.Package){
		func(x *impl.Package) { x.Name = "other" }, func(x *impl.Package) { x.Version = "1.2.1" }, func(x *impl.Package) { x.Faces = nil }, func(x *impl.Package) { x.Worlds = nil }, func(x *impl.Package) { x.Faces[0].Name = "other" }, func(x *impl.Package) { x.Worlds[0].Name = "other" },
		func(x *impl.Package) { x.Faces[0].Items = x.Faces[0].Items[:4] }, func(x *impl.Package) { x.Faces[0].Items[0].Name = "other" }, func(x *impl.Package) { x.Faces[0].Items[1].Name = "other" }, func(x *impl.Package) { x.Faces[0].Items[1].Term.Labels[0] = "other" }, func(x *impl.Package) { x.Faces[0].Items[1].Term.Kids[0].Kind = impl.TyU8 },
		func(x *impl.Package) { x.Faces[0].Items[2].From.Version = "" }, func(x *impl.Package) { x.Faces[0].Items[2].From = impl.Path{Name: "types"} }, func(x *impl.Package) { x.Faces[0].Items[2].Uses[0].As = "" }, func(x *impl.Package) { x.Faces[0].Items[2].Uses[1].Name = "other" }, func(x *impl.Package) { x.Faces[0].Items[2].Uses = x.Faces[0].Items[2].Uses[:1] },
		func(x *impl.Package) { x.Faces[0].Items[3].Name = "other" }, func(x *impl.Package) { x.Faces[0].Items[3].Async = true }, func(x *impl.Package) { x.Faces[0].Items[3].Params[0].Name = "other" }, func(x *impl.Package) { x.Faces[0].Items[3].Params[0].Term.Kind = impl.TyU8 }, func(x *impl.Package) { x.Faces[0].Items[3].Params = nil }, func(x *impl.Package) { x.Faces[0].Items[3].Term = impl.Term{Kind: impl.TyUnit} }, func(x *impl.Package) { x.Faces[0].Items[3].Term.Kind = impl.TyBorrow },
		func(x *impl.Package) { x.Worlds[0].Items[0].Kind = impl.WiExport }, func(x *impl.Package) { x.Worlds[0].Items[0].Path.Name = "other" }, func(x *impl.Package) { x.Worlds[0].Items[1].Path.Version = "1.0.0" }, func(x *impl.Package) { x.Worlds[0].Items = nil }, func(x *impl.Package) { x.Faces = append(x.Faces, impl.FaceDecl{Name: "more"}) }, func(x *impl.Package) { x.Worlds = append(x.Worlds, impl.WorldDecl{Name: "more"}) },
		func(x *impl.Package) { i := x.Faces[0].Items; i[3], i[4] = i[4], i[3] }, func(x *impl.Package) { i := x.Worlds[0].Items; i[0], i[1] = i[1], i[0] },
	} {
		other := roomy(base)
		do(&other)
		is(t, "change "+strconv.Itoa(i), all(impl.PackageOk(other), impl.PackageText(other), impl.SamePackage(base, other), impl.SamePackage(other, base), impl.SamePackage(other, other)), true, packageSource(other), false, false, true)
	}
}

// checkChange changes the package of chapter 6 and checks that everything says that it is invalid.
func checkChange(t *testing.T, what string, do func(x *impl.Package)) {
	t.Helper()
	x := roomy(packaged(t, wardSource))
	do(&x)
	checkNoPackage(t, what, x)
}

// TestP6NoPackageNames gives a package names, paths and versions that no source has.
func TestP6NoPackageNames(t *testing.T) {
	checkNoPackage(t, "nothing", impl.Package{})
	for _, s := range append(noNames(), "a ", " a", "a//", "a@1.0.0", "a\n") {
		what := strconv.Quote(s)
		checkChange(t, "the name "+what, func(x *impl.Package) { x.Name = s })
		checkChange(t, "the interface "+what, func(x *impl.Package) { x.Faces[0].Name = s })
		checkChange(t, "the world "+what, func(x *impl.Package) { x.Worlds[0].Name = s })
		for _, i := range []int{0, 1, 3, 4} {
			checkChange(t, "the item "+what, func(x *impl.Package) { x.Faces[0].Items[i].Name = s })
		}
		checkChange(t, "the parameter "+what, func(x *impl.Package) { x.Faces[0].Items[3].Params[1].Name = s })
		checkChange(t, "the used name "+what, func(x *impl.Package) { x.Faces[0].Items[2].Uses[1].Name = s })
		if s != "" {
			checkChange(t, "the alias "+what, func(x *impl.Package) { x.Faces[0].Items[2].Uses[0].As = s })
		}
		checkChange(t, "the path "+what, func(x *impl.Package) { x.Faces[0].Items[2].From.Name = s })
		checkChange(t, "the package of a path "+what, func(x *impl.Package) { x.Faces[0].Items[2].From.Package = s })
		checkChange(t, "the path of a world "+what, func(x *impl.Package) { x.Worlds[0].Items[0].Path.Name = s })
	}
	for _, s := range kindWords {
		checkChange(t, "a reserved resource", func(x *impl.Package) { x.Faces[0].Items[0].Name = s })
		checkChange(t, "a reserved type", func(x *impl.Package) { x.Faces[0].Items[1].Name = s })
		checkChange(t, "a reserved used name", func(x *impl.Package) { x.Faces[0].Items[2].Uses[1].Name = s })
		checkChange(t, "a reserved alias", func(x *impl.Package) { x.Faces[0].Items[2].Uses[0].As = s })
	}
	for _, s := range append(noVersions(), "1.0.0;", "1.0.0//") {
		checkChange(t, "the version "+s, func(x *impl.Package) { x.Version = s })
		if s != "" {
			checkChange(t, "the version of a path "+s, func(x *impl.Package) { x.Faces[0].Items[2].From.Version = s })
			checkChange(t, "the version of a path in a world "+s, func(x *impl.Package) { x.Worlds[0].Items[1].Path.Version = s })
		}
	}
	checkChange(t, "a version without a package", func(x *impl.Package) { x.Worlds[0].Items[0].Path.Version = "1.0.0" })
	checkChange(t, "two items in a name", func(x *impl.Package) { x.Faces[0].Items[0].Name = "bed; resource desk" })
	checkChange(t, "two items in a path", func(x *impl.Package) { x.Worlds[0].Items[0].Path.Name = "beds; import labs" })
	checkChange(t, "an alias in a name", func(x *impl.Package) { x.Faces[0].Items[2].Uses[1].Name = "size as big" })
	checkChange(t, "a result in a parameter", func(x *impl.Package) { x.Faces[0].Items[3].Params[1].Term.Name = "hue) -> u8; g: func(a: hue" })
}

// TestP6NoPackageItems gives the items of a package kinds that there are not, and fields that their kinds do not use.
func TestP6NoPackageItems(t *testing.T) {
	u8, unit := impl.Term{Kind: impl.TyU8}, impl.Term{Kind: impl.TyUnit}
	for _, kind := range []int64{0, -1, 5, 1<<32 + 1, math.MaxInt64, math.MinInt64} {
		checkChange(t, "an item kind", func(x *impl.Package) { x.Faces[0].Items[0].Kind = kind })
		checkChange(t, "an item of no kind", func(x *impl.Package) { x.Faces[0].Items[0] = impl.Item{Kind: kind} })
	}
	for _, kind := range []int64{0, -1, 4, 1<<32 + 1, math.MaxInt64, math.MinInt64} {
		checkChange(t, "a world item kind", func(x *impl.Package) { x.Worlds[0].Items[0].Kind = kind })
	}
	fields := map[string]func(x *impl.Item){
		"name": func(x *impl.Item) { x.Name = "other" }, "term": func(x *impl.Item) { x.Term = u8 }, "unit": func(x *impl.Item) { x.Term = unit }, "params": func(x *impl.Item) { x.Params = []impl.TermParam{{Name: "a", Term: u8}} }, "async": func(x *impl.Item) { x.Async = true },
		"package": func(x *impl.Item) { x.From.Package = "a" }, "path": func(x *impl.Item) { x.From.Name = "a" }, "version": func(x *impl.Item) { x.From.Version = "1.0.0" }, "uses": func(x *impl.Item) { x.Uses = []impl.UseName{{Name: "a"}} }, "empty-use": func(x *impl.Item) { x.Uses = []impl.UseName{{}} }, "empty-param": func(x *impl.Item) { x.Params = []impl.TermParam{{}} },
		"label-in-term": func(x *impl.Item) { x.Term.Labels = append(x.Term.Labels, "a") }, "name-in-term": func(x *impl.Item) { x.Term.Name = "u8" },
	}
	used := map[int64]string{impl.ItResource: "name", impl.ItType: "name term unit", impl.ItUse: "package path version uses", impl.ItFunc: "name term unit params async"}
	for i, kind := range []int64{impl.ItResource, impl.ItType, impl.ItUse, impl.ItFunc} {
		for field, do := range fields {
			if !slices.Contains(strings.Fields(used[kind]), field) {
				checkChange(t, "kind "+strconv.FormatInt(kind, 10)+" with "+field, func(x *impl.Package) { do(&x.Faces[0].Items[i]) })
			}
		}
	}
	checkChange(t, "a unit with a name", func(x *impl.Package) { x.Faces[0].Items[4].Term.Name = "a" })
	checkChange(t, "a function without a result", func(x *impl.Package) { x.Faces[0].Items[4].Term = impl.Term{} })
	checkChange(t, "a type without a term", func(x *impl.Package) { x.Faces[0].Items[1].Term = impl.Term{} })
	checkChange(t, "no used names", func(x *impl.Package) { x.Faces[0].Items[2].Uses = nil })
	checkChange(t, "names used twice", func(x *impl.Package) { x.Faces[0].Items[2].Uses[1].Name = "hue" })
	checkChange(t, "two functions of a name", func(x *impl.Package) { x.Faces[0].Items[4].Name = "take" })
	checkChange(t, "two types of a name", func(x *impl.Package) { x.Faces[0].Items[1].Name = "bed" })
	checkChange(t, "a type and an alias of a name", func(x *impl.Package) { x.Faces[0].Items[1].Name = "hue" })
	checkChange(t, "two interfaces of a name", func(x *impl.Package) { x.Faces = append(x.Faces, impl.FaceDecl{Name: "beds"}) })
	checkChange(t, "two worlds of a name", func(x *impl.Package) { x.Worlds = append(x.Worlds, impl.WorldDecl{Name: "main"}) })
}

// TestP6PackageTreeLimits gives a package as many parts as there can be, and one more.
func TestP6PackageTreeLimits(t *testing.T) {
	item := func(x impl.Item) impl.Package {
		return impl.Package{Name: "a", Version: "1.0.0", Faces: []impl.FaceDecl{{Name: "f", Items: []impl.Item{x}}}}
	}
	grow := map[string]func(x *impl.Package, name string){
		"interfaces": func(x *impl.Package, name string) { x.Faces = append(x.Faces, impl.FaceDecl{Name: name}) },
		"worlds":     func(x *impl.Package, name string) { x.Worlds = append(x.Worlds, impl.WorldDecl{Name: name}) },
		"items": func(x *impl.Package, name string) {
			x.Faces[0].Items = append(x.Faces[0].Items, impl.Item{Kind: impl.ItResource, Name: name})
		},
		"world items": func(x *impl.Package, name string) {
			x.Worlds[0].Items = append(x.Worlds[0].Items, impl.WorldItem{Kind: impl.WiImport, Path: impl.Path{Name: name}})
		},
		"names": func(x *impl.Package, name string) {
			x.Faces[0].Items[0].Uses = append(x.Faces[0].Items[0].Uses, impl.UseName{Name: name})
		},
		"parameters": func(x *impl.Package, name string) {
			x.Faces[0].Items[0].Params = append(x.Faces[0].Items[0].Params, impl.TermParam{Name: name, Term: impl.Term{Kind: impl.TyU8}})
		},
	}
	for _, c := range []struct {
		what  string
		most  int
		start impl.Package
	}{
		{"interfaces", 8, impl.Package{Name: "a", Version: "1.0.0"}}, {"worlds", 8, impl.Package{Name: "a", Version: "1.0.0"}},
		{"items", 16, impl.Package{Name: "a", Version: "1.0.0", Faces: []impl.FaceDecl{{Name: "f"}}}}, {"world items", 16, impl.Package{Name: "a", Version: "1.0.0", Worlds: []impl.WorldDecl{{Name: "w"}}}},
		{"names", 16, item(impl.Item{Kind: impl.ItUse, From: impl.Path{Name: "b"}})}, {"parameters", 6, item(impl.Item{Kind: impl.ItFunc, Name: "f", Term: impl.Term{Kind: impl.TyUnit}})},
	} {
		x := c.start
		for i := range c.most {
			grow[c.what](&x, "n"+strconv.Itoa(i))
		}
		is(t, c.what, all(impl.PackageText(x)), packageSource(x))
		grow[c.what](&x, "more")
		checkNoPackage(t, "too many "+c.what, x)
	}
}

// deepTerms are terms of very many levels or parts, and terms whose Kids share memory or contain themselves.
func deepTerms() []impl.Term {
	u8 := impl.Term{Kind: impl.TyU8}
	nest := func(kind int64, levels int) impl.Term {
		x := u8
		for range levels {
			x = impl.Term{Kind: kind, Kids: []impl.Term{x}}
			switch kind {
			case impl.TyResult:
				x.Kids = append(x.Kids, impl.Term{Kind: impl.TyUnit})
			case impl.TyRecord, impl.TyVariant:
				x.Labels = []string{""}
			}
		}
		return x
	}
	circle := []impl.Term{{Kind: impl.TyTuple}, {Kind: impl.TyStream}}
	circle[0].Kids, circle[1].Kids = circle, circle[:1]
	silent := []impl.Term{{Kind: impl.TyEnum, Labels: []string{"a"}}, {Kind: 0}, {Kind: impl.TeName}, {Kind: impl.TyUnit}}
	for i := range silent {
		silent[i].Kids = silent
	}
	double := u8
	for range 90 {
		double = impl.Term{Kind: impl.TyTuple, Kids: []impl.Term{double, double}}
	}
	wide := u8
	for range 5 {
		wide = impl.Term{Kind: impl.TyTuple, Kids: slices.Repeat([]impl.Term{wide}, 1000)}
	}
	return []impl.Term{
		nest(impl.TyList, 10000), nest(impl.TyOption, 1000000), nest(impl.TyResult, 100000), nest(impl.TyRecord, 100000), nest(impl.TyVariant, 100000), nest(impl.TyTuple, 5), nest(0, 10000), nest(impl.TeName, 10000), nest(impl.TyEnum, 10000), nest(math.MaxInt64, 10000), nest(impl.TyOwn, 10000),
		circle[0], circle[1], silent[0], silent[1], silent[2], silent[3], double, wide,
		{Kind: impl.TyTuple, Kids: slices.Repeat([]impl.Term{u8}, 100000)}, {Kind: impl.TyTuple, Kids: slices.Repeat([]impl.Term{{Kind: impl.TeName}}, 100000)}, {Kind: impl.TyEnum, Labels: slices.Repeat([]string{"a"}, 100000)}, {Kind: impl.TyFlags, Labels: make([]string, 100000)}, {Kind: impl.TyOwn, Name: strings.Repeat("a", 100000)}, {Kind: impl.TeName, Name: strings.Repeat("a", 10000000)},
	}
}

func TestP1DeepTerms(t *testing.T) {
	for i, x := range deepTerms() {
		checkNoTerm(t, "deep term "+strconv.Itoa(i), x)
		checkNoTerm(t, "deep term "+strconv.Itoa(i)+" in a list", impl.Term{Kind: impl.TyList, Kids: []impl.Term{x}})
	}
	items := slices.Repeat([]impl.Item{{Kind: impl.ItResource}}, 100000)
	checkNoPackage(t, "many items", impl.Package{Name: "a", Version: "1.0.0", Faces: slices.Repeat([]impl.FaceDecl{{Name: "b", Items: items}}, 1000)})
	checkNoPackage(t, "many interfaces", impl.Package{Name: "a", Version: "1.0.0", Faces: make([]impl.FaceDecl, 100000), Worlds: make([]impl.WorldDecl, 100000)})
	checkNoPackage(t, "many names", impl.Package{Name: "a", Version: "1.0.0", Faces: []impl.FaceDecl{{Name: "b", Items: []impl.Item{{Kind: impl.ItUse, From: impl.Path{Name: "c"}, Uses: make([]impl.UseName, 100000)}, {Kind: impl.ItFunc, Params: make([]impl.TermParam, 100000)}}}}})
	for _, unit := range []string{"list<", "tuple<u8,", "record{a:", "variant{a(", "result<_,", "own<", "package a@1.0.0;", "interface b{", "world b{", "f:func(", "a/", "a@1.0.0", "use a.{", "->", "//", "{", "}"} {
		for _, many := range []int{100, 1000, 100000} {
			s := strings.Repeat(unit, many)
			for _, source := range []string{s, "package a@1.0.0; interface b { type x = " + s, "package a@1.0.0; world w {" + s} {
				x, code := impl.ReadTerm(source)
				p, pCode := impl.ReadPath(source)
				y, _, yCode := impl.ReadPackage(source)
				if unit != "//" {
					is(t, "a long source", all(code == impl.OK, pCode == impl.OK, yCode == impl.OK, alike(x, impl.Term{}), p == impl.Path{}, alike(y, impl.Package{})), false, false, false, true, true, true)
				}
			}
		}
	}
}

func TestP1Language(t *testing.T) {
	r := rand.New(rand.NewSource(64))
	for range 100 {
		x, p := someTerm(r, 4), somePackage(r)
		pure(t, "terms", x, func(x impl.Term) []any {
			return all(impl.TermOk(x), impl.TermText(x), impl.SameTerm(x, x), impl.SameTerm(x, impl.Term{Kind: impl.TyU8}))
		})
		pure(t, "packages", p, func(p impl.Package) []any {
			return all(impl.PackageOk(p), impl.PackageText(p), impl.SamePackage(p, p), impl.SamePackage(p, impl.Package{Name: "a", Version: "1.0.0"}))
		})
		for _, s := range []string{termSource(x), packageSource(p), scattered(r, packageSource(p)), packageSource(p)[r.Intn(20):]} {
			pure(t, "sources", s, func(s string) []any {
				x, xCode := impl.ReadTerm(s)
				y, line, yCode := impl.ReadPackage(s)
				z, zCode := impl.ReadPath(s)
				return all(x, xCode, y, line, yCode, z, zCode, impl.Reserved(s))
			})
		}
	}
	for _, x := range []impl.Term{{}, {Kind: impl.TyRecord, Labels: []string{"a"}}, {Kind: impl.TyResult}, {Kind: impl.TyEnum, Labels: []string{"%"}, Kids: []impl.Term{{Kind: 99}}}} {
		pure(t, "invalid terms", x, func(x impl.Term) []any { return all(impl.TermOk(x), impl.TermText(x), impl.SameTerm(x, x)) })
		p := impl.Package{Name: "a", Version: "1.0.0", Faces: []impl.FaceDecl{{Name: "b", Items: []impl.Item{{Kind: impl.ItFunc, Name: "f", Params: []impl.TermParam{{Name: "a", Term: x}}, Term: x}}}}}
		pure(t, "invalid packages", p, func(p impl.Package) []any {
			return all(impl.PackageOk(p), impl.PackageText(p), impl.SamePackage(p, p))
		})
	}
	for _, p := range []impl.Path{{}, {Name: "a"}, {Package: "a", Name: "b", Version: "1.0.0"}, {Version: "x"}, {Name: strings.Repeat("a/", 100000)}} {
		pure(t, "paths", p, func(p impl.Path) []any { return all(impl.PathText(p)) })
	}
}
