package tests

import (
	"maps"
	"math"
	"math/rand"
	"slices"
	"strconv"
	"strings"
	"testing"

	"loop.example/g00901/impl"
)

// resolution is the model of chapter 7: it goes through the steps of the document, remembers no result, and panics with
// the problem that it meets.
type resolution struct {
	list             []impl.Package
	busy             []string
	choices          []impl.Choice
	imports, exports []modelFace
}

// modelFace is an interface that package k declares.
type modelFace struct {
	k    int
	decl impl.FaceDecl
}

// declared is what an interface says of a name that it declares.
type declared struct {
	kind     int64
	term     impl.Term
	from     impl.Path
	original string
}

func stop(code int64, where string) {
	panic(impl.Problem{Code: code, Where: where})
}

// problemIn returns the problem with which f stops.
func problemIn(f func()) (problem impl.Problem) {
	defer func() {
		if p := recover(); p != nil {
			problem = p.(impl.Problem)
		}
	}()
	f()
	return problem
}

func placeOf(x impl.Package, names ...string) string {
	return x.Name + "@" + x.Version + "/" + strings.Join(names, ".")
}

func servesModel(have, want string) bool {
	h, hOk := modelOf(have)
	w, wOk := modelOf(want)
	if !hOk || !wOk || h < w || h/1000000 != w/1000000 {
		return false
	}
	return h >= 1000000 || h/1000 == w/1000
}

// pickModel selects a package of a valid set.
func pickModel(list []impl.Package, name, want string) (int64, int64, int64) {
	if _, ok := modelOf(want); want != "" && !ok {
		return 0, 0, impl.ErrForm
	}
	var named, fit []int
	for i, x := range list {
		if x.Name == name {
			named = append(named, i)
			if want == "" || servesModel(x.Version, want) {
				fit = append(fit, i)
			}
		}
	}
	if len(named) == 0 {
		return 0, 0, impl.ErrNone
	}
	if len(fit) == 0 {
		return 0, 0, impl.ErrVersion
	}
	best := slices.MaxFunc(fit, func(i, j int) int {
		a, _ := modelOf(list[i].Version)
		b, _ := modelOf(list[j].Version)
		return int(a - b)
	})
	why := int64(impl.WyNewer)
	if want == "" {
		why = impl.WyNewest
	} else if list[best].Version == want {
		why = impl.WyExact
	}
	return int64(best), why, impl.OK
}

func (m *resolution) path(k int, p impl.Path) (int, impl.Choice) {
	if p.Package == "" {
		return k, impl.Choice{Path: p, Version: m.list[k].Version, Why: impl.WyOwn}
	}
	i, why, code := pickModel(m.list, p.Package, p.Version)
	if code != impl.OK {
		stop(code, pathSource(p))
	}
	return int(i), impl.Choice{Path: p, Version: m.list[i].Version, Why: why}
}

func (m *resolution) faceNamed(k int, name string) modelFace {
	for _, f := range m.list[k].Faces {
		if f.Name == name {
			return modelFace{k, f}
		}
	}
	stop(impl.ErrNone, placeOf(m.list[k], name))
	return modelFace{}
}

// namesIn returns the types that an interface declares.
func namesIn(f impl.FaceDecl) map[string]declared {
	names := map[string]declared{}
	for _, x := range f.Items {
		switch x.Kind {
		case impl.ItResource, impl.ItType:
			names[x.Name] = declared{kind: x.Kind, term: x.Term}
		case impl.ItUse:
			for _, u := range x.Uses {
				names[append(strings.Fields(u.As), u.Name)[0]] = declared{impl.ItUse, impl.Term{}, x.From, u.Name}
			}
		}
	}
	return names
}

// during does something while a name or world is busy.
func (m *resolution) during(where string, do func()) {
	if slices.Contains(m.busy, where) {
		stop(impl.ErrCycle, where)
	}
	m.busy = append(m.busy, where)
	do()
	m.busy = m.busy[:len(m.busy)-1]
}

func (m *resolution) name(f modelFace, name string) (u impl.Type) {
	where := placeOf(m.list[f.k], f.decl.Name, name)
	n, ok := namesIn(f.decl)[name]
	if !ok {
		stop(impl.ErrNone, where)
	}
	m.during(where, func() {
		switch n.kind {
		case impl.ItResource:
			u = impl.Type{Kind: impl.TyOwn, Name: name}
		case impl.ItType:
			u = m.valid(f, n.term, where)
		default:
			i, _ := m.path(f.k, n.from)
			u = m.name(m.faceNamed(i, n.from.Name), n.original)
			if text := printed(u); strings.Contains(text, "own<") || strings.Contains(text, "borrow<") {
				stop(impl.ErrType, where)
			}
		}
	})
	return u
}

func (m *resolution) term(f modelFace, x impl.Term) impl.Type {
	if x.Kind == impl.TeName {
		return m.name(f, x.Name)
	}
	if x.Kind == impl.TyOwn || x.Kind == impl.TyBorrow {
		n, ok := namesIn(f.decl)[x.Name]
		if !ok {
			stop(impl.ErrNone, placeOf(m.list[f.k], f.decl.Name, x.Name))
		}
		if n.kind != impl.ItResource {
			stop(impl.ErrType, placeOf(m.list[f.k], f.decl.Name, x.Name))
		}
	}
	u := impl.Type{Kind: x.Kind, Name: x.Name, Labels: x.Labels}
	for _, kid := range x.Kids {
		u.Kids = append(u.Kids, m.term(f, kid))
	}
	return u
}

// sizesOf returns the depth and the parts of a type, which may be invalid.
func sizesOf(u impl.Type) (int, int) {
	deep, parts := 0, 1
	for _, kid := range u.Kids {
		d, p := sizesOf(kid)
		deep, parts = max(deep, d), parts+p
	}
	return deep + 1, parts
}

func (m *resolution) valid(f modelFace, x impl.Term, where string) impl.Type {
	u := m.term(f, x)
	if deep, parts := sizesOf(u); deep > 4 || parts > 24 {
		stop(impl.ErrMany, where)
	}
	if _, ok := modelOfType(printed(u)); !ok {
		stop(impl.ErrType, where)
	}
	return u
}

// printedFunc is what the text form of a function type is if it is valid.
func printedFunc(f impl.FuncType) string {
	var params []string
	for _, p := range f.Params {
		params = append(params, p.Name+":"+printed(p.Type))
	}
	text := "func(" + strings.Join(params, ",") + ")"
	if f.Async {
		text = "async " + text
	}
	if f.Result.Kind != impl.TyUnit {
		text += "->" + printed(f.Result)
	}
	return text
}

func (m *resolution) face(f modelFace) impl.Face {
	x := m.list[f.k]
	found := impl.Face{Package: x.Name, Name: f.decl.Name, Version: x.Version}
	funcs := map[string]impl.FuncType{}
	for _, i := range f.decl.Items {
		where := placeOf(x, f.decl.Name, i.Name)
		switch i.Kind {
		case impl.ItResource:
			found.Resources = append(found.Resources, i.Name)
			if len(found.Resources) > 4 {
				stop(impl.ErrMany, where)
			}
		case impl.ItType:
			m.name(f, i.Name)
		case impl.ItUse:
			for _, u := range i.Uses {
				m.name(f, append(strings.Fields(u.As), u.Name)[0])
			}
		case impl.ItFunc:
			if len(funcs) == 8 {
				stop(impl.ErrMany, where)
			}
			g := impl.FuncType{Async: i.Async}
			for _, p := range i.Params {
				g.Params = append(g.Params, impl.Param{Name: p.Name, Type: m.valid(f, p.Term, where)})
			}
			g.Result = m.valid(f, i.Term, where)
			if !modelOfFunc(printedFunc(g)) {
				stop(impl.ErrType, where)
			}
			funcs[i.Name] = g
		}
	}
	slices.Sort(found.Resources)
	for _, name := range slices.Sorted(maps.Keys(funcs)) {
		found.Funcs = append(found.Funcs, impl.Func{Name: name, Type: funcs[name]})
	}
	return found
}

func (m *resolution) visit(k int, name string) {
	where := placeOf(m.list[k], name)
	at := slices.IndexFunc(m.list[k].Worlds, func(w impl.WorldDecl) bool { return w.Name == name })
	if at < 0 {
		stop(impl.ErrNone, where)
	}
	m.during(where, func() {
		for _, x := range m.list[k].Worlds[at].Items {
			if len(m.choices) >= 1000 {
				stop(impl.ErrMany, where)
			}
			i, choice := m.path(k, x.Path)
			m.choices = append(m.choices, choice)
			if x.Kind == impl.WiInclude {
				m.visit(i, x.Path.Name)
				continue
			}
			f := m.faceNamed(i, x.Path.Name)
			m.face(f)
			if x.Kind == impl.WiImport {
				m.imports = m.added(m.imports, f)
			} else {
				m.exports = m.added(m.exports, f)
			}
		}
	})
}

func (m *resolution) added(list []modelFace, f modelFace) []modelFace {
	where := placeOf(m.list[f.k], f.decl.Name)
	same := slices.IndexFunc(list, func(g modelFace) bool {
		return m.list[g.k].Name == m.list[f.k].Name && g.decl.Name == f.decl.Name
	})
	if same < 0 {
		list = append(list, f)
	} else {
		old, new := m.list[list[same].k].Version, m.list[f.k].Version
		switch {
		case servesModel(old, new):
		case servesModel(new, old):
			list[same] = f
		default:
			stop(impl.ErrVersion, where)
		}
	}
	if len(list) > 6 {
		stop(impl.ErrMany, where)
	}
	return list
}

// facesIn returns resolved interfaces in the order of a world.
func (m *resolution) facesIn(list []modelFace) []impl.Face {
	found := map[string]impl.Face{}
	for _, f := range list {
		g := m.face(f)
		found[g.Package+" "+g.Name] = g
	}
	var faces []impl.Face
	for _, key := range slices.Sorted(maps.Keys(found)) {
		faces = append(faces, found[key])
	}
	return faces
}

// leans returns the locations of the interfaces that list depends on.
func (m *resolution) leans(list []modelFace) []string {
	found := map[string]bool{}
	for len(list) > 0 {
		f := list[0]
		list = list[1:]
		where := placeOf(m.list[f.k], f.decl.Name)
		if found[where] {
			continue
		}
		found[where] = true
		for _, x := range f.decl.Items {
			if x.Kind != impl.ItUse {
				continue
			}
			problemIn(func() {
				i, _ := m.path(f.k, x.From)
				list = append(list, m.faceNamed(i, x.From.Name))
			})
		}
	}
	return slices.Sorted(maps.Keys(found))
}

// setOf reads packages that the test needs.
func setOf(t *testing.T, sources ...string) []impl.Package {
	t.Helper()
	var list []impl.Package
	for _, s := range sources {
		list = append(list, packaged(t, s))
	}
	return list
}

// problemText is what the tables of this file say of a problem.
func problemText(p impl.Problem) string {
	return strings.TrimSuffix(impl.CodeWord(p.Code)+" "+p.Where, " ")
}

// faceText is what the tables of this file say of an interface.
func faceText(f impl.Face) string {
	list := slices.Clone(f.Resources)
	for _, g := range f.Funcs {
		list = append(list, g.Name+": "+printedFunc(g.Type))
	}
	return f.Package + "@" + f.Version + "/" + f.Name + " {" + strings.Join(list, "; ") + "}"
}

// faceIn returns what FaceIn says, and checks that it says nothing else.
func faceIn(t *testing.T, list []impl.Package, k int64, face string) string {
	t.Helper()
	f, problem := impl.FaceIn(list, k, face)
	is(t, face, all(impl.FaceOk(f), alike(f, impl.Face{})), problem.Code == impl.OK, problem.Code != impl.OK)
	if problem.Code != impl.OK {
		return problemText(problem)
	}
	is(t, face, all(problem == impl.Problem{}), true)
	return faceText(f)
}

// typeIn returns what TypeIn says, and checks that it says nothing else.
func typeIn(t *testing.T, list []impl.Package, k int64, face string, x impl.Term) string {
	t.Helper()
	u, problem := impl.TypeIn(list, k, face, x)
	is(t, face, all(impl.TypeOk(u), alike(u, impl.Type{})), problem.Code == impl.OK, problem.Code != impl.OK)
	if problem.Code != impl.OK {
		return problemText(problem)
	}
	is(t, face, all(problem == impl.Problem{}), true)
	return printed(u)
}

// worldIn returns what WorldIn says, and checks that ChoicesIn and LeansOf say the same.
func worldIn(t *testing.T, list []impl.Package, k int64, world string) string {
	t.Helper()
	w, problem := impl.WorldIn(list, k, world)
	choices, choicesProblem := impl.ChoicesIn(list, k, world)
	leans, leansProblem := impl.LeansOf(list, k, world)
	is(t, world, all(problem == choicesProblem, problem == leansProblem), true, true)
	if problem.Code != impl.OK {
		is(t, world, all(alike(w, impl.World{}), len(choices) == 0, len(leans) == 0), true, true, true)
		return problemText(problem)
	}
	is(t, world, all(problem == impl.Problem{}, impl.WorldOk(w), w.Package, w.Version, w.Name), true, true, list[k].Name, list[k].Version, world)
	var text []string
	for _, f := range w.Imports {
		text = append(text, "import "+faceText(f))
	}
	for _, f := range w.Exports {
		text = append(text, "export "+faceText(f))
	}
	return strings.Join(text, "\n")
}

func TestP7ResolveConstants(t *testing.T) {
	is(t, "constants", all(int64(impl.MaxPackages), int64(impl.MaxFaces), int64(impl.WyOwn), int64(impl.WyExact), int64(impl.WyNewer), int64(impl.WyNewest)), 8, 6, 1, 2, 3, 4)
}

// badPackages are no packages.
func badPackages(t *testing.T) []impl.Package {
	ward := func(do func(x *impl.Package)) impl.Package {
		x := packaged(t, wardSource)
		do(&x)
		return x
	}
	return []impl.Package{
		{}, {Name: "a"}, {Version: "1.0.0"}, {Name: "A", Version: "1.0.0"}, {Name: "a", Version: "1.0"}, {Name: "a", Version: "1.0.0", Faces: []impl.FaceDecl{{}}}, {Name: "a", Version: "1.0.0", Faces: []impl.FaceDecl{{Name: "f"}, {Name: "f"}}}, {Name: "a", Version: "1.0.0", Faces: make([]impl.FaceDecl, 9)},
		ward(func(x *impl.Package) { x.Faces[0].Items[0].Kind = 9 }), ward(func(x *impl.Package) { x.Faces[0].Items[0].Async = true }), ward(func(x *impl.Package) { x.Faces[0].Items[0].Term.Kind = impl.TyU8 }), ward(func(x *impl.Package) { x.Faces[0].Items[1].Name = "bed" }), ward(func(x *impl.Package) { x.Faces[0].Items[1].Term.Kids = nil }), ward(func(x *impl.Package) { x.Worlds[0].Items[0].Kind = 0 }), ward(func(x *impl.Package) { x.Worlds[0].Items[0].Path.Version = "1.0.0" }),
	}
}

func TestP7PackagesCode(t *testing.T) {
	ward := packaged(t, wardSource)
	is(t, "good sets", all(impl.PackagesCode(nil), impl.PackagesCode([]impl.Package{}), impl.PackagesCode([]impl.Package{ward})), impl.OK, impl.OK, impl.OK)
	eight := setOf(t, "package a@1.0.0;", "package a@1.0.1;", "package a@1.1.0;", "package a@2.0.0;", "package b@1.0.0;", "package b@1.0.1;", "package a-1@1.0.0;", "package a@0.0.0;")
	is(t, "eight packages", all(impl.PackagesCode(eight), impl.PackagesCode(append(eight[:7:7], ward))), impl.OK, impl.OK)
	is(t, "nine packages", all(impl.PackagesCode(append(eight[:8:8], ward)), impl.PackagesCode(make([]impl.Package, 9)), impl.PackagesCode(append(eight[:8:8], eight[0])), impl.PackagesCode(make([]impl.Package, 100000))), impl.ErrMany, impl.ErrMany, impl.ErrMany, impl.ErrMany)
	for i := range 8 {
		for j := range 8 {
			twice := slices.Clone(eight)
			twice[i] = twice[j]
			want := int64(impl.ErrForm)
			if i == j {
				want = impl.OK
			}
			is(t, "a package twice", all(impl.PackagesCode(twice)), want)
		}
	}
	other := eight[1]
	other.Faces = []impl.FaceDecl{{Name: "f"}}
	is(t, "two packages of one name and version", all(impl.PackagesCode(append(eight[:3:3], other))), impl.ErrForm)
	for i, bad := range badPackages(t) {
		for _, list := range [][]impl.Package{{bad}, {bad, ward}, {ward, bad}, append(eight[:7:7], bad)} {
			is(t, "bad package "+strconv.Itoa(i), all(impl.PackagesCode(list)), impl.ErrForm)
		}
		is(t, "nine with bad package "+strconv.Itoa(i), all(impl.PackagesCode(append(eight[:8:8], bad))), impl.ErrMany)
	}
}

// answersOf are the texts of what all functions say that take a set of packages.
func answersOf(t *testing.T, list []impl.Package, k int64) []string {
	t.Helper()
	i, choice, problem := impl.PathIn(list, k, impl.Path{Name: "f"})
	is(t, "PathIn", all(i, choice == impl.Choice{}), 0, true)
	bad, choice, badProblem := impl.PathIn(list, k, impl.Path{})
	is(t, "PathIn", all(bad, choice == impl.Choice{}), 0, true)
	answers := []string{problemText(problem), problemText(badProblem), faceIn(t, list, k, "f"), faceIn(t, list, k, "")}
	for _, x := range []impl.Term{{Kind: impl.TyU8}, {}} {
		answers = append(answers, typeIn(t, list, k, "f", x), typeIn(t, list, k, "none", x))
	}
	return append(answers, worldIn(t, list, k, "w"), worldIn(t, list, k, ""))
}

// TestP7CommonChecks gives all functions sets that are not valid, and then indices that there are not.
func TestP7CommonChecks(t *testing.T) {
	good := packaged(t, "package a@1.0.0; interface f {} world w {}")
	for _, k := range []int64{0, 1, -1, 2, 9, math.MaxInt64, math.MinInt64} {
		sets := map[string][][]impl.Package{"many": {make([]impl.Package, 9), slices.Repeat([]impl.Package{good}, 9)}, "form": {{good, good}}}
		for _, bad := range badPackages(t) {
			sets["form"] = append(sets["form"], []impl.Package{bad}, []impl.Package{good, bad})
		}
		for want, lists := range sets {
			for _, list := range lists {
				for i, got := range answersOf(t, list, k) {
					is(t, want+" "+strconv.Itoa(i), all(got), want)
				}
				for _, request := range []string{"", "1.0.0", "x"} {
					i, why, code := impl.PickPackage(list, "a", request)
					is(t, want, all(i, why, impl.CodeWord(code)), 0, 0, want)
				}
			}
		}
	}
	for _, list := range [][]impl.Package{nil, {good}, setOf(t, "package a@1.0.0;", "package b@1.0.0;")} {
		for _, k := range []int64{int64(len(list)), -1, int64(len(list)) + 1, 1 << 32, 1<<32 + 1, math.MaxInt64, math.MinInt64} {
			for i, got := range answersOf(t, list, k) {
				is(t, "index "+strconv.FormatInt(k, 10)+" "+strconv.Itoa(i), all(got), "range")
			}
		}
	}
}

func TestP7PickPackage(t *testing.T) {
	bases := setOf(t, "package base@1.0.0;", "package base@1.2.0;", "package base@2.0.0;")
	mixed := setOf(t, "package a@0.2.1;", "package b@1.0.0;", "package a@0.1.9;", "package a@0.2.10;", "package a@1.9.0;", "package a@1.10.0;", "package a@0.0.0;", "package a@10.0.0;")
	for _, c := range []struct {
		list         []impl.Package
		name, want   string
		k, why, code int64
	}{
		{bases, "base", "1.0.0", 1, impl.WyNewer, impl.OK}, {bases, "base", "1.3.0", 0, 0, impl.ErrVersion}, {bases, "base", "", 2, impl.WyNewest, impl.OK}, {bases, "base", "1.2.0", 1, impl.WyExact, impl.OK}, {bases, "base", "2.0.0", 2, impl.WyExact, impl.OK}, {bases, "base", "1.1.9", 1, impl.WyNewer, impl.OK}, {bases, "base", "2.0.1", 0, 0, impl.ErrVersion}, {bases, "base", "0.9.0", 0, 0, impl.ErrVersion}, {bases, "base", "3.0.0", 0, 0, impl.ErrVersion},
		{mixed, "a", "0.2.0", 3, impl.WyNewer, impl.OK}, {mixed, "a", "0.2.1", 3, impl.WyNewer, impl.OK}, {mixed, "a", "0.2.10", 3, impl.WyExact, impl.OK}, {mixed, "a", "0.2.11", 0, 0, impl.ErrVersion}, {mixed, "a", "0.1.0", 2, impl.WyNewer, impl.OK}, {mixed, "a", "0.1.9", 2, impl.WyExact, impl.OK}, {mixed, "a", "0.1.10", 0, 0, impl.ErrVersion}, {mixed, "a", "0.0.0", 6, impl.WyExact, impl.OK}, {mixed, "a", "0.3.0", 0, 0, impl.ErrVersion}, {mixed, "a", "0.0.1", 0, 0, impl.ErrVersion},
		{mixed, "a", "1.0.0", 5, impl.WyNewer, impl.OK}, {mixed, "a", "1.9.0", 5, impl.WyNewer, impl.OK}, {mixed, "a", "1.10.0", 5, impl.WyExact, impl.OK}, {mixed, "a", "", 7, impl.WyNewest, impl.OK}, {mixed, "b", "", 1, impl.WyNewest, impl.OK}, {mixed, "b", "1.0.0", 1, impl.WyExact, impl.OK},
		{bases, "lab", "1.0.0", 0, 0, impl.ErrNone}, {bases, "lab", "", 0, 0, impl.ErrNone}, {bases, "bas", "1.0.0", 0, 0, impl.ErrNone}, {bases, "basee", "9.0.0", 0, 0, impl.ErrNone}, {bases, "", "", 0, 0, impl.ErrNone}, {bases, "Base", "1.0.0", 0, 0, impl.ErrNone}, {bases, "base@1.0.0", "", 0, 0, impl.ErrNone}, {nil, "base", "", 0, 0, impl.ErrNone}, {nil, "base", "1.0.0", 0, 0, impl.ErrNone},
		{bases, "base", "1", 0, 0, impl.ErrForm}, {bases, "lab", "1", 0, 0, impl.ErrForm}, {bases, "base", "1.0.00", 0, 0, impl.ErrForm}, {nil, "", "x", 0, 0, impl.ErrForm},
	} {
		k, why, code := impl.PickPackage(c.list, c.name, c.want)
		is(t, c.name+" "+c.want, all(k, why, code), c.k, c.why, c.code)
	}
	for _, want := range noVersions()[1:] {
		k, why, code := impl.PickPackage(bases, "base", want)
		is(t, "base "+want, all(k, why, code), 0, 0, impl.ErrForm)
	}
	r := rand.New(rand.NewSource(71))
	for range 500 {
		list, names := []impl.Package{}, map[string]bool{}
		for range 1 + r.Intn(8) {
			x := impl.Package{Name: pick(r, []string{"a", "b"}), Version: pick(r, someVersions())}
			if !names[x.Name+x.Version] {
				list = append(list, x)
			}
			names[x.Name+x.Version] = true
		}
		for range 20 {
			name, want := pick(r, []string{"a", "b", "c"}), pick(r, append([]string{"", "1"}, someVersions()...))
			if r.Intn(2) == 0 {
				want = list[r.Intn(len(list))].Version
			}
			k, why, code := impl.PickPackage(list, name, want)
			modelK, modelWhy, modelCode := pickModel(list, name, want)
			is(t, name+" "+want, all(k, why, code), modelK, modelWhy, modelCode)
		}
	}
}

func TestP7PathIn(t *testing.T) {
	list := setOf(t, "package base@1.0.0;", "package base@1.2.0;", "package ward@1.0.0; interface beds {}", "package ward@1.1.0;")
	for _, c := range []struct {
		k       int64
		path    string
		i       int64
		version string
		why     int64
		problem string
	}{
		{0, "types", 0, "1.0.0", impl.WyOwn, ""}, {1, "types", 1, "1.2.0", impl.WyOwn, ""}, {2, "beds", 2, "1.0.0", impl.WyOwn, ""}, {3, "package", 3, "1.1.0", impl.WyOwn, ""}, {2, "ward", 2, "1.0.0", impl.WyOwn, ""},
		{2, "base/types", 1, "1.2.0", impl.WyNewest, ""}, {2, "base/types@1.0.0", 1, "1.2.0", impl.WyNewer, ""}, {2, "base/types@1.2.0", 1, "1.2.0", impl.WyExact, ""}, {0, "base/u8@1.1.0", 1, "1.2.0", impl.WyNewer, ""}, {2, "ward/beds", 3, "1.1.0", impl.WyNewest, ""}, {2, "ward/beds@1.0.0", 3, "1.1.0", impl.WyNewer, ""},
		{2, "base/types@1.3.0", 0, "", 0, "version base/types@1.3.0"}, {2, "base/types@0.1.0", 0, "", 0, "version base/types@0.1.0"}, {0, "lab/types", 0, "", 0, "none lab/types"}, {0, "lab/types@9.0.0", 0, "", 0, "none lab/types@9.0.0"}, {3, "beds/base", 0, "", 0, "none beds/base"},
	} {
		p, code := impl.ReadPath(c.path)
		is(t, c.path, all(code), impl.OK)
		i, choice, problem := impl.PathIn(list, c.k, p)
		want := impl.Choice{Path: p, Version: c.version, Why: c.why}
		if c.problem != "" {
			want = impl.Choice{}
		} else {
			is(t, c.path, all(problem == impl.Problem{}), true)
			c.problem = "ok"
		}
		is(t, c.path, all(i, choice == want, problemText(problem)), c.i, true, c.problem)
	}
	for _, p := range []impl.Path{{}, {Package: "base"}, {Version: "1.0.0"}, {Name: "types", Version: "1.2.0"}, {Name: "Types"}, {Name: "base/types"}, {Package: "base", Name: "types", Version: "1.2"}, {Package: "base", Name: "types", Version: "v"}, {Package: "Lab", Name: "types"}, {Package: "base/a", Name: "types"}, {Package: "lab", Name: "types "}, {Package: "base", Name: "a", Version: "1.0.0 // x"}, {Name: strings.Repeat("a/", 100000)}} {
		for k := range int64(4) {
			i, choice, problem := impl.PathIn(list, k, p)
			is(t, "a path that no source has", all(i, choice == impl.Choice{}, problem == impl.Problem{Code: impl.ErrForm}), 0, true, true)
		}
		_, _, problem := impl.PathIn(list, 4, p)
		is(t, "a path and an index", all(problem == impl.Problem{Code: impl.ErrRange}), true)
	}
}

// helper is a package that the tables use.
const helper = "package base@1.2.0; interface types { type color = enum { red, blue }; resource key; type held = list<key>; type lent = borrow<key>; use more.{deep as down, gone}; own-up: func(k: key); nothing: func(); type later = tip; type tip = u8; } interface more { type deep = list<list<u8>>; use types.{color as hue}; type a = option<b>; use round.{x as b}; use types.{held as kept}; use none.{y}; use lab/none.{z}; use base/more@1.3.0.{w}; use types.{nothing}; use types.{missing}; } interface round { use more.{a as x}; } interface empty {}"

func TestP7FaceProblems(t *testing.T) {
	for items, want := range map[string]string{
		// Resources, and what stands for them.
		"": "{}", "resource r;": "{r}", "resource s; resource r; resource q; resource p;": "{p; q; r; s}", "resource s; resource r; resource q; resource p; resource a;": "many .a", "resource s; resource r; resource q; resource p; type a = none; resource z;": "none .none", "resource s; resource r; resource q; resource p; resource z; type a = none;": "many .z",
		"resource r; f: func(a: r, b: own<r>, c: borrow<r>, d: list<r>) -> r;": "{r; f: func(a:own<r>,b:own<r>,c:borrow<r>,d:list<own<r>>)->own<r>}", "f: func(a: r); resource r;": "{r; f: func(a:own<r>)}", "resource r; type t = borrow<r>; type u = r; f: func(a: t, b: u);": "{r; f: func(a:borrow<r>,b:own<r>)}",
		// Handles of what is no resource.
		"f: func(a: own<r>);": "none .r", "f: func(a: borrow<r>);": "none .r", "f: func() -> own<f>;": "none .f", "type t = u8; f: func(a: own<t>);": "type .t", "type t = u8; f: func(a: borrow<t>);": "type .t", "type t = own<t>;": "type .t", "type t = borrow<u>; type u = t;": "type .u", "resource r; type t = r; type u = own<t>;": "type .t", "use base/types.{color}; f: func(a: own<color>);": "type .color", "type t = own<key>; use base/types.{key};": "type .key", "type t = list<own<zz>>;": "none .zz", "type t = tuple<own<a>, own<b>>; type b = u8;": "none .a", "type t = tuple<own<b>, own<a>>; type b = u8;": "type .b",
		// Names.
		"type a = b; type b = c; type c = u8; f: func(a: a) -> list<b>;": "{f: func(a:u8)->list<u8>}", "type a = b;": "none .b", "type a = list<option<b>>;": "none .b", "f: func(a: g); g: func();": "none .g", "f: func(a: u8, b: zz);": "none .zz", "f: func() -> zz;": "none .zz", "f: func(a: y) -> zz;": "none .y", "type a = tuple<x, y>;": "none .x", "type a = record { p: u8, q: x, r: y };": "none .x", "type a = variant { p, q(x) };": "none .x", "type a = result<x, y>;": "none .x", "type a = result<_, y>;": "none .y", "type a = unit; f: func() -> a;": "{f: func()}",
		"type a = u8; a: func(a: a) -> a;": "{a: func(a:u8)->u8}", "type a = c; type b = d;": "none .c", "f: func(a: c); type b = d;": "none .c", "type b = d; f: func(a: c);": "none .d",
		// Names that are being expanded.
		"type a = a;": "cycle .a", "type a = list<a>;": "cycle .a", "type a = b; type b = a;": "cycle .a", "type b = a; type a = b;": "cycle .b", "type a = b; type b = c; type c = b;": "cycle .b", "type a = b; type b = tuple<u8, c>; type c = option<b>;": "cycle .b", "f: func(x: c); type a = b; type b = c; type c = a;": "cycle .c", "type a = b; type b = tuple<c, c>; type c = u8; f: func(a: a);": "{f: func(a:tuple<u8,u8>)}", "type a = tuple<none, a>;": "none .none", "type a = tuple<a, none>;": "cycle .a",
		"use f.{a};": "cycle .a", "use f.{a as b}; type a = u8;": "{}", "use f.{a as b}; use f.{b as a};": "cycle .b", "use f.{a as b, c as d}; type a = u8; type c = b; f: func(a: d);": "{f: func(a:u8)}", "use f.{a as b}; type a = list<b>;": "cycle .b", "type a = list<b>; use f.{a as b};": "cycle .a", "use p/f@1.0.0.{a};": "cycle .a", "use p/f.{b as a}; type b = u8;": "{}",
		"use base/more.{a};": "cycle base@1.2.0/more.a", "use base/more.{b};": "cycle base@1.2.0/more.b", "use base/round.{x};": "cycle base@1.2.0/round.x",
		// Uses.
		"use base/types.{color}; f: func(a: color);": "{f: func(a:enum{red,blue})}", "use base/types@1.0.0.{color as hue, tip, later}; f: func(a: hue, b: tip, c: later);": "{f: func(a:enum{red,blue},b:u8,c:u8)}", "use base/more@1.2.0.{hue as color, deep}; f: func(a: list<color>) -> deep;": "{f: func(a:list<enum{red,blue}>)->list<list<u8>>}", "use base/types.{down}; f: func(a: down);": "{f: func(a:list<list<u8>>)}", "use base/types.{color as color, color as hue}; f: func(a: color, b: hue);": "{f: func(a:enum{red,blue},b:enum{red,blue})}",
		"use base/types.{key};": "type .key", "use base/types.{color, key as k, none};": "type .k", "use base/types.{color, none, key};": "none base@1.2.0/types.none", "use base/types.{held as hold};": "type .hold", "use base/types.{lent};": "type .lent", "use base/more.{kept};": "type base@1.2.0/more.kept", "use base/types.{hue as color};": "none base@1.2.0/types.hue", "use base/types.{own-up};": "none base@1.2.0/types.own-up", "use base/more.{nothing};": "none base@1.2.0/types.nothing", "use base/more.{missing as m};": "none base@1.2.0/types.missing", "use base/types.{gone};": "none base@1.2.0/more.gone",
		"use types.{color};": "none p@1.0.0/types", "use base/none.{color};": "none base@1.2.0/none", "use base/main.{color};": "none base@1.2.0/main", "use base/more.{y}; ": "none base@1.2.0/none", "use base/more.{z};": "none lab/none", "use base/more.{w};": "version base/more@1.3.0", "use lab/types.{color};": "none lab/types", "use base/types@1.3.0.{color};": "version base/types@1.3.0", "use base/types@0.2.0.{color};": "version base/types@0.2.0", "use base/empty.{color};": "none base@1.2.0/empty.color", "use lab/a.{x}; type b = none;": "none lab/a", "type b = none; use lab/a.{x};": "none .none",
		// Types that are not valid.
		"type a = list<unit>;": "type .a", "type a = unit; type b = list<a>;": "type .b", "type a = unit; type b = record { x: a };": "type .b", "type a = unit; type b = variant { x(a), y }; f: func(a: b);": "{f: func(a:variant{x,y})}", "type a = unit; type b = result<a, a>; f: func() -> b;": "{f: func()->result<unit,unit>}", "type a = record { x: u8, x: u8 };": "type .a", "type a = enum { x, y, x };": "type .a", "type a = tuple<u8, unit>;": "type .a", "resource r; type a = borrow<r>; type b = stream<a>;": "type .b", "resource r; type a = stream<r>; f: func(a: a);": "{r; f: func(a:stream<own<r>>)}", "resource r; type a = future<list<borrow<r>>>;": "type .a", "type a = flags { x, x }; type b = a;": "type .a",
		"type a = list<list<u8>>; type b = list<a>; f: func(a: b);": "{f: func(a:list<list<list<u8>>>)}", "type a = list<list<u8>>; type b = list<list<a>>;": "many .b", "type a = list<list<list<u8>>>; type b = a; type c = list<b>; type d = list<c>;": "many .c", "type a = list<list<list<result>>>;": "many .a", "type a = list<list<result>>; f: func(a: a);": "{f: func(a:list<list<result<unit,unit>>>)}", "type a = list<list<list<variant { x }>>>;": "many .a", "type a = list<list<list<enum { x }>>>; f: func(a: a);": "{f: func(a:list<list<list<enum{x}>>>)}", "use base/more.{deep}; type a = list<list<deep>>;": "many .a",
		"type a = tuple<u8, u8, u8, u8, u8, u8>; type b = tuple<a, a, a>; f: func(a: b);": "{f: func(a:tuple<tuple<u8,u8,u8,u8,u8,u8>,tuple<u8,u8,u8,u8,u8,u8>,tuple<u8,u8,u8,u8,u8,u8>>)}", "type a = tuple<u8, u8, u8, u8, u8, u8>; type b = tuple<a, a, a, u8, u8>; f: func(a: b);": "{f: func(a:tuple<tuple<u8,u8,u8,u8,u8,u8>,tuple<u8,u8,u8,u8,u8,u8>,tuple<u8,u8,u8,u8,u8,u8>,u8,u8>)}", "type a = tuple<u8, u8, u8, u8, u8, u8>; type b = tuple<a, a, a, u8, u8, u8>;": "many .b", "type a = tuple<u8, u8, u8, u8, u8, u8>; type b = tuple<a, a, a, unit, u8, u8>;": "many .b", "type a = tuple<u8, u8, u8, u8, u8, u8>; type b = tuple<a, a, a, unit, u8>;": "type .b", "type a = list<u8>; type b = tuple<unit, list<a>>;": "type .b", "type a = list<list<u8>>; type b = tuple<unit, list<list<a>>>;": "many .b",
		// Functions.
		"f: func(a: unit);": "type .f", "type a = unit; f: func(x: a);": "type .f", "f: func(a: u8, a: u8);": "type .f", "f: func(a: u8, a: list<unit>);": "type .f", "f: func(a: list<unit>, b: none);": "type .f", "f: func(a: none, b: list<unit>);": "none .none", "f: func(a: u8, a: u8) -> none;": "none .none", "resource r; f: func() -> borrow<r>;": "type .f", "resource r; f: func() -> list<borrow<r>>;": "type .f", "f: func(a: list<list<list<result>>>);": "many .f", "f: func() -> list<list<list<variant { x }>>>;": "many .f", "type a = list<list<u8>>; g: func(); f: func(x: u8) -> list<list<a>>;": "many .f", "f: func() -> list<unit>;": "type .f", "type a = list<list<u8>>; f: func(x: unit, y: list<list<a>>);": "many .f", "f: func(x: list<unit>, y: list<list<list<result>>>);": "type .f",
		"g: async func(b: u8, a: text) -> s64; f: func(); e: async func() -> unit;": "{e: async func(); f: func(); g: async func(b:u8,a:text)->s64}", "h: func(); g: func(); f: func(); e: func(); d: func(); c: func(); b: func(); a: func();": "{a: func(); b: func(); c: func(); d: func(); e: func(); f: func(); g: func(); h: func()}", "i: func(); h: func(); g: func(); f: func(); e: func(); d: func(); c: func(); b: func(); a: func(x: none);": "many .a", "i: func(); h: func(); g: func(); f: func(); e: func(x: none); d: func(); c: func(); b: func(); a: func();": "none .none", "i: func(); h: func(); g: func(); f: func(); e: func(); d: func(); c: func(); b: func(); type t = none; a: func();": "none .none", "type: func(); resource: func(); use: func(); u8: func(unit: u8);": "{resource: func(); type: func(); u8: func(unit:u8); use: func()}",
	} {
		list := setOf(t, helper, "package p@1.0.0; interface f { "+items+" }")
		// In the table a location of this package begins with its name alone, and an interface with what it has.
		code, place, _ := strings.Cut(want, " ")
		if strings.HasPrefix(want, "{") {
			want = "p@1.0.0/f " + want
		} else if strings.HasPrefix(place, ".") {
			want = code + " p@1.0.0/f" + place
		}
		is(t, items, all(faceIn(t, list, 1, "f")), want)
		m := &resolution{list: list}
		model := ""
		problem := problemIn(func() { model = faceText(m.face(m.faceNamed(1, "f"))) })
		if problem.Code != impl.OK {
			model = problemText(problem)
		}
		is(t, items+" in the model", all(model), want)
	}
	list := setOf(t, helper, "package p@1.0.0; interface f {} world w {}")
	for _, name := range []string{"", "g", "F", "ff", "w", "f ", "types", "p", "p/f", "é", strings.Repeat("f", 1000)} {
		is(t, name, all(faceIn(t, list, 1, name)), strings.TrimSuffix("none p@1.0.0/"+name, " "))
		is(t, name, all(typeIn(t, list, 1, name, impl.Term{Kind: impl.TyU8})), strings.TrimSuffix("none p@1.0.0/"+name, " "))
		is(t, name, all(worldIn(t, list, 1, strings.ReplaceAll(name, "w", "f"))), strings.TrimSuffix("none p@1.0.0/"+strings.ReplaceAll(name, "w", "f"), " "))
	}
}

// TestP7Versions resolves uses that different versions of a package would answer differently.
func TestP7Versions(t *testing.T) {
	list := setOf(t,
		"package p@0.1.0; interface f { type a = u8; } interface old { use f.{a}; g: func(a: a); }",
		"package p@0.1.5; interface f { type a = u16; }",
		"package p@0.2.0; interface f { type a = u32; }",
		"package p@1.0.0; interface f { type a = s8; }",
		"package p@1.4.0; interface f { type a = s16; } interface own { use f.{a}; g: func(a: a); } interface back { use p/old@0.1.0.{a}; }",
		"package q@1.0.0; interface f { use p/f.{a}; use p/f@0.1.0.{a as b}; use p/f@0.2.0.{a as c}; use p/f@1.0.0.{a as d}; g: func(a: a, b: b, c: c, d: d); }",
	)
	is(t, "versions", all(faceIn(t, list, 5, "f"), faceIn(t, list, 0, "old"), faceIn(t, list, 4, "own"), faceIn(t, list, 4, "back")),
		"q@1.0.0/f {g: func(a:s16,b:u16,c:u32,d:s16)}", "p@0.1.0/old {g: func(a:u8)}", "p@1.4.0/own {g: func(a:s16)}", "none p@0.1.5/old")
}

func TestP7TypeIn(t *testing.T) {
	list := setOf(t, helper, "package ward@1.0.0; interface beds { resource bed; use base/types@1.0.0.{color as hue}; type spots = list<hue>; type bad = none; type worse = unit; type ring = ring; f: func(); }")
	for source, want := range map[string]string{
		"u8": "u8", "unit": "unit", "bed": "own<bed>", "own<bed>": "own<bed>", "borrow<bed>": "borrow<bed>", "hue": "enum{red,blue}", "spots": "list<enum{red,blue}>", "worse": "unit", "list<list<spots>>": "list<list<list<enum{red,blue}>>>", "result<hue, worse>": "result<enum{red,blue},unit>", "variant { x, y(worse), z(bed) }": "variant{x,y,z:own<bed>}", "stream<bed>": "stream<own<bed>>", "flags { b, a }": "flags{b,a}", "tuple<bed, borrow<bed>, hue>": "tuple<own<bed>,borrow<bed>,enum{red,blue}>",
		"list<list<list<spots>>>": "many ward@1.0.0/beds", "list<list<list<result>>>": "many ward@1.0.0/beds", "tuple<spots, list<list<hue>>, list<list<spots>>>": "many ward@1.0.0/beds", "list<unit>": "type ward@1.0.0/beds", "list<worse>": "type ward@1.0.0/beds", "record { a: u8, a: u8 }": "type ward@1.0.0/beds", "stream<borrow<bed>>": "type ward@1.0.0/beds",
		"x": "none ward@1.0.0/beds.x", "f": "none ward@1.0.0/beds.f", "beds": "none ward@1.0.0/beds.beds", "bad": "none ward@1.0.0/beds.none", "ring": "cycle ward@1.0.0/beds.ring", "own<hue>": "type ward@1.0.0/beds.hue", "borrow<spots>": "type ward@1.0.0/beds.spots", "own<x>": "none ward@1.0.0/beds.x", "own<f>": "none ward@1.0.0/beds.f", "own<ring>": "type ward@1.0.0/beds.ring", "tuple<unit, x>": "none ward@1.0.0/beds.x", "tuple<x, ring>": "none ward@1.0.0/beds.x", "tuple<ring, x>": "cycle ward@1.0.0/beds.ring", "tuple<own<hue>, x>": "type ward@1.0.0/beds.hue", "own<bad>": "type ward@1.0.0/beds.bad",
	} {
		x := termed(t, source)
		is(t, source, all(typeIn(t, list, 1, "beds", x), typeIn(t, list, 1, "none", x)), want, "none ward@1.0.0/none")
	}
	big := "tuple<u8, u8, u8, u8, u8, u8>"
	is(t, "24 parts", all(typeIn(t, list, 1, "beds", termed(t, "tuple<"+big+", "+big+", "+big+", u8, u8>"))), "tuple<"+strings.ReplaceAll(strings.Repeat(big+",", 3), " ", "")+"u8,u8>")
	is(t, "25 parts", all(typeIn(t, list, 1, "beds", termed(t, "tuple<"+big+", "+big+", "+big+", u8, u8, u8>"))), "many ward@1.0.0/beds")
	is(t, "25 parts, one of them invalid", all(typeIn(t, list, 1, "beds", termed(t, "tuple<"+big+", "+big+", "+big+", u8, u8, unit>"))), "many ward@1.0.0/beds")
	bad := []impl.Term{{}, {Kind: impl.TeName}, {Kind: impl.TeName, Name: "u8"}, {Kind: impl.TeName, Name: "A"}, {Kind: impl.TeName, Name: "bed", Kids: []impl.Term{{}}}, {Kind: impl.TyU8, Name: "bed"}, {Kind: impl.TyU8, Labels: []string{"a"}}, {Kind: impl.TyList}, {Kind: impl.TyOwn}, {Kind: impl.TyOwn, Name: "bed", Labels: []string{""}}, {Kind: 24}, {Kind: impl.TyEnum}, {Kind: impl.TyEnum, Labels: []string{"a"}, Kids: []impl.Term{{Kind: impl.TyUnit}}}}
	for _, x := range slices.Concat(bad, deepTerms()) {
		is(t, "an invalid term", all(typeIn(t, list, 1, "beds", x), typeIn(t, list, 1, "none", x), typeIn(t, list, 2, "beds", x)), "form", "form", "range")
	}
}

func TestP7WorldProblems(t *testing.T) {
	faces := "interface a {} interface b {} interface c {} interface d {} interface e {} interface f {} interface g {} interface bad { type t = none; } "
	base := func(version string) string {
		return "package base@" + version + "; interface types { f: func() -> u8; } interface more {} " +
			"world w { import types; } world x { export base/types@1.0.0; } world back { include p/main; } world self { include self; }"
	}
	for items, want := range map[string]string{
		"world main {}": "", "": "none p@1.0.0/main", "interface main {}": "none p@1.0.0/main", "world other {}": "none p@1.0.0/main",
		"world main { import a; export a; import b; }": "import p@1.0.0/a {}\nimport p@1.0.0/b {}\nexport p@1.0.0/a {}", "world main { import b; import a; import b; }": "import p@1.0.0/a {}\nimport p@1.0.0/b {}", "world main { import base/types; }": "import base@2.0.0/types {f: func()->u8}", "world main { import a; import base/more@1.0.0; import base/types@1.0.0; }": "import base@1.2.0/more {}\nimport base@1.2.0/types {f: func()->u8}\nimport p@1.0.0/a {}",
		// Paths and interfaces.
		"world main { import none; }": "none p@1.0.0/none", "world main { export main; }": "none p@1.0.0/main", "world main { import base/w; }": "none base@2.0.0/w", "world main { import base/none@1.0.0; }": "none base@1.2.0/none", "world main { export lab/a; }": "none lab/a", "world main { export base/types@1.2.1; }": "version base/types@1.2.1", "world main { import bad; }": "none p@1.0.0/bad.none", "world main { import none; import lab/a; }": "none p@1.0.0/none", "world main { import lab/a; import none; }": "none lab/a",
		// Worlds.
		"world main { include none; }": "none p@1.0.0/none", "world main { include a; }": "none p@1.0.0/a", "world main { include lab/a; }": "none lab/a", "world main { include base/w@3.0.0; }": "version base/w@3.0.0", "world main { include base/none@1.0.0; }": "none base@1.2.0/none", "world main { include main; }": "cycle p@1.0.0/main", "world main { include p/main; }": "cycle p@1.0.0/main", "world main { include two; } world two { include main; }": "cycle p@1.0.0/main", "world main { include two; } world two { include three; } world three { include two; }": "cycle p@1.0.0/two", "world main { include base/back; }": "cycle p@1.0.0/main", "world main { include base/self@1.0.0; }": "cycle base@1.2.0/self", "world main { include two; include two; include three; } world two { import a; } world three { include two; import b; }": "import p@1.0.0/a {}\nimport p@1.0.0/b {}", "world main { import none; include main; }": "none p@1.0.0/none", "world main { include main; import none; }": "cycle p@1.0.0/main",
		"world main { include base/w@1.0.0; }": "import base@1.2.0/types {f: func()->u8}", "world main { include base/x; }": "export base@1.2.0/types {f: func()->u8}",
		// Two versions of an interface.
		"world main { import base/types@1.0.0; import base/types@2.0.0; }": "version base@2.0.0/types", "world main { import base/types@2.0.0; import base/types@1.0.0; }": "version base@1.2.0/types", "world main { export base/types@1.0.0; export base/types; }": "version base@2.0.0/types", "world main { import base/types@1.0.0; export base/types@2.0.0; }": "import base@1.2.0/types {f: func()->u8}\nexport base@2.0.0/types {f: func()->u8}", "world main { import base/types@1.0.0; import base/more@2.0.0; }": "import base@2.0.0/more {}\nimport base@1.2.0/types {f: func()->u8}", "world main { import base/types@1.0.0; import base/types@1.2.0; }": "import base@1.2.0/types {f: func()->u8}", "world main { include base/w@1.0.0; include base/w@2.0.0; }": "version base@2.0.0/types", "world main { include base/w@2.0.0; include base/x; }": "import base@2.0.0/types {f: func()->u8}\nexport base@1.2.0/types {f: func()->u8}",
		// Too many interfaces.
		"world main { import f; import e; import d; import c; import b; import a; import a; export g; }": "import p@1.0.0/a {}\nimport p@1.0.0/b {}\nimport p@1.0.0/c {}\nimport p@1.0.0/d {}\nimport p@1.0.0/e {}\nimport p@1.0.0/f {}\nexport p@1.0.0/g {}", "world main { import a; import b; import c; import d; import e; import f; import g; }": "many p@1.0.0/g", "world main { export g; export f; export e; export d; export c; export b; export a; }": "many p@1.0.0/a", "world main { import a; import b; import c; import d; import e; import f; import bad; }": "none p@1.0.0/bad.none", "world main { import base/types@1.0.0; import b; import c; import d; import e; import f; import base/types; }": "version base@2.0.0/types", "world main { import a; import b; import c; import d; import e; import f; include base/w; }": "many base@2.0.0/types", "world main { import a; import b; import c; export d; export e; export f; export g; }": "import p@1.0.0/a {}\nimport p@1.0.0/b {}\nimport p@1.0.0/c {}\nexport p@1.0.0/d {}\nexport p@1.0.0/e {}\nexport p@1.0.0/f {}\nexport p@1.0.0/g {}",
	} {
		source := faces + items
		if items == "interface main {}" {
			source = items
		}
		list := setOf(t, base("1.2.0"), "package p@1.0.0; "+source, base("2.0.0"))
		is(t, items, all(worldIn(t, list, 1, "main")), want)
	}
}

// TestP7OlderVersions lets a world meet an interface in a version that is not the newest, before and after it.
func TestP7OlderVersions(t *testing.T) {
	const items = "interface i { f: func() -> u8; } world old { import i; export i; } "
	for first, want := range map[string]string{
		"include base/old@1.0.0; import base/i@1.0.0;": "1.3.0", "include old; import base/i@1.0.0;": "1.3.0", "import base/i@1.0.0; include old;": "1.3.0", "include old;": "1.0.0", "include old; include old;": "1.0.0", "import i;": "1.0.0", "import base/i; import i;": "1.3.0",
	} {
		for _, word := range []string{"import", "export"} {
			list := setOf(t, "package base@1.3.0; "+items, "package base@1.0.0; "+items+"world w { "+strings.ReplaceAll(first, "import", word)+" }")
			w, problem := impl.WorldIn(list, 1, "w")
			faces := w.Imports
			if word == "export" {
				faces = w.Exports
			}
			is(t, first, all(problem == impl.Problem{}, len(faces) == 1), true, true)
			is(t, first, all(faces[0].Version, w.Version), want, "1.0.0")
		}
	}
	for first, want := range map[string]string{"import i; import base/i;": "version base@0.2.0/i", "import base/i; import i;": "version base@0.1.0/i", "import base/i@0.1.0; import i;": "", "export i; import base/i@0.2.0;": ""} {
		list := setOf(t, "package base@0.2.0; "+items, "package base@0.1.0; "+items+"world w { "+first+" }")
		_, problem := impl.WorldIn(list, 1, "w")
		is(t, first, all(strings.TrimPrefix(problemText(problem), "ok")), want)
	}
	// What was replaced is no interface of the world any more, and neither is what only it depends on.
	list := setOf(t, "package base@1.0.0; interface i { use j.{t}; } interface j { type t = u8; } world w { import i; import base/i; }", "package base@1.1.0; interface i {}")
	leans, problem := impl.LeansOf(list, 0, "w")
	is(t, "LeansOf", all(problem == impl.Problem{}, strings.Join(leans, " ")), true, "base@1.1.0/i")
}

// TestP7ManyPaths visits as many paths as there can be, and one more.
func TestP7ManyPaths(t *testing.T) {
	sixteen := func(item string) string { return strings.Repeat(item+"; ", 16) }
	// A visit to small has 16 paths, one to middle 272, and most stands for 990.
	worlds := "interface i {} world small { " + sixteen("import i") + "} world middle { " + sixteen("include small") + "} world none {} "
	most := strings.Repeat("include middle; ", 3) + strings.Repeat("include small; ", 10) + "import i; "
	tail := func(items string, last string) string {
		return "world w { " + most + items + "} world tail { " + strings.Repeat("export i; ", 8) + last + "}"
	}
	deep := func(items string) string {
		return "world w { include big; } world big { " + sixteen("include huge") + "} world huge { " + sixteen("include vast") + "} world vast { " + items + " }"
	}
	for items, many := range map[string]int{
		"world w {}": 0, "world w { import i; }": 1, "world w { include none; }": 1, "world w { include small; }": 17, "world w { include middle; include small; }": 290, "world w { " + most + "}": 990, deep("include none;"): 529,
		tail("include tail; ", ""): 999, tail("include tail; ", "import i;"): 1000, tail("include tail; ", "include none;"): 1000, tail("include tail; import i; ", ""): 1000,
	} {
		list := setOf(t, "package p@1.0.0; "+worlds+items)
		choices, problem := impl.ChoicesIn(list, 0, "w")
		is(t, items, all(problem == impl.Problem{}, int64(len(choices)), strings.Contains(worldIn(t, list, 0, "w"), "many")), true, many, false)
	}
	for items, want := range map[string]string{
		tail("include tail; ", "import i; import i;"): "many p@1.0.0/tail", tail("include tail; ", "import i; include none;"): "many p@1.0.0/tail", tail("include tail; ", "import i; import lab/x;"): "many p@1.0.0/tail", tail("include tail; ", "import i; include tail;"): "many p@1.0.0/tail",
		tail("include tail; import i; ", "import i;"): "many p@1.0.0/w", tail("include tail; include w; ", "import i;"): "many p@1.0.0/w", tail("include tail; import lab/x; ", "import i;"): "many p@1.0.0/w", tail("include tail; import none; ", "import i;"): "many p@1.0.0/w",
		tail("include tail; ", "import lab/x;"): "none lab/x", tail("include tail; ", "import none;"): "none p@1.0.0/none", tail("include tail; ", "include tail;"): "cycle p@1.0.0/tail", tail("include tail; ", "include small;"): "many p@1.0.0/small", tail("include tail; include w; ", ""): "cycle p@1.0.0/w", tail("include tail; import none; ", ""): "none p@1.0.0/none",
		"world w { " + sixteen("include middle") + "}": "many p@1.0.0/small", deep("include small;"): "many p@1.0.0/small", deep(sixteen("include none")): "many p@1.0.0/vast",
	} {
		list := setOf(t, "package p@1.0.0; "+worlds+items)
		m := &resolution{list: list}
		is(t, items, all(worldIn(t, list, 0, "w"), problemText(problemIn(func() { m.visit(0, "w") }))), want, want)
	}
}

func TestP7ChoicesIn(t *testing.T) {
	list := setOf(t,
		"package base@1.2.0; interface types { type color = enum { red, blue }; } world common { import types; }",
		"package ward@1.0.0; interface beds { use base/types@1.0.0.{color as hue}; paint: func(c: hue); } world main { export beds; include base/common@1.0.0; } world more { include main; import base/types@1.2.0; include base/common; include main; }")
	own := impl.Choice{Path: impl.Path{Name: "beds"}, Version: "1.0.0", Why: impl.WyOwn}
	common := impl.Choice{Path: impl.Path{Package: "base", Name: "common", Version: "1.0.0"}, Version: "1.2.0", Why: impl.WyNewer}
	types := impl.Choice{Path: impl.Path{Name: "types"}, Version: "1.2.0", Why: impl.WyOwn}
	main := impl.Choice{Path: impl.Path{Name: "main"}, Version: "1.0.0", Why: impl.WyOwn}
	choices, problem := impl.ChoicesIn(list, 1, "main")
	is(t, "main", all(problem == impl.Problem{}, slices.Equal(choices, []impl.Choice{own, common, types})), true, true)
	exact := impl.Choice{Path: impl.Path{Package: "base", Name: "types", Version: "1.2.0"}, Version: "1.2.0", Why: impl.WyExact}
	newest := impl.Choice{Path: impl.Path{Package: "base", Name: "common"}, Version: "1.2.0", Why: impl.WyNewest}
	choices, problem = impl.ChoicesIn(list, 1, "more")
	is(t, "more", all(problem == impl.Problem{}, slices.Equal(choices, []impl.Choice{main, own, common, types, exact, newest, types, main, own, common, types})), true, true)
}

func TestP7LeansOf(t *testing.T) {
	list := setOf(t,
		"package base@1.2.0; interface types { type color = enum { red, blue }; } world common { import types; }",
		"package ward@1.0.0; interface beds { use base/types@1.0.0.{color as hue}; paint: func(c: hue); } world main { export beds; include base/common@1.0.0; }",
		// Interfaces that are used, but could not be resolved themselves.
		"package a@1.0.0; interface f { use g.{t}; use h.{t as u}; } interface g { type t = u8; use none.{x}; use lab/none.{y}; use base/types@1.3.0.{z}; use h.{t as v}; use far.{none}; } interface h { type t = u8; use g.{t as w}; use h.{t as i}; } interface far { use base/types.{none as t}; type a = a; } interface alone {} interface loop { use loop.{a as b}; type a = u8; } world w { import f; } world x { export alone; import loop; } world y { include w; include x; } world z {}")
	for _, c := range []struct {
		k           int64
		world, want string
	}{
		{1, "main", "base@1.2.0/types ward@1.0.0/beds"}, {0, "common", "base@1.2.0/types"}, {2, "w", "a@1.0.0/f a@1.0.0/far a@1.0.0/g a@1.0.0/h base@1.2.0/types"}, {2, "x", "a@1.0.0/alone a@1.0.0/loop"}, {2, "y", "a@1.0.0/alone a@1.0.0/f a@1.0.0/far a@1.0.0/g a@1.0.0/h a@1.0.0/loop base@1.2.0/types"}, {2, "z", ""},
	} {
		leans, problem := impl.LeansOf(list, c.k, c.world)
		is(t, c.world, all(problem == impl.Problem{}, strings.Join(leans, " ")), true, c.want)
	}
}

// someSet makes up a valid set of packages whose names lead somewhere, but for one in so many.
func someSet(r *rand.Rand, wild float64) []impl.Package {
	s := &setMaker{Rand: r, wild: wild}
	versions := strings.Fields("0.1.0 0.1.2 0.2.0 1.0.0 1.1.0 1.2.3 2.0.0")
	for _, i := range r.Perm(14)[:1+r.Intn(6)] {
		x := impl.Package{Name: []string{"p", "q"}[i%2], Version: versions[i/2]}
		s.own = nil
		for _, name := range pickSome(r, strings.Fields("f g h i"), 4) {
			x.Faces = append(x.Faces, s.face(x, name))
		}
		for _, name := range pickSome(r, strings.Fields("v w"), 2) {
			x.Worlds = append(x.Worlds, s.world(x, name))
		}
		s.list = append(s.list, x)
	}
	r.Shuffle(len(s.list), func(i, j int) { s.list[i], s.list[j] = s.list[j], s.list[i] })
	return s.list
}

type setMaker struct {
	*rand.Rand
	wild      float64
	list      []impl.Package
	known     []impl.Path // the interfaces and worlds made up so far, with the names that can be used
	names     [][]string
	own       []int // which of them are of the package that is being made up
	declared  []string
	resources []string
}

func (s *setMaker) isWild() bool {
	return s.Float64() < s.wild
}

// pickSome returns one to most elements of list in some order.
func pickSome(r *rand.Rand, list []string, most int) []string {
	list = slices.Clone(list)
	r.Shuffle(len(list), func(i, j int) { list[i], list[j] = list[j], list[i] })
	return list[:1+r.Intn(min(most, len(list)))]
}

// path returns a path to something made up before, world or not, and the names that can be used from it.
func (s *setMaker) path(world bool) (impl.Path, []string) {
	var fit []int
	for i := range s.known {
		if (s.names[i] == nil) == world {
			fit = append(fit, i)
		}
	}
	if len(fit) == 0 || s.isWild() {
		p := impl.Path{Name: pick(s.Rand, strings.Fields("f g h i v w none"))}
		if s.Intn(2) == 0 {
			p.Package = pick(s.Rand, strings.Fields("p q none"))
		}
		if p.Package != "" && s.Intn(2) == 0 {
			p.Version = pick(s.Rand, strings.Fields("0.1.0 0.1.1 0.2.0 1.0.0 1.2.0 1.3.0 2.0.0 3.0.0"))
		}
		return p, strings.Fields("a b c d e")
	}
	i := fit[s.Intn(len(fit))]
	p := s.known[i]
	if slices.Contains(s.own, i) && s.Intn(2) == 0 {
		p = impl.Path{Name: p.Name}
	}
	if p.Package != "" && s.Intn(6) == 0 {
		p.Version = ""
	}
	return p, s.names[i]
}

func (s *setMaker) add(x impl.Package, name string, names []string) {
	s.own = append(s.own, len(s.known))
	s.known = append(s.known, impl.Path{Package: x.Name, Name: name, Version: x.Version})
	s.names = append(s.names, names)
}

func (s *setMaker) face(x impl.Package, name string) impl.FaceDecl {
	f := impl.FaceDecl{Name: name}
	s.declared, s.resources = nil, nil
	usable := []string{"none"}
	for _, local := range pickSome(s.Rand, strings.Fields("a b c d e"), 5) {
		item := impl.Item{Kind: impl.ItType, Name: local}
		switch s.Intn(7) {
		case 0:
			item.Kind = impl.ItResource
			s.resources = append(s.resources, local)
		case 1, 2:
			from, names := s.path(false)
			used := impl.UseName{Name: names[s.Intn(len(names))], As: local}
			if used.Name == local && s.Intn(2) == 0 {
				used.As = ""
			}
			item = impl.Item{Kind: impl.ItUse, From: from, Uses: []impl.UseName{used}}
		default:
			item.Term = s.term(2 + s.Intn(3)/2)
		}
		if item.Kind != impl.ItResource && !strings.Contains(itemSource(item), "own<") {
			usable = append(usable, local)
		}
		s.declared = append(s.declared, local)
		f.Items = append(f.Items, item)
	}
	for i, name := range pickSome(s.Rand, strings.Fields("a f g"), 3) {
		if s.Intn(4) > i {
			f.Items = append(f.Items, s.function(name))
		}
	}
	if s.Intn(2) == 0 {
		s.Shuffle(len(f.Items), func(i, j int) { f.Items[i], f.Items[j] = f.Items[j], f.Items[i] })
	}
	if len(usable) > 1 && !s.isWild() {
		usable = usable[1:]
	}
	s.add(x, name, usable)
	return f
}

func (s *setMaker) function(name string) impl.Item {
	item := impl.Item{Kind: impl.ItFunc, Name: name, Async: s.Intn(2) == 0, Term: impl.Term{Kind: impl.TyUnit}}
	params := strings.Fields("x y z")
	for i := range s.Intn(3) {
		param := params[i]
		if s.isWild() {
			param = "x"
		}
		item.Params = append(item.Params, impl.TermParam{Name: param, Term: s.term(2)})
	}
	if s.Intn(2) == 0 {
		item.Term = s.term(2)
	}
	return item
}

// term makes up a term of at most deep levels.
func (s *setMaker) term(deep int) impl.Term {
	if s.isWild() {
		return impl.Term{Kind: []int64{impl.TeName, impl.TyOwn, impl.TyBorrow}[s.Intn(3)], Name: pick(s.Rand, strings.Fields("a b c d e none f"))}
	}
	kids := func(many int) []impl.Term {
		var list []impl.Term
		for range many {
			list = append(list, s.term(deep-1))
		}
		return list
	}
	switch n := s.Intn(10); {
	case n < 5 && len(s.declared) > 0:
		return impl.Term{Kind: impl.TeName, Name: pick(s.Rand, s.declared)}
	case n == 5 && len(s.resources) > 0:
		return impl.Term{Kind: impl.TyOwn, Name: pick(s.Rand, s.resources)}
	case n == 6 && deep > 1:
		return impl.Term{Kind: []int64{impl.TyList, impl.TyOption, impl.TyStream}[s.Intn(3)], Kids: kids(1)}
	case n == 7 && deep > 1:
		return impl.Term{Kind: impl.TyRecord, Labels: []string{"x", "y"}, Kids: kids(2)}
	case n == 8 && deep > 1:
		return impl.Term{Kind: impl.TyResult, Kids: []impl.Term{{Kind: impl.TyUnit}, s.term(deep - 1)}}
	case n == 9 && deep > 1:
		return impl.Term{Kind: impl.TyTuple, Kids: kids(1 + s.Intn(5))}
	}
	return impl.Term{Kind: int64(impl.TyBool + s.Intn(10))}
}

func (s *setMaker) world(x impl.Package, name string) impl.WorldDecl {
	w := impl.WorldDecl{Name: name}
	for range s.Intn([]int{4, 8, 16}[s.Intn(3)]) {
		kind := int64(1 + s.Intn(3))
		p, _ := s.path(kind == impl.WiInclude)
		w.Items = append(w.Items, impl.WorldItem{Kind: kind, Path: p})
	}
	s.add(x, name, nil)
	return w
}

// TestP7ResolveModel compares all functions with the model, and counts what has been found so that nothing is missed.
func TestP7ResolveModel(t *testing.T) {
	t.Parallel()
	r := rand.New(rand.NewSource(72))
	met := map[string]int{}
	for i := range 400 {
		list := someSet(r, []float64{0, 0.02, 0.2}[i%3])
		is(t, "PackagesCode", all(impl.PackagesCode(list)), impl.OK)
		for k := range list {
			for _, name := range strings.Fields("f g h i v w") {
				checkFaceModel(t, met, list, k, name)
				checkWorldModel(t, met, list, k, name)
				x := (&setMaker{Rand: r, wild: 0.1, declared: strings.Fields("a b c d e"), resources: strings.Fields("a b c d e")}).term(3)
				m := &resolution{list: list}
				var u impl.Type
				problem := problemIn(func() { u = m.valid(m.faceNamed(k, name), x, placeOf(list[k], name)) })
				got, gotProblem := impl.TypeIn(list, int64(k), name, x)
				is(t, termSource(x), all(alike(got, u) || problem.Code != impl.OK && alike(got, impl.Type{}), gotProblem == problem), true, true)
				met["type "+impl.CodeWord(problem.Code)]++
			}
			p, _ := (&setMaker{Rand: r, wild: 1}).path(false)
			m := &resolution{list: list}
			at, choice := 0, impl.Choice{}
			problem := problemIn(func() { at, choice = m.path(k, p) })
			gotAt, gotChoice, gotProblem := impl.PathIn(list, int64(k), p)
			is(t, pathSource(p), all(gotAt, gotChoice == choice, gotProblem == problem), at, true, true)
			met["path "+impl.CodeWord(problem.Code)]++
		}
	}
	for _, what := range strings.Fields("face-ok face-none face-type face-cycle face-many face-version world-ok world-none world-type world-cycle world-many world-version type-ok type-none type-type type-cycle type-many type-version path-ok path-none path-version") {
		if met[strings.Replace(what, "-", " ", 1)] < 10 {
			t.Errorf("%s: met %d times only", what, met[strings.Replace(what, "-", " ", 1)])
		}
	}
}

func checkFaceModel(t *testing.T, met map[string]int, list []impl.Package, k int, name string) {
	t.Helper()
	m := &resolution{list: list}
	var want impl.Face
	problem := problemIn(func() { want = m.face(m.faceNamed(k, name)) })
	got, gotProblem := impl.FaceIn(list, int64(k), name)
	if !alike(got, want) || gotProblem != problem {
		t.Errorf("FaceIn of %s in %s is %+v, %v, want %+v, %v", name, packageSource(list[k]), got, gotProblem, want, problem)
	}
	met["face "+impl.CodeWord(problem.Code)]++
}

func checkWorldModel(t *testing.T, met map[string]int, list []impl.Package, k int, name string) {
	t.Helper()
	m := &resolution{list: list}
	problem := problemIn(func() { m.visit(k, name) })
	want, choices, leans := impl.World{}, []impl.Choice(nil), []string(nil)
	if problem.Code == impl.OK {
		want = impl.World{Package: list[k].Name, Name: name, Version: list[k].Version, Imports: m.facesIn(m.imports), Exports: m.facesIn(m.exports)}
		choices, leans = m.choices, m.leans(slices.Concat(m.imports, m.exports))
	}
	got, gotProblem := impl.WorldIn(list, int64(k), name)
	if !alike(got, want) || gotProblem != problem {
		t.Errorf("WorldIn of %s in %s is %+v, %v, want %+v, %v", name, packageSource(list[k]), got, gotProblem, want, problem)
	}
	gotChoices, choicesProblem := impl.ChoicesIn(list, int64(k), name)
	gotLeans, leansProblem := impl.LeansOf(list, int64(k), name)
	if !slices.Equal(gotChoices, choices) || !slices.Equal(gotLeans, leans) || choicesProblem != problem || leansProblem != problem {
		t.Errorf("ChoicesIn and LeansOf of %s in %s are %v, %v, want %v, %v", name, packageSource(list[k]), gotChoices, gotLeans, choices, leans)
	}
	met["world "+impl.CodeWord(problem.Code)]++
}

// TestP8Resolved checks what the guarantee says of interfaces and worlds, without the model.
func TestP8Resolved(t *testing.T) {
	t.Parallel()
	r := rand.New(rand.NewSource(81))
	used, named := 0, 0
	for i := range 300 {
		list := someSet(r, []float64{0, 0.02}[i%2])
		for k := range list {
			for _, decl := range list[k].Faces {
				f, problem := impl.FaceIn(list, int64(k), decl.Name)
				if problem.Code == impl.OK {
					is(t, decl.Name, all(impl.FaceOk(f), f.Package, f.Name, f.Version), true, list[k].Name, decl.Name, list[k].Version)
					used += checkUses(t, list, k, decl)
				}
			}
			for _, decl := range list[k].Worlds {
				w, problem := impl.WorldIn(list, int64(k), decl.Name)
				if problem.Code == impl.OK {
					is(t, decl.Name, all(impl.WorldOk(w), w.Package, w.Name, w.Version), true, list[k].Name, decl.Name, list[k].Version)
					named += checkNamed(t, list, k, decl, w)
				}
			}
		}
	}
	is(t, "enough has been checked", all(used > 300, named > 300), true, true)
}

// checkUses checks that the types that an interface uses equal the original ones and contain no handles.
func checkUses(t *testing.T, list []impl.Package, k int, decl impl.FaceDecl) int {
	t.Helper()
	many := 0
	for _, x := range decl.Items {
		for _, u := range x.Uses {
			i, _, problem := impl.PathIn(list, int64(k), x.From)
			is(t, u.Name, all(problem.Code), impl.OK)
			local := append(strings.Fields(u.As), u.Name)[0]
			here, hereProblem := impl.TypeIn(list, int64(k), decl.Name, impl.Term{Kind: impl.TeName, Name: local})
			there, thereProblem := impl.TypeIn(list, i, x.From.Name, impl.Term{Kind: impl.TeName, Name: u.Name})
			is(t, u.Name, all(hereProblem.Code, thereProblem.Code, impl.SameType(here, there), impl.HasHandles(here)), impl.OK, impl.OK, true, false)
			many++
		}
	}
	return many
}

// checkNamed checks that w contains every interface that the world and those it includes name.
func checkNamed(t *testing.T, list []impl.Package, k int, decl impl.WorldDecl, w impl.World) int {
	t.Helper()
	many := 0
	for _, x := range decl.Items {
		i, choice, problem := impl.PathIn(list, int64(k), x.Path)
		is(t, x.Path.Name, all(problem.Code), impl.OK)
		faces := w.Imports
		switch x.Kind {
		case impl.WiInclude:
			at := slices.IndexFunc(list[i].Worlds, func(d impl.WorldDecl) bool { return d.Name == x.Path.Name })
			many += checkNamed(t, list, int(i), list[i].Worlds[at], w)
			continue
		case impl.WiExport:
			faces = w.Exports
		}
		found := slices.IndexFunc(faces, func(f impl.Face) bool { return f.Package == list[i].Name && f.Name == x.Path.Name })
		is(t, x.Path.Name, all(found >= 0), true)
		have := faces[max(found, 0)].Version
		is(t, x.Path.Name, all(impl.Serves(have, choice.Version), x.Path.Version == "" || impl.Serves(have, x.Path.Version)), true, true)
		many++
	}
	return many
}

// TestP8LongUses leads a name through as many interfaces and names as packages can have.
func TestP8LongUses(t *testing.T) {
	// Each name of an interface is used from the next one, in a circle of all interfaces, and from the last one with the next
	// number.
	const names = 180
	list := []impl.Package{}
	for k := range 8 {
		x := impl.Package{Name: "p" + strconv.Itoa(k), Version: "1.0.0"}
		for f := range 8 {
			decl := impl.FaceDecl{Name: "f" + strconv.Itoa(f)}
			next := impl.Path{Name: "f" + strconv.Itoa(f+1)}
			if f == 7 {
				next = impl.Path{Package: "p" + strconv.Itoa((k+1)%8), Name: "f0"}
			}
			last := k == 7 && f == 7
			for at := 0; at < names; at += 16 {
				item := impl.Item{Kind: impl.ItUse, From: next}
				for n := at; n < min(at+16, names); n++ {
					used := n
					if last {
						used = n + 1
					}
					if last && n == names-1 {
						decl.Items = append(decl.Items, impl.Item{Kind: impl.ItType, Name: "n" + strconv.Itoa(n), Term: impl.Term{Kind: impl.TyU8}})
						continue
					}
					name := impl.UseName{Name: "n" + strconv.Itoa(used), As: "n" + strconv.Itoa(n)}
					if used == n {
						name.As = ""
					}
					item.Uses = append(item.Uses, name)
				}
				decl.Items = append(decl.Items, item)
			}
			decl.Items = append(decl.Items, impl.Item{Kind: impl.ItFunc, Name: "f", Params: []impl.TermParam{{Name: "a", Term: impl.Term{Kind: impl.TeName, Name: "n0"}}}, Term: impl.Term{Kind: impl.TyUnit}})
			x.Faces = append(x.Faces, decl)
		}
		w := impl.WorldDecl{Name: "w"}
		for f := range 6 {
			w.Items = append(w.Items, impl.WorldItem{Kind: impl.WiImport, Path: impl.Path{Name: "f" + strconv.Itoa(f)}})
		}
		again := impl.WorldDecl{Name: "again", Items: slices.Repeat([]impl.WorldItem{{Kind: impl.WiInclude, Path: impl.Path{Name: "w"}}}, 15)}
		often := impl.WorldDecl{Name: "often", Items: slices.Repeat([]impl.WorldItem{{Kind: impl.WiInclude, Path: impl.Path{Name: "again"}}}, 9)}
		x.Worlds = append(x.Worlds, w, again, often)
		list = append(list, x)
	}
	is(t, "a long way", all(impl.PackagesCode(list)), impl.OK)
	is(t, "a long way", all(faceIn(t, list, 0, "f0"), typeIn(t, list, 0, "f0", impl.Term{Kind: impl.TeName, Name: "n5"})), "p0@1.0.0/f0 {f: func(a:u8)}", "u8")
	w, problem := impl.WorldIn(list, 0, "w")
	is(t, "a long way", all(problem == impl.Problem{}, len(w.Imports) == 6, impl.WorldOk(w)), true, true, true)
	// The same way again and again.
	often, problem := impl.WorldIn(list, 0, "often")
	is(t, "a long way often", all(problem == impl.Problem{}, alike(often.Imports, w.Imports)), true, true)
	leans, problem := impl.LeansOf(list, 0, "w")
	is(t, "a long way", all(problem == impl.Problem{}, len(leans) == 64), true, true)
	// The same way without an end.
	last := list[7].Faces[7].Items
	last[len(last)-3] = impl.Item{Kind: impl.ItUse, From: impl.Path{Package: "p0", Name: "f0"}, Uses: []impl.UseName{{Name: "n0", As: "n" + strconv.Itoa(names-1)}}}
	is(t, "a long circle", all(impl.PackagesCode(list), faceIn(t, list, 0, "f0"), faceIn(t, list, 3, "f2")), impl.OK, "cycle p0@1.0.0/f0.n0", "cycle p3@1.0.0/f2.n0")
}

// TestP8ManyVisits resolves a world that leads to the same interfaces and names again and again.
func TestP8ManyVisits(t *testing.T) {
	source := "package p@1.0.0; "
	for f := range 6 {
		items := ""
		for i := range 7 {
			items += "type t" + strconv.Itoa(i) + " = tuple<t" + strconv.Itoa(i+1) + ">; "
			if i > 1 {
				items = strings.ReplaceAll(items, "tuple<t"+strconv.Itoa(i)+">", "t"+strconv.Itoa(i))
			}
		}
		items += "type t7 = tuple<u8, u8, u8, u8, u8, u8>; "
		for i := range 8 {
			items += "f" + strconv.Itoa(i) + ": func(a: t0, b: t1, c: t2, d: t3, e: t4, f: t5) -> t6; "
		}
		source += "interface f" + strconv.Itoa(f) + " { " + items + "} "
	}
	faces := "import f0; import f1; import f2; import f3; import f4; import f5; export f0; export f1; export f2; export f3; export f4; export f5; "
	list := setOf(t, source+"world small { "+faces+"} world middle { "+strings.Repeat("include small; ", 15)+"} world w { include middle; include middle; include middle; include middle; include middle; }")
	w, problem := impl.WorldIn(list, 0, "w")
	is(t, "many visits", all(problem == impl.Problem{}, len(w.Imports) == 6, len(w.Exports) == 6, impl.WorldOk(w)), true, true, true, true)
	choices, problem := impl.ChoicesIn(list, 0, "w")
	is(t, "many visits", all(problem == impl.Problem{}, int64(len(choices))), true, 980)
	apart(t, "many visits", w, choices, list)
}

// someWorld is a valid world with three imports and an export.
func someWorld(t *testing.T) impl.World {
	one, two := calc(t), calc(t)
	two.Name, two.Version, two.Resources, two.Funcs = "calm", "0.0.1", nil, nil
	three := impl.Face{Package: "base", Name: "types", Version: "1.2.0", Resources: []string{"key"}}
	return impl.World{Package: "ward", Name: "main", Version: "1.0.0", Imports: []impl.Face{one, two, three}, Exports: []impl.Face{three}}
}

func TestP8WorldText(t *testing.T) {
	w := someWorld(t)
	is(t, "a world", all(impl.WorldOk(w), impl.WorldText(w)), true, "world ward/main@1.0.0\nimport app/calc@1.0.0\n  resource file\n  resource res\n  add: async func(a:u8,b:text)->s64\n  bind: func(f:borrow<file>,l:list<own<res>>)\n  create: func()->own<res>\nimport app/calm@0.0.1\nimport base/types@1.2.0\n  resource key\nexport base/types@1.2.0\n  resource key\n")
	is(t, "an empty world", all(impl.WorldText(impl.World{Package: "a", Name: "b-1", Version: "0.0.0"})), "world a/b-1@0.0.0\n")
	zero(t, "no world", impl.WorldText(impl.World{}), impl.WorldOk(impl.World{}))
}

func TestP8WorldOk(t *testing.T) {
	change := func(what string, want bool, do func(w *impl.World)) {
		t.Helper()
		w := roomy(someWorld(t))
		do(&w)
		is(t, what, all(impl.WorldOk(w), impl.WorldText(w) != "", impl.SameWorld(w, roomy(w))), want, want, true)
	}
	change("nothing", true, func(w *impl.World) {})
	for _, name := range append(noNames(), "a", "twelve-bytes", "u8") {
		change("the package "+name, isName(name), func(w *impl.World) { w.Package = name })
		change("the name "+name, isName(name), func(w *impl.World) { w.Name = name })
	}
	for _, version := range append(noVersions(), "0.0.0", "999.999.999") {
		_, ok := modelOf(version)
		change("the version "+version, ok, func(w *impl.World) { w.Version = version })
		change("the version of an import "+version, ok, func(w *impl.World) { w.Imports[1].Version = version })
		change("the version of an export "+version, ok, func(w *impl.World) { w.Exports[0].Version = version })
	}
	faces := func(list string) []impl.Face {
		var found []impl.Face
		for _, s := range strings.Fields(list) {
			pack, name, _ := strings.Cut(s, "/")
			found = append(found, impl.Face{Package: pack, Name: name, Version: "1.0.0"})
		}
		return found
	}
	for list, want := range map[string]bool{
		"": true, "a/a": true, "a/a a/b b/a b/b": true, "a/z b/a": true, "a/a a/a-b a/aa a-b/a aa/a": true, "a/a b/b c/c d/d e/e f/f": true, "ab/c abc/a": true,
		"a/a a/a": false, "a/b a/a": false, "b/a a/b": false, "a/a b/b a/c": false, "a/a a/b a/b": false, "a/a b/b c/c d/d e/e f/f g/g": false, "a-b/a aa/a a/b": false, "A/a": false, "a/": false, "/a": false, "aa/a a-b/a": false,
	} {
		change("the imports "+list, want, func(w *impl.World) { w.Imports = faces(list) })
		change("the exports "+list, want, func(w *impl.World) { w.Exports = faces(list) })
	}
	change("one interface in two versions", false, func(w *impl.World) { w.Imports = faces("a/a a/a"); w.Imports[1].Version = "2.0.0" })
	change("imports that are exports", true, func(w *impl.World) { w.Exports = w.Imports })
	for i, do := range []func(f *impl.Face){
		func(f *impl.Face) { f.Resources = []string{"b", "a"} }, func(f *impl.Face) { f.Resources = []string{"a", "b", "c", "d", "e"} }, func(f *impl.Face) { f.Funcs = manyFuncs(9) }, func(f *impl.Face) { f.Funcs = []impl.Func{{Name: "f"}} }, func(f *impl.Face) { f.Funcs[0].Type.Result = impl.Type{Kind: impl.TyOwn, Name: "other"} },
	} {
		change("an invalid import "+strconv.Itoa(i), false, func(w *impl.World) { do(&w.Imports[0]) })
		change("an invalid export "+strconv.Itoa(i), false, func(w *impl.World) { w.Exports = slices.Clone(w.Imports); do(&w.Exports[0]) })
	}
	change("many imports", false, func(w *impl.World) { w.Imports = make([]impl.Face, 100000) })
	for i, u := range deepTypes() {
		w := someWorld(t)
		w.Imports[0].Funcs[0].Type.Result = u
		zero(t, "deep type "+strconv.Itoa(i), impl.WorldOk(w), impl.WorldText(w))
		is(t, "deep type "+strconv.Itoa(i), all(impl.SameWorld(w, w), impl.SameWorld(w, someWorld(t))), i >= 7, false)
	}
}

func TestP8SameWorld(t *testing.T) {
	base := someWorld(t)
	is(t, "a world", all(impl.SameWorld(base, roomy(base)), impl.SameWorld(impl.World{}, impl.World{Imports: []impl.Face{}}), impl.SameWorld(base, impl.World{})), true, true, false)
	for i, do := range []func(w *impl.World){
		func(w *impl.World) { w.Package = "other" }, func(w *impl.World) { w.Name = "" }, func(w *impl.World) { w.Version = "1.0.1" }, func(w *impl.World) { w.Imports = nil }, func(w *impl.World) { w.Exports = nil }, func(w *impl.World) { w.Imports = w.Imports[:2] }, func(w *impl.World) { w.Exports = append(w.Exports, impl.Face{}) },
		func(w *impl.World) { w.Imports[0], w.Imports[1] = w.Imports[1], w.Imports[0] }, func(w *impl.World) { w.Imports, w.Exports = w.Exports, w.Imports }, func(w *impl.World) { w.Exports[0].Version = "1.2.1" }, func(w *impl.World) { w.Exports[0].Resources = nil }, func(w *impl.World) { w.Imports[0].Funcs[2].Name = "crease" }, func(w *impl.World) { w.Imports[0].Funcs[0].Type.Async = false }, func(w *impl.World) { w.Imports[0].Funcs[1].Type.Params[1].Type.Kind = impl.TyOption },
	} {
		other := roomy(base)
		do(&other)
		is(t, "change "+strconv.Itoa(i), all(impl.SameWorld(base, other), impl.SameWorld(other, base), impl.SameWorld(other, roomy(other))), false, false, true)
	}
	odd := impl.World{Package: "A", Version: "x", Imports: []impl.Face{{Name: "é"}, {Name: "a", Funcs: []impl.Func{{Type: impl.FuncType{Result: impl.Type{Kind: 99}}}}}}}
	is(t, "an invalid world", all(impl.SameWorld(odd, roomy(odd)), impl.SameWorld(odd, base)), true, false)
}

// resolveCase is what the functions of chapter 7 are called with.
type resolveCase struct {
	List []impl.Package
	K    int64
	Name string
	Term impl.Term
	Path impl.Path
}

func TestP1Resolve(t *testing.T) {
	t.Parallel()
	r := rand.New(rand.NewSource(73))
	call := func(c resolveCase) []any {
		i, choice, problem := impl.PathIn(c.List, c.K, c.Path)
		at, why, code := impl.PickPackage(c.List, c.Path.Package, c.Path.Version)
		u, typeProblem := impl.TypeIn(c.List, c.K, c.Name, c.Term)
		f, faceProblem := impl.FaceIn(c.List, c.K, c.Name)
		w, worldProblem := impl.WorldIn(c.List, c.K, c.Name)
		choices, choicesProblem := impl.ChoicesIn(c.List, c.K, c.Name)
		leans, leansProblem := impl.LeansOf(c.List, c.K, c.Name)
		return all(impl.PackagesCode(c.List), i, choice, problem, at, why, code, u, typeProblem, f, faceProblem, w, worldProblem, choices, choicesProblem, leans, leansProblem)
	}
	for range 30 {
		list := someSet(r, 0.02)
		for k := int64(-1); k <= int64(len(list)); k++ {
			for _, name := range []string{"f", "g", "v", "w", "none"} {
				s := &setMaker{Rand: r, wild: 0.5, declared: strings.Fields("a b c d e"), resources: strings.Fields("a b")}
				p, _ := s.path(false)
				pure(t, "resolving", resolveCase{list, k, name, s.term(3), p}, call)
			}
		}
	}
	// The same names again and again in one answer.
	list := setOf(t, "package p@1.0.0; interface f { resource r; type a = record { x: list<r>, y: enum { p, q } }; use g.{b, b as c}; g: func(x: a, y: a, z: b) -> tuple<b, c>; h: func(x: a, y: c) -> b; } interface g { type b = flags { x, y }; } world w { import f; export f; import g; export g; }")
	for _, x := range []string{"tuple<a, a>", "tuple<b, b, c>", "a", "record { x: b, y: list<b> }"} {
		is(t, x, all(impl.PackagesCode(list), strings.Contains(typeIn(t, list, 0, "f", termed(t, x)), "x")), impl.OK, true)
		pure(t, x, resolveCase{list, 0, "f", termed(t, x), impl.Path{Name: "f"}}, call)
		pure(t, x, resolveCase{list, 0, "w", termed(t, x), impl.Path{Name: "f"}}, call)
	}
	for _, bad := range badPackages(t) {
		pure(t, "a bad package", resolveCase{List: []impl.Package{bad}, Name: "beds"}, call)
	}
	for i, x := range deepTerms() {
		list := []impl.Package{{Name: "a", Version: "1.0.0", Faces: []impl.FaceDecl{{Name: "f", Items: []impl.Item{{Kind: impl.ItType, Name: "t", Term: x}}}}}}
		is(t, "deep term "+strconv.Itoa(i), all(impl.PackagesCode(list), faceIn(t, list, 0, "f"), worldIn(t, list, 0, "w")), impl.ErrForm, "form", "form")
	}
	pure(t, "worlds", someWorld(t), func(w impl.World) []any {
		return all(impl.WorldOk(w), impl.WorldText(w), impl.SameWorld(w, w), impl.SameWorld(w, impl.World{}))
	})
	pure(t, "an invalid world", impl.World{Imports: []impl.Face{{Funcs: []impl.Func{{}}}}}, func(w impl.World) []any {
		return all(impl.WorldOk(w), impl.WorldText(w), impl.SameWorld(w, w), impl.SameWorld(w, impl.World{}))
	})
}
