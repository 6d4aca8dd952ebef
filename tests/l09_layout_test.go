package tests

import (
	"math/rand"
	"slices"
	"strconv"
	"strings"
	"testing"

	"loop.example/g00901/impl"
)

// extent is a size with an alignment.
type extent struct{ size, align int64 }

// extents are those of the kinds for which the table of chapter 9 gives numbers.
var extents = map[string]extent{
	"unit": {0, 1}, "bool": {1, 1}, "u8": {1, 1}, "s8": {1, 1}, "enum": {1, 1}, "u16": {2, 2}, "s16": {2, 2},
	"u32": {4, 4}, "s32": {4, 4}, "char": {4, 4}, "own": {4, 4}, "borrow": {4, 4}, "stream": {4, 4}, "future": {4, 4},
	"s64": {8, 8}, "text": {8, 4}, "list": {8, 4},
}

// numberSizes are the sizes of the kinds that have a NumSize.
var numberSizes = map[string]int64{
	"bool": 1, "u8": 1, "s8": 1, "u16": 2, "s16": 2, "u32": 4, "s32": 4, "s64": 8, "char": 4, "own": 4, "borrow": 4, "stream": 4, "future": 4,
}

// counted is the first number from n on that align divides, found by counting.
func counted(n, align int64) int64 {
	for n%align != 0 {
		n++
	}
	return n
}

// rowModel lays out the elements of a tuple.
func rowModel(list []impl.Type) ([]int64, extent) {
	var offsets []int64
	row := extent{0, 1}
	for _, u := range list {
		e := extentModel(u)
		offsets = append(offsets, counted(row.size, e.align))
		row = extent{offsets[len(offsets)-1] + e.size, max(row.align, e.align)}
	}
	row.size = counted(row.size, row.align)
	return offsets, row
}

// caseModel lays out a case index with one of several cases behind it, and returns the payload offset too.
func caseModel(cases []impl.Type) (int64, extent) {
	union := extent{0, 1}
	for _, u := range cases {
		e := extentModel(u)
		union = extent{max(union.size, e.size), max(union.align, e.align)}
	}
	at := counted(1, union.align)
	union.size = counted(at+union.size, union.align)
	return at, union
}

// hasCases reports whether a type has cases by chapter 9, which are not those of casesOf.
func hasCases(u impl.Type) bool {
	return u.Kind == impl.TyOption || u.Kind == impl.TyResult || u.Kind == impl.TyVariant
}

func extentModel(u impl.Type) extent {
	switch {
	case u.Kind == impl.TyFlags && len(u.Labels) <= 8:
		return extent{1, 1}
	case u.Kind == impl.TyFlags:
		return extent{2, 2}
	case u.Kind == impl.TyTuple || u.Kind == impl.TyRecord:
		_, row := rowModel(u.Kids)
		return row
	case hasCases(u):
		_, union := caseModel(casesOf(u))
		return union
	}
	return extents[kindWords[u.Kind-1]]
}

// typedList reads the types that the test needs, which are separated by blanks.
func typedList(t *testing.T, list string) []impl.Type {
	t.Helper()
	var types []impl.Type
	for _, s := range strings.Fields(list) {
		types = append(types, typed(t, s))
	}
	return types
}

// checkLayout compares what the program says of a valid type with the model.
func checkLayout(t *testing.T, u impl.Type) {
	t.Helper()
	want := extentModel(u)
	is(t, printed(u), all(impl.SizeOf(u), impl.AlignOf(u)), want.size, want.align)
	if impl.SizeOf(u)%impl.AlignOf(u) != 0 {
		t.Errorf("%s: the size %d is no multiple of %d", printed(u), impl.SizeOf(u), impl.AlignOf(u))
	}
	if !hasCases(u) {
		is(t, printed(u), all(int64(len(impl.CasesOf(u))), impl.CaseAt(u)), 0, 0)
		return
	}
	at, _ := caseModel(casesOf(u))
	is(t, printed(u), all(alike(impl.CasesOf(u), casesOf(u)), impl.CaseAt(u)), true, at)
	for _, kid := range impl.CasesOf(u) {
		if at < 1 || at%impl.AlignOf(kid) != 0 || at+impl.SizeOf(kid) > impl.SizeOf(u) {
			t.Errorf("%s: %s does not lie at %d", printed(u), printed(kid), at)
		}
	}
}

// checkRow compares what the program says of a list of valid types with the model and with promise 11.
func checkRow(t *testing.T, list []impl.Type) {
	t.Helper()
	offsets, row := rowModel(list)
	got := impl.PartsAt(list)
	is(t, shown(list), all(alike(got, offsets), impl.TotalSize(list), impl.TotalAlign(list)), true, row.size, row.align)
	if len(got) != len(list) {
		return
	}
	end := int64(0)
	for i, u := range list {
		if got[i]%impl.AlignOf(u) != 0 || got[i] < end || got[i]-end >= impl.AlignOf(u) || impl.TotalAlign(list)%impl.AlignOf(u) != 0 {
			t.Errorf("%s: element %d at %d, behind %d", shown(list), i, got[i], end)
		}
		end = got[i] + impl.SizeOf(u)
	}
	if rest := impl.TotalSize(list) - end; rest < 0 || rest >= impl.TotalAlign(list) || impl.TotalSize(list)%impl.TotalAlign(list) != 0 {
		t.Errorf("%s: the size is %d, and the last element ends at %d", shown(list), impl.TotalSize(list), end)
	}
}

// checkNoLayout checks that a type, and every list with it, yields nothing.
func checkNoLayout(t *testing.T, what string, u impl.Type) {
	t.Helper()
	zero(t, what, impl.SizeOf(u), impl.AlignOf(u), int64(len(impl.CasesOf(u))), impl.CaseAt(u))
	u8, s64 := impl.Type{Kind: impl.TyU8}, impl.Type{Kind: impl.TyS64}
	for _, list := range [][]impl.Type{{u}, {u, u8}, {u8, u}, {s64, u, u8}, append(slices.Repeat([]impl.Type{u8}, impl.MaxParts-1), u)} {
		checkNoRow(t, what+" in a list", list)
	}
}

func checkNoRow(t *testing.T, what string, list []impl.Type) {
	t.Helper()
	zero(t, what, int64(len(impl.PartsAt(list))), impl.TotalSize(list), impl.TotalAlign(list))
}

// TestP11SizeTable has a type of each row of the table of sizes.
func TestP11SizeTable(t *testing.T) {
	seen := map[int64]bool{}
	for _, c := range []struct {
		types       string
		size, align int64
	}{
		{"unit", 0, 1}, {"bool u8 s8 enum{a} enum{a,b,c,d,e,f,g,h,i,j,k,l,m,n,o,p}", 1, 1}, {"u16 s16", 2, 2}, {"s64", 8, 8},
		{"u32 s32 char own<r> borrow<r> stream<u8> stream<unit> stream<s64> future<s64> future<tuple<u8,s64>> future<unit>", 4, 4},
		{"text list<u8> list<s64> list<text> list<own<r>> list<tuple<u8,s64>>", 8, 4},
		{"flags{a} flags{a,b} flags{a,b,c,d,e,f,g,h}", 1, 1}, {"flags{a,b,c,d,e,f,g,h,i} flags{a,b,c,d,e,f,g,h,i,j,k,l,m,n,o,p}", 2, 2},
		{"tuple<u8> record{a:bool} tuple<tuple<u8>> record{a:enum{b}}", 1, 1}, {"tuple<u8,u16> record{a:u8,b:u16} tuple<u16,u8> record{a:u16,b:flags{c}}", 4, 2},
		{"tuple<u8,bool>", 2, 1}, {"record{a:u8,b:bool,c:s8}", 3, 1}, {"tuple<u8,u32,u8> record{a:u8,b:u32,c:u8}", 12, 4}, {"record{a:u8,b:s64} record{b:s64,a:u8} tuple<tuple<u8>,s64>", 16, 8},
		{"tuple<u8,text> tuple<list<u8>,u8> tuple<u8,u32,u32>", 12, 4}, {"tuple<tuple<u8,u32>,tuple<u8,u16>>", 12, 4}, {"tuple<tuple<u32,u8>,u8>", 12, 4}, {"tuple<u8,tuple<u8,u16>,u8>", 8, 2},
		{"option<u8> option<bool> option<enum{a}>", 2, 1}, {"option<u16> option<flags{a,b,c,d,e,f,g,h,i}>", 4, 2}, {"option<u32> option<own<r>> option<stream<s64>>", 8, 4}, {"option<text> option<list<u8>> option<option<u32>>", 12, 4}, {"option<s64>", 16, 8}, {"option<option<u8>>", 3, 1}, {"option<option<s64>>", 24, 8},
		{"result<unit,unit>", 1, 1}, {"result<u8,unit> result<unit,u8> result<u8,bool>", 2, 1}, {"result<u8,u32> result<u32,u8> result<unit,char> result<u16,u32>", 8, 4}, {"result<text,s64> result<s64,text> result<s64,unit> result<tuple<u32,u32>,s64>", 16, 8},
		{"result<tuple<u8,u8,u8>,u16> result<u16,tuple<u8,u8,u8>>", 6, 2}, {"result<tuple<u16,u16,u16>,u32>", 12, 4},
		{"variant{a} variant{a,b,c}", 1, 1}, {"variant{a:u8} variant{a,b:u8,c:bool}", 2, 1}, {"variant{a,b:u16} variant{a:u8,b:u16} variant{a:u16,b:u8}", 4, 2}, {"variant{a:u8,b:s64,c:text} variant{c:text,b:s64}", 16, 8}, {"variant{a:tuple<u8,u8,u8,u8,u8>,b:u16}", 8, 2}, {"variant{a:tuple<u8,u8,u8,u8,u8>,b:u32}", 12, 4},
	} {
		for _, u := range typedList(t, c.types) {
			seen[u.Kind] = true
			is(t, printed(u), all(impl.SizeOf(u), impl.AlignOf(u)), c.size, c.align)
			checkLayout(t, u)
		}
	}
	is(t, "kinds with a row", all(int64(len(seen))), len(kindWords))
}

func TestP11Flags(t *testing.T) {
	labels := strings.Fields("a b c d e f g h i j k l m n o p")
	for many := 1; many <= 16; many++ {
		u := impl.Type{Kind: impl.TyFlags, Labels: labels[:many]}
		want := 1
		if many >= 9 {
			want = 2
		}
		is(t, strconv.Itoa(many)+" labels", all(impl.SizeOf(u), impl.AlignOf(u)), want, want)
		e := impl.Type{Kind: impl.TyEnum, Labels: labels[:many]}
		is(t, strconv.Itoa(many)+" words", all(impl.SizeOf(e), impl.AlignOf(e)), 1, 1)
	}
	for _, u := range []impl.Type{{Kind: impl.TyFlags}, {Kind: impl.TyFlags, Labels: append(labels, "q")}, {Kind: impl.TyEnum}, {Kind: impl.TyFlags, Labels: []string{"a", "a"}}} {
		checkNoLayout(t, shown(u), u)
	}
}

func TestP11NumSize(t *testing.T) {
	is(t, "the examples", all(impl.NumSize(impl.TyU16), impl.NumSize(impl.TyText)), 2, 0)
	for i, word := range kindWords {
		is(t, word, all(impl.NumSize(int64(i+1))), numberSizes[word])
	}
	for _, kind := range edges() {
		if kind < 1 || kind > 23 {
			zero(t, "kind "+strconv.FormatInt(kind, 10), impl.NumSize(kind))
		}
	}
	for _, u := range someTypes(91, 300) {
		if n := impl.NumSize(u.Kind); n > 0 {
			is(t, printed(u), all(impl.SizeOf(u), impl.AlignOf(u)), n, n)
		}
	}
}

func TestP11Cases(t *testing.T) {
	for _, c := range []struct {
		text, cases string
		at          int64
	}{
		{"option<u8>", "unit u8", 1}, {"option<u16>", "unit u16", 2}, {"option<u32>", "unit u32", 4}, {"option<s64>", "unit s64", 8}, {"option<text>", "unit text", 4}, {"option<own<r>>", "unit own<r>", 4}, {"option<option<u16>>", "unit option<u16>", 2}, {"option<record{a:u8,b:s64}>", "unit record{a:u8,b:s64}", 8},
		{"result<unit,unit>", "unit unit", 1}, {"result<u8,u32>", "u8 u32", 4}, {"result<u32,u8>", "u32 u8", 4}, {"result<unit,s64>", "unit s64", 8}, {"result<text,unit>", "text unit", 4},
		{"variant{a}", "unit", 1}, {"variant{a,b,c}", "unit unit unit", 1}, {"variant{a,b:u16}", "unit u16", 2}, {"variant{a:s64,b,c:u8}", "s64 unit u8", 8}, {"variant{a:enum{b}}", "enum{b}", 1}, {"variant{b:flags{a,b,c,d,e,f,g,h,i},a:u8}", "flags{a,b,c,d,e,f,g,h,i} u8", 2}, {"variant{a:tuple<u8,u8,u8,u8>,b:u16}", "tuple<u8,u8,u8,u8> u16", 2},
		{"unit", "", 0}, {"bool", "", 0}, {"u8", "", 0}, {"s64", "", 0}, {"text", "", 0}, {"list<option<u8>>", "", 0}, {"tuple<option<u8>>", "", 0}, {"record{a:variant{b}}", "", 0}, {"enum{a,b}", "", 0}, {"flags{a,b}", "", 0}, {"own<r>", "", 0}, {"borrow<r>", "", 0}, {"stream<option<u8>>", "", 0}, {"future<result<u8,u8>>", "", 0},
	} {
		u := typed(t, c.text)
		is(t, c.text, all(alike(impl.CasesOf(u), typedList(t, c.cases)), impl.CaseAt(u)), true, c.at)
		checkLayout(t, u)
	}
}

func TestP11Rows(t *testing.T) {
	for _, c := range []struct {
		list, offsets string
		size, align   int64
	}{
		{"", "", 0, 1}, {"u8 u32 u8 s64", "0 4 8 16", 24, 8}, {"u8", "0", 1, 1}, {"s64", "0", 8, 8}, {"s64 u8", "0 8", 16, 8}, {"u8 s64", "0 8", 16, 8}, {"u32 u8", "0 4", 8, 4}, {"u32 u8 u8 u8 u8", "0 4 5 6 7", 8, 4}, {"u32 u8 u8 u8 u8 u8", "0 4 5 6 7 8", 12, 4},
		{"u8 u16 u8 u32 u8 s64 u8", "0 2 4 8 12 16 24", 32, 8}, {"u16 u8 u8 u16", "0 2 3 4", 6, 2}, {"u8 text u8", "0 4 12", 16, 4}, {"text text", "0 8", 16, 4}, {"u8 list<s64>", "0 4", 12, 4}, {"u8 own<r> stream<unit>", "0 4 8", 12, 4},
		{"unit", "0", 0, 1}, {"unit unit unit", "0 0 0", 0, 1}, {"u8 unit u8", "0 1 1", 2, 1}, {"u8 unit s64 unit", "0 1 8 16", 16, 8}, {"unit s64", "0 0", 8, 8}, {"s64 unit", "0 8", 8, 8},
		{"option<u8> u16", "0 2", 4, 2}, {"u8 option<s64> u8", "0 8 24", 32, 8}, {"tuple<u8,u16> u8 tuple<u16,u8>", "0 4 6", 10, 2}, {"flags{a} flags{a,b,c,d,e,f,g,h,i} enum{a}", "0 2 4", 6, 2}, {"u8 u8 u8 u8 u8 u8 u8 u8 u8 s64", "0 1 2 3 4 5 6 7 8 16", 24, 8},
	} {
		list := typedList(t, c.list)
		var offsets []string
		for _, n := range impl.PartsAt(list) {
			offsets = append(offsets, strconv.FormatInt(n, 10))
		}
		is(t, c.list, all(strings.Join(offsets, " "), impl.TotalSize(list), impl.TotalAlign(list)), c.offsets, c.size, c.align)
		checkRow(t, list)
	}
}

// TestP11RowLimits has lists of MaxParts types, which can have far more parts, and of more types.
func TestP11RowLimits(t *testing.T) {
	u8, s64 := impl.Type{Kind: impl.TyU8}, impl.Type{Kind: impl.TyS64}
	wide := typed(t, "tuple<tuple<s64,u8,s64,u8,s64,u8>,tuple<s64,u8,s64,u8,s64,u8>,tuple<s64,u8,s64,u8,s64,u8>,s64,u8>")
	for _, u := range []impl.Type{u8, s64, wide, {Kind: impl.TyUnit}} {
		full := slices.Repeat([]impl.Type{u}, impl.MaxParts)
		is(t, printed(u), all(int64(len(impl.PartsAt(full))), impl.TotalSize(full), impl.TotalAlign(full)), impl.MaxParts, impl.MaxParts*impl.SizeOf(u), impl.AlignOf(u))
		checkRow(t, full)
		checkRow(t, full[1:])
		checkNoRow(t, "one type more", append(full, u))
		checkNoRow(t, "very many types", slices.Repeat(full, 5000))
		for i := range full {
			list := slices.Clone(full)
			list[i] = impl.Type{Kind: impl.TyList}
			checkNoRow(t, "one invalid type", list)
			checkNoRow(t, "one invalid type of a short list", list[:i+1])
		}
	}
	is(t, "the empty list", all(int64(len(impl.PartsAt([]impl.Type{}))), impl.TotalSize([]impl.Type{}), impl.TotalAlign([]impl.Type{})), 0, 0, 1)
}

func TestP11Invalid(t *testing.T) {
	within, beyond := limitTypes()
	for _, u := range within {
		checkLayout(t, u)
		checkRow(t, []impl.Type{{Kind: impl.TyU8}, u, {Kind: impl.TyU8}})
	}
	for _, u := range beyond {
		checkNoLayout(t, printedLoose(u), u)
	}
	for _, kind := range []int64{0, -1, 24, 30, 1<<32 + 3, 1<<32 + impl.TyOption} {
		checkNoLayout(t, "kind "+strconv.FormatInt(kind, 10), impl.Type{Kind: kind})
		checkNoLayout(t, "kind "+strconv.FormatInt(kind, 10), impl.Type{Kind: kind, Kids: []impl.Type{{Kind: impl.TyU8}}})
		checkNoLayout(t, "an option of kind "+strconv.FormatInt(kind, 10), impl.Type{Kind: impl.TyOption, Kids: []impl.Type{{Kind: kind}}})
	}
	for _, kind := range []int64{impl.TyList, impl.TyOption, impl.TyResult, impl.TyTuple, impl.TyRecord, impl.TyVariant, impl.TyOwn, impl.TyBorrow, impl.TyStream, impl.TyFuture} {
		checkNoLayout(t, "nothing of kind "+strconv.FormatInt(kind, 10), impl.Type{Kind: kind})
	}
	for _, kind := range []int64{impl.TyUnit, impl.TyBool, impl.TyU8, impl.TyS64, impl.TyText} {
		checkNoLayout(t, "with a name, kind "+strconv.FormatInt(kind, 10), impl.Type{Kind: kind, Name: "a"})
		checkNoLayout(t, "with a Kid, kind "+strconv.FormatInt(kind, 10), impl.Type{Kind: kind, Kids: []impl.Type{{Kind: impl.TyU8}}})
	}
	checkNoLayout(t, "a borrow in a stream", impl.Type{Kind: impl.TyStream, Kids: []impl.Type{{Kind: impl.TyBorrow, Name: "r"}}})
	checkNoLayout(t, "an option of unit", impl.Type{Kind: impl.TyOption, Kids: []impl.Type{{Kind: impl.TyUnit}}})
	r := rand.New(rand.NewSource(92))
	for _, u := range someTypes(93, 500) {
		u = broken(r, u)
		checkNoLayout(t, shown(u), u)
	}
}

// TestP11Model has types and lists of types that are made up.
func TestP11Model(t *testing.T) {
	t.Parallel()
	r := rand.New(rand.NewSource(94))
	list := someTypes(95, 3000)
	for _, s := range goodTypes {
		list = append(list, typed(t, s))
	}
	met := map[int64]int{}
	for _, u := range list {
		checkLayout(t, u)
		met[impl.AlignOf(u)]++
		checkRow(t, u.Kids)
		if u.Kind == impl.TyTuple || u.Kind == impl.TyRecord {
			is(t, printed(u), all(impl.TotalSize(u.Kids), impl.TotalAlign(u.Kids)), impl.SizeOf(u), impl.AlignOf(u))
		}
	}
	for range 2000 {
		var row []impl.Type
		for range r.Intn(impl.MaxParts + 1) {
			row = append(row, list[r.Intn(len(list))])
		}
		checkRow(t, row)
	}
	for _, align := range []int64{1, 2, 4, 8} {
		if met[align] < 100 {
			t.Errorf("%d types with the alignment %d: not enough", met[align], align)
		}
	}
}

func TestP1DeepLayouts(t *testing.T) {
	for i, u := range deepTypes() {
		what := "deep type " + strconv.Itoa(i)
		checkNoLayout(t, what, u)
		checkNoLayout(t, what+" in an option", impl.Type{Kind: impl.TyOption, Kids: []impl.Type{u}})
		checkNoLayout(t, what+" in a tuple", impl.Type{Kind: impl.TyTuple, Kids: []impl.Type{{Kind: impl.TyU8}, u}})
		checkNoRow(t, what+", often", slices.Repeat([]impl.Type{u}, impl.MaxParts))
	}
}

func TestP1Layout(t *testing.T) {
	r := rand.New(rand.NewSource(96))
	call := func(list []impl.Type) []any {
		results := all(impl.PartsAt(list), impl.PartsAt(list), impl.TotalSize(list), impl.TotalAlign(list))
		for _, u := range list {
			results = append(results, impl.SizeOf(u), impl.AlignOf(u), impl.CasesOf(u), impl.CasesOf(u), impl.CaseAt(u))
		}
		return results
	}
	within, beyond := limitTypes()
	list := slices.Concat(someTypes(97, 500), within, beyond, []impl.Type{{}, {Kind: impl.TyOption, Kids: []impl.Type{{}, {}}}})
	for i, u := range list {
		pure(t, shown(u), []impl.Type{u}, call)
		pure(t, "a list", list[i:min(len(list), i+r.Intn(impl.MaxParts+2))], call)
	}
	pure(t, "no types", nil, call)
	for _, kind := range edges() {
		twice(t, "NumSize", func() string { return shown(impl.NumSize(kind)) })
	}
}
