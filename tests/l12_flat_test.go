package tests

import (
	"math"
	"math/big"
	"math/rand"
	"slices"
	"strconv"
	"strings"
	"testing"

	"loop.example/g00901/impl"
)

// flatModel returns the flat kinds of a valid type: s for FkSmall and w for FkWide.
func flatModel(u impl.Type) string {
	var kids []string
	for _, kid := range u.Kids {
		kids = append(kids, flatModel(kid))
	}
	switch kindWords[u.Kind-1] {
	case "unit":
		return ""
	case "s64":
		return "w"
	case "text", "list":
		return "ss"
	case "tuple", "record":
		return strings.Join(kids, "")
	case "option", "result", "variant":
		return "s" + joinModel(kids...)
	}
	return "s"
}

// joinModel returns the join of sequences of kinds, column by column.
func joinModel(list ...string) string {
	joined := ""
	for i := 0; ; i++ {
		column := ""
		for _, s := range list {
			column += s[min(i, len(s)):min(i+1, len(s))]
		}
		switch {
		case column == "":
			return joined
		case strings.Contains(column, "w"):
			joined += "w"
		default:
			joined += "s"
		}
	}
}

// flatModelOfAll returns the flat kinds of a list of valid types.
func flatModelOfAll(list []impl.Type) string {
	text := ""
	for _, u := range list {
		text += flatModel(u)
	}
	return text
}

// letters returns kinds in the form of the model.
func letters(kinds []int64) string {
	text := ""
	for _, kind := range kinds {
		switch kind {
		case 1:
			text += "s"
		case 2:
			text += "w"
		default:
			text += "?"
		}
	}
	return text
}

// kindsIn returns the kinds that letters returns as text.
func kindsIn(text string) []int64 {
	var kinds []int64
	for _, c := range text {
		kinds = append(kinds, map[rune]int64{'s': 1, 'w': 2}[c])
	}
	return kinds
}

// everyKinds returns all sequences of up to so many kinds.
func everyKinds(most int) []string {
	list := []string{""}
	for i := 0; len(list[i]) < most; i++ {
		list = append(list, list[i]+"s", list[i]+"w")
	}
	return list
}

// noKinds are numbers that are no flat kinds.
var noKinds = []int64{0, 3, 4, -1, -2, 1<<32 + 1, 1<<32 + 2, 257, math.MaxInt64, math.MinInt64, math.MinInt64 + 1, math.MinInt64 + 2}

// checkFlat compares what the program says of a list of valid types, and of each of them, with the model.
func checkFlat(t *testing.T, list []impl.Type) {
	t.Helper()
	for _, u := range list {
		is(t, printed(u), all(letters(impl.FlatOf(u)), impl.KindsOk(impl.FlatOf(u))), flatModel(u), true)
	}
	want := flatModelOfAll(list)
	is(t, shown(list), all(letters(impl.FlatOfAll(list)), impl.IsSpilled(list)), want, len(want) > 8)
}

// checkNoFlat checks that a list of types has no flat kinds.
func checkNoFlat(t *testing.T, what string, list []impl.Type) {
	t.Helper()
	is(t, what, all(int64(len(impl.FlatOfAll(list))), impl.IsSpilled(list)), 0, false)
}

// checkNoFlatType checks that an invalid type has no flat kinds, and no list with it.
func checkNoFlatType(t *testing.T, what string, u impl.Type) {
	t.Helper()
	is(t, what, all(int64(len(impl.FlatOf(u)))), 0)
	u8, text := impl.Type{Kind: impl.TyU8}, impl.Type{Kind: impl.TyText}
	for _, list := range [][]impl.Type{{u}, {u, u8}, {u8, u}, {u8, u, u8}, append(slices.Repeat([]impl.Type{text}, impl.MaxParts-1), u), append([]impl.Type{u}, slices.Repeat([]impl.Type{text}, impl.MaxParts-1)...)} {
		checkNoFlat(t, what+" in a list", list)
	}
}

// TestP14FlatTable has types of each row of the list of flat kinds.
func TestP14FlatTable(t *testing.T) {
	is(t, "constants", all(int64(impl.MaxFlat), int64(impl.FkSmall), int64(impl.FkWide)), 8, 1, 2)
	seen := map[int64]bool{}
	for _, c := range []struct{ types, flat string }{
		{"unit", ""}, {"s64", "w"}, {"text list<u8> list<s64> list<text> list<tuple<s64,s64,s64>> list<list<s64>> list<option<s64>>", "ss"},
		{"bool u8 s8 u16 s16 u32 s32 char enum{a} enum{a,b,c} flags{a} flags{a,b,c,d,e,f,g,h} flags{a,b,c,d,e,f,g,h,i} flags{" + sixteen + "} enum{" + sixteen + "} own<r> borrow<r>", "s"},
		{"stream<u8> stream<s64> stream<unit> stream<text> stream<tuple<s64,text>> future<u8> future<s64> future<unit> future<text> future<option<s64>> stream<own<r>>", "s"},
		{"tuple<u8> record{a:u8} tuple<tuple<bool>> record{a:record{b:flags{c}}}", "s"}, {"tuple<s64> record{a:s64} tuple<tuple<s64>>", "w"}, {"tuple<text> record{a:list<s64>}", "ss"},
		{"tuple<u8,s64> record{a:u8,b:s64} tuple<tuple<u8,s64>> tuple<tuple<u8>,tuple<s64>> record{b:u8,a:s64}", "sw"}, {"tuple<s64,u8> record{b:s64,a:u8}", "ws"}, {"tuple<s64,s64>", "ww"}, {"record{a:s64,b:text,c:s64} tuple<s64,list<s64>,s64> tuple<tuple<s64,text>,s64>", "wssw"},
		{"tuple<u8,u8,u8,u8,u8,u8>", "ssssss"}, {"tuple<text,text,text,text,text,text>", "ssssssssssss"}, {"tuple<s64,u8,s64,u8,s64,u8>", "wswsws"}, {"record{" + strings.ReplaceAll(sixteen, ",", ":s64,") + ":u8}", "wwwwwwwwwwwwwwws"},
		{"option<u8> option<bool> option<own<r>> option<stream<s64>> option<enum{a}> option<flags{a}> option<tuple<u8>>", "ss"}, {"option<s64> option<tuple<s64>> option<record{a:s64}>", "sw"}, {"option<text> option<list<s64>> option<tuple<u8,u8>> option<option<u8>> tuple<u8,option<u8>> tuple<option<u8>,u8>", "sss"}, {"option<option<s64>> tuple<u8,option<s64>>", "ssw"}, {"option<option<option<u8>>> option<option<text>>", "ssss"}, {"option<option<option<s64>>>", "sssw"}, {"option<tuple<s64,u8>> tuple<option<s64>,u8>", "sws"}, {"option<tuple<u8,s64>>", "ssw"},
		{"result<unit,unit>", "s"}, {"result<u8,unit> result<unit,u8> result<u8,bool> result<char,own<r>> result<unit,stream<s64>>", "ss"}, {"result<s64,unit> result<unit,s64> result<s64,u8> result<u8,s64> result<s64,s64>", "sw"}, {"result<text,unit> result<unit,text> result<text,u8> result<u8,list<s64>> result<text,text>", "sss"}, {"result<text,s64> result<s64,text> result<tuple<u8,u8>,s64> result<tuple<s64,u8>,unit> result<s64,tuple<u8,u8>>", "sws"}, {"result<tuple<u8,s64>,u8> result<u8,tuple<u8,s64>> result<text,tuple<u8,s64>> result<tuple<u8,s64>,text>", "ssw"}, {"result<tuple<u8,s64>,s64> result<s64,tuple<u8,s64>> result<tuple<s64,u8>,tuple<u8,s64>> result<tuple<u8,s64>,tuple<s64,u8>>", "sww"},
		{"result<result<unit,unit>,unit> result<unit,result<unit,unit>> result<result<unit,unit>,u8>", "ss"}, {"result<result<s64,u8>,text> result<text,option<s64>> result<option<s64>,text>", "ssw"}, {"result<option<s64>,s64> result<s64,result<u8,s64>>", "sww"}, {"result<tuple<text,s64>,s64> result<s64,tuple<u8,u8,s64>> result<tuple<s64,u8,u8>,tuple<u8,u8,s64>>", "swsw"},
		{"variant{a} variant{a,b} variant{a,b,c} variant{" + sixteen + "}", "s"}, {"variant{a:u8} variant{a,b:u8} variant{a:u8,b} variant{a,b:u8,c:char,d:enum{e}} variant{a:variant{b}} variant{a:flags{b},c}", "ss"}, {"variant{a:s64} variant{a,b:s64} variant{a:u8,b:s64,c} variant{a:s64,b:u8} variant{a:tuple<s64>,b:u8}", "sw"}, {"variant{a:text} variant{a,b:text,c:u8} variant{a:u8,b:tuple<u8,u8>} variant{a:option<u8>,b:text}", "sss"},
		{"variant{a:s64,b:text,c} variant{c,b:text,a:s64} variant{b:text,a:s64} variant{a:text,b:u8,c:s64} variant{a:s64,b:u8,c:text}", "sws"}, {"variant{a:text,b:tuple<u8,s64>} variant{a:tuple<u8,s64>,b:text} variant{a:option<s64>,b:text} variant{a,b:option<s64>}", "ssw"}, {"variant{a:u8,b:tuple<u8,s64>,c:tuple<s64,u8,u8>} variant{a:tuple<s64,u8,u8>,b:tuple<u8,s64>,c:u8}", "swws"}, {"variant{a:result<option<s64>,unit>,b:tuple<s64,s64>}", "swww"}, {"variant{a:tuple<u8,u8,s64>,b:s64,c:text}", "swsw"},
		{"variant{a:tuple<u8,u8,u8,u8,u8,s64>,b:tuple<s64,u8>,c}", "swssssw"}, {"result<option<s64>,tuple<s64,u8,u8>>", "swws"}, {"tuple<u8,variant{a:s64,b:text,c},s64>", "sswsw"}, {"record{a:option<s64>,b:result<text,s64>,c:variant{d,e}}", "swswss"},
	} {
		for _, u := range typedList(t, c.types) {
			seen[u.Kind] = true
			is(t, printed(u), all(letters(impl.FlatOf(u)), letters(impl.FlatOfAll([]impl.Type{u}))), c.flat, c.flat)
			checkFlat(t, []impl.Type{u})
		}
	}
	is(t, "kinds with a row", all(int64(len(seen))), len(kindWords))
}

func TestP14FlatOfAll(t *testing.T) {
	for _, c := range []struct {
		list, flat string
		spilled    bool
	}{
		{"", "", false}, {"unit", "", false}, {"unit unit", "", false}, {"text u8", "sss", false}, {"u8 text", "sss", false}, {"u8 s64 text", "swss", false}, {"s64 u8", "ws", false}, {"u8 s64", "sw", false}, {"u8 unit s64 unit", "sw", false}, {"option<s64> result<unit,unit>", "sws", false}, {"variant{a:s64,b:text,c} s64", "swsw", false},
		{"text text text u8", "sssssss", false}, {"text text text text", "ssssssss", false}, {"text text text text u8", "sssssssss", true}, {"text text text text unit", "ssssssss", false}, {"unit text text text text u8", "sssssssss", true}, {"s64 s64 s64 s64 s64 s64 s64 s64", "wwwwwwww", false}, {"s64 s64 s64 s64 s64 s64 s64 s64 s64", "wwwwwwwww", true}, {"u8 u8 u8 u8 u8 u8 u8 u8", "ssssssss", false}, {"u8 u8 u8 u8 u8 u8 u8 u8 s64", "ssssssssw", true},
		{"record{a:u8,b:u8,c:u8,d:u8,e:u8,f:u8,g:u8,h:u8}", "ssssssss", false}, {"record{a:u8,b:u8,c:u8,d:u8,e:u8,f:u8,g:u8,h:u8,i:u8}", "sssssssss", true}, {"option<tuple<text,text,text,u8>>", "ssssssss", false}, {"option<tuple<text,text,text,text>>", "sssssssss", true}, {"result<tuple<text,text,text,text>,s64>", "swsssssss", true}, {"variant{a:tuple<text,text,text,text>,b}", "sssssssss", true}, {"variant{a:tuple<text,text,text>,b:tuple<text,s64,text,text>}", "ssswssss", false},
		{"tuple<text,text,text,text> u8", "sssssssss", true}, {"tuple<text,text> tuple<text,text>", "ssssssss", false}, {"stream<tuple<text,text,text,text,text>>", "s", false}, {"list<tuple<text,text,text,text,text>>", "ss", false},
	} {
		list := typedList(t, c.list)
		is(t, c.list, all(letters(impl.FlatOfAll(list)), impl.IsSpilled(list)), c.flat, c.spilled)
		checkFlat(t, list)
	}
}

// TestP14ListLimits has lists of MaxParts types and of one more.
func TestP14ListLimits(t *testing.T) {
	wide := typed(t, "tuple<tuple<s64,text,s64,text,s64,text>,tuple<s64,u8,s64,u8,s64,u8>,tuple<text,text,text,text,text,text>,s64,u8>")
	for _, u := range append(typedList(t, "unit u8 s64 text option<s64> stream<s64> variant{a}"), wide) {
		full := slices.Repeat([]impl.Type{u}, impl.MaxParts)
		is(t, printed(u), all(letters(impl.FlatOfAll(full)), impl.IsSpilled(full)), strings.Repeat(flatModel(u), 24), u.Kind != impl.TyUnit)
		checkFlat(t, full)
		checkFlat(t, full[1:])
		checkNoFlat(t, "one type more", append(full, u))
		checkNoFlat(t, "one unit more", append(full, impl.Type{Kind: impl.TyUnit}))
		checkNoFlat(t, "very many types", slices.Repeat(full, 5000))
		for i := range full {
			list := slices.Clone(full)
			list[i] = impl.Type{Kind: impl.TyList}
			checkNoFlat(t, "one invalid type", list)
			checkNoFlat(t, "one invalid type of a short list", list[:i+1])
		}
	}
	for many := range 26 {
		list := slices.Repeat([]impl.Type{{Kind: impl.TyU8}}, many)
		is(t, strconv.Itoa(many)+" types", all(impl.IsSpilled(list), int64(len(impl.FlatOfAll(list)))), many > 8 && many < 25, many%25)
	}
}

func TestP14Invalid(t *testing.T) {
	within, beyond := limitTypes()
	for _, u := range within {
		checkFlat(t, []impl.Type{{Kind: impl.TyS64}, u, {Kind: impl.TyU8}})
	}
	for _, u := range beyond {
		checkNoFlatType(t, printedLoose(u), u)
	}
	for _, kind := range []int64{0, -1, 24, 30, 1<<32 + 3, 1<<32 + impl.TyText, math.MaxInt64, math.MinInt64} {
		what := "kind " + strconv.FormatInt(kind, 10)
		checkNoFlatType(t, what, impl.Type{Kind: kind})
		checkNoFlatType(t, what, impl.Type{Kind: kind, Kids: []impl.Type{{Kind: impl.TyU8}}})
		checkNoFlatType(t, "an option of "+what, impl.Type{Kind: impl.TyOption, Kids: []impl.Type{{Kind: kind}}})
		checkNoFlatType(t, "a tuple of "+what, impl.Type{Kind: impl.TyTuple, Kids: []impl.Type{{Kind: impl.TyU8}, {Kind: kind}}})
	}
	for kind := int64(1); kind <= 23; kind++ {
		what := kindWords[kind-1]
		if kind >= impl.TyList {
			checkNoFlatType(t, "nothing of "+what, impl.Type{Kind: kind})
		} else {
			checkNoFlatType(t, "a Kid of "+what, impl.Type{Kind: kind, Kids: []impl.Type{{Kind: impl.TyU8}}})
		}
		checkNoFlatType(t, "a label of "+what, impl.Type{Kind: kind, Labels: []string{"A"}})
		checkNoFlatType(t, "a name of "+what, impl.Type{Kind: kind, Name: "a-"})
	}
	checkNoFlatType(t, "an option of unit", impl.Type{Kind: impl.TyOption, Kids: []impl.Type{{Kind: impl.TyUnit}}})
	checkNoFlatType(t, "a borrow in a stream", impl.Type{Kind: impl.TyStream, Kids: []impl.Type{{Kind: impl.TyBorrow, Name: "r"}}})
	r := rand.New(rand.NewSource(121))
	for _, u := range someTypes(122, 500) {
		u = broken(r, u)
		checkNoFlatType(t, shown(u), u)
	}
}

// TestP14Model has types and lists of types that are made up.
func TestP14Model(t *testing.T) {
	r := rand.New(rand.NewSource(123))
	list := someTypes(124, 3000)
	for _, s := range goodTypes {
		list = append(list, typed(t, s))
	}
	met := map[bool]int{}
	for _, u := range list {
		checkFlat(t, []impl.Type{u})
		checkFlat(t, u.Kids)
	}
	for range 3000 {
		var row []impl.Type
		for range r.Intn(impl.MaxParts + 1) {
			row = append(row, list[r.Intn(len(list))])
		}
		row = row[:min(len(row), 1+r.Intn(impl.MaxParts))]
		checkFlat(t, row)
		met[impl.IsSpilled(row)]++
	}
	is(t, "enough of both", all(met[true] > 100, met[false] > 100), true, true)
}

// TestP14CaseOrder has variants and results whose cases stand in any order.
func TestP14CaseOrder(t *testing.T) {
	r := rand.New(rand.NewSource(125))
	many := 0
	for _, u := range someTypes(126, 6000) {
		if u.Kind != impl.TyVariant && u.Kind != impl.TyResult || len(u.Kids) < 2 {
			continue
		}
		many++
		kinds := impl.FlatOf(u)
		var joined []int64
		turned := impl.Type{Kind: u.Kind, Labels: u.Labels}
		for _, i := range r.Perm(len(u.Kids)) {
			turned.Kids = append(turned.Kids, u.Kids[i])
			joined = impl.JoinKinds(impl.FlatOf(u.Kids[i]), joined)
		}
		is(t, printed(u), all(letters(impl.FlatOf(turned)), letters(kinds)), letters(kinds), "s"+letters(joined))
	}
	is(t, "enough", all(many > 300), true)
}

func TestP14JoinKinds(t *testing.T) {
	for _, c := range [][3]string{
		{"", "", ""}, {"s", "", "s"}, {"", "s", "s"}, {"w", "", "w"}, {"", "w", "w"}, {"", "sws", "sws"}, {"wsw", "", "wsw"}, {"s", "s", "s"}, {"s", "w", "w"}, {"w", "s", "w"}, {"w", "w", "w"},
		{"s", "ws", "ws"}, {"ws", "s", "ws"}, {"w", "ss", "ws"}, {"ss", "w", "ws"}, {"sw", "s", "sw"}, {"sw", "w", "ww"}, {"ws", "sw", "ww"}, {"sss", "w", "wss"}, {"ssw", "sw", "sww"}, {"s", "sssw", "sssw"}, {"wwww", "ss", "wwww"}, {"ss", "wwww", "wwww"},
	} {
		is(t, c[0]+" and "+c[1], all(letters(impl.JoinKinds(kindsIn(c[0]), kindsIn(c[1])))), c[2])
	}
	for _, a := range everyKinds(5) {
		for _, b := range everyKinds(5) {
			joined, turned := impl.JoinKinds(kindsIn(a), kindsIn(b)), impl.JoinKinds(kindsIn(b), kindsIn(a))
			is(t, a+" and "+b, all(letters(joined), letters(turned), impl.KindsOk(joined)), joinModel(a, b), joinModel(a, b), true)
		}
		is(t, a+" and itself", all(letters(impl.JoinKinds(kindsIn(a), kindsIn(a)))), a)
	}
	for _, a := range everyKinds(3) {
		for _, b := range everyKinds(3) {
			for _, c := range everyKinds(3) {
				x, y, z := kindsIn(a), kindsIn(b), kindsIn(c)
				left, right := impl.JoinKinds(impl.JoinKinds(x, y), z), impl.JoinKinds(x, impl.JoinKinds(y, z))
				is(t, a+" and "+b+" and "+c, all(letters(left), letters(right)), joinModel(a, b, c), joinModel(c, b, a))
			}
		}
	}
	long := strings.Repeat("sw", 5000)
	is(t, "long sequences", all(letters(impl.JoinKinds(kindsIn(long), kindsIn("w"+long)))), strings.Repeat("w", 10001))
}

func TestP14NoKinds(t *testing.T) {
	for _, text := range everyKinds(4) {
		kinds := kindsIn(text)
		is(t, text, all(impl.KindsOk(kinds)), true)
		for _, kind := range noKinds {
			for i := range len(kinds) + 1 {
				bad := slices.Insert(slices.Clone(kinds), i, kind)
				is(t, shown(bad), all(impl.KindsOk(bad)), false)
				for _, other := range [][]int64{nil, {1}, {2}, {2, 1, 2, 1, 2, 1}, bad} {
					is(t, shown(bad, other), all(int64(len(impl.JoinKinds(bad, other))), int64(len(impl.JoinKinds(other, bad)))), 0, 0)
				}
				flat := make([]int64, len(bad))
				is(t, shown(bad), all(impl.FlatOk(bad, flat), impl.FlatOk(bad, bad), impl.FlatOk(bad, nil)), false, false, false)
			}
		}
	}
	for _, n := range edges() {
		ok := n == 1 || n == 2
		is(t, strconv.FormatInt(n, 10), all(impl.KindsOk([]int64{n}), impl.KindsOk([]int64{1, n}), impl.KindsOk([]int64{n, 2}), int64(len(impl.JoinKinds([]int64{n}, nil))) > 0), ok, ok, ok, ok)
	}
	is(t, "no kinds", all(impl.KindsOk(nil), impl.KindsOk([]int64{}), impl.KindsOk(slices.Repeat([]int64{2, 1}, 100000)), impl.KindsOk(append(slices.Repeat([]int64{2, 1}, 100000), 3))), true, true, true, false)
}

func TestP14FlatOk(t *testing.T) {
	const top = math.MaxUint32
	for _, c := range []struct {
		kinds string
		flat  []int64
		ok    bool
	}{
		{"", nil, true}, {"", []int64{}, true}, {"", []int64{0}, false}, {"s", nil, false}, {"w", nil, false}, {"sw", []int64{5, -5}, true}, {"s", []int64{-5}, false}, {"ws", []int64{5, -5}, false}, {"ws", []int64{-5, 5}, true},
		{"s", []int64{0}, true}, {"s", []int64{1}, true}, {"s", []int64{top}, true}, {"s", []int64{top - 1}, true}, {"s", []int64{top + 1}, false}, {"s", []int64{top + 2}, false}, {"s", []int64{-1}, false}, {"s", []int64{math.MinInt64}, false}, {"s", []int64{math.MaxInt64}, false}, {"s", []int64{math.MinInt64 + 1}, false}, {"s", []int64{-top - 1}, false}, {"s", []int64{-top}, false},
		{"w", []int64{0}, true}, {"w", []int64{-1}, true}, {"w", []int64{top + 1}, true}, {"w", []int64{math.MinInt64}, true}, {"w", []int64{math.MaxInt64}, true},
		{"ss", []int64{0}, false}, {"s", []int64{0, 0}, false}, {"sw", []int64{0}, false}, {"sw", []int64{0, 0, 0}, false}, {"ww", []int64{0}, false}, {"w", []int64{0, 0}, false}, {"sss", []int64{0, 0, 0}, true}, {"sss", []int64{-1, 0, 0}, false}, {"sss", []int64{0, -1, 0}, false}, {"sss", []int64{0, 0, -1}, false}, {"sws", []int64{top, -1, top}, true}, {"sws", []int64{top, -1, top + 1}, false}, {"ssssssssssss", make([]int64, 12), true}, {"wwwwwwwwwwww", make([]int64, 11), false},
	} {
		is(t, c.kinds+" "+shown(c.flat), all(impl.FlatOk(kindsIn(c.kinds), c.flat)), c.ok)
	}
	for _, n := range edges() {
		small := n >= 0 && n < 1<<32
		is(t, strconv.FormatInt(n, 10), all(impl.FlatOk([]int64{1}, []int64{n}), impl.FlatOk([]int64{2}, []int64{n}), impl.FlatOk([]int64{2, 1}, []int64{n, n}), impl.FlatOk([]int64{1, 2}, []int64{n, n})), small, true, small, small)
	}
	is(t, "long sequences", all(impl.FlatOk(slices.Repeat([]int64{1}, 100000), make([]int64, 100000)), impl.FlatOk(slices.Repeat([]int64{2}, 100000), make([]int64, 99999))), true, false)
}

// numbers are those of edges, and others at which the conversions change.
func numbers() []int64 {
	list := edges()
	for _, n := range []int64{0, 127, 128, 255, 256, 32767, 32768, 65535, 65536, 55295, 55296, 57343, 57344, 1114111, 1114112, math.MaxInt32, math.MaxUint32} {
		for more := int64(-3); more <= 3; more++ {
			list = append(list, n+more, -n+more, n+more+1<<32, n+more-1<<32, 1<<32-n+more, n+more+1<<40, 1<<32+128-n+more)
		}
	}
	return list
}

func TestP14ToSmall(t *testing.T) {
	for _, c := range [][2]int64{
		{0, 0}, {1, 1}, {-1, 4294967295}, {-2, 4294967294}, {255, 255}, {-128, 4294967168}, {math.MaxInt32, 2147483647}, {math.MaxInt32 + 1, 2147483648}, {math.MinInt32, 2147483648}, {math.MinInt32 - 1, 2147483647},
		{4294967294, 4294967294}, {4294967295, 4294967295}, {4294967296, 0}, {4294967297, 1}, {-4294967295, 1}, {-4294967296, 0}, {-4294967297, 4294967295}, {math.MaxInt64, 4294967295}, {math.MinInt64, 0}, {math.MinInt64 + 1, 1}, {math.MaxInt64 - 4294967295, 0},
	} {
		is(t, strconv.FormatInt(c[0], 10), all(impl.ToSmall(c[0])), c[1])
	}
	for _, n := range numbers() {
		want := new(big.Int).Mod(big.NewInt(n), big.NewInt(1<<32)).Int64()
		is(t, strconv.FormatInt(n, 10), all(impl.ToSmall(n), impl.ToSmall(want), impl.FlatOk([]int64{1}, []int64{impl.ToSmall(n)})), want, want, true)
	}
}

// fromModel says what chapter 12 says of FromSmall.
func fromModel(kind, n int64) (int64, bool) {
	if n < 0 || n > 4294967295 || kind < 1 || kind > 23 {
		return 0, false
	}
	if n >= 2147483648 && (kind == impl.TyS8 || kind == impl.TyS16 || kind == impl.TyS32) {
		n -= 4294967296
	}
	ok := false
	switch word := kindWords[kind-1]; word {
	case "u8", "s8", "u16", "s16", "u32", "s32", "own", "borrow", "stream", "future":
		ok = isNumber(kind, strconv.FormatInt(n, 10))
	case "bool":
		ok = n < 2
	case "char":
		ok = n < 55296 || n >= 57344 && n <= 1114111
	}
	if !ok {
		return 0, false
	}
	return n, true
}

func TestP14FromSmall(t *testing.T) {
	for _, c := range []struct {
		kind, n, number int64
		ok              bool
	}{
		{impl.TyS8, 4294967295, -1, true}, {impl.TyU8, 256, 0, false}, {impl.TyChar, 55296, 0, false},
		{impl.TyU8, 0, 0, true}, {impl.TyU8, 255, 255, true}, {impl.TyU8, 4294967295, 0, false}, {impl.TyU8, -1, 0, false}, {impl.TyU8, 4294967296, 0, false}, {impl.TyU8, 4294967296 + 5, 0, false},
		{impl.TyS8, 0, 0, true}, {impl.TyS8, 127, 127, true}, {impl.TyS8, 128, 0, false}, {impl.TyS8, 255, 0, false}, {impl.TyS8, 4294967168, -128, true}, {impl.TyS8, 4294967167, 0, false}, {impl.TyS8, 2147483648, 0, false}, {impl.TyS8, 2147483647, 0, false}, {impl.TyS8, -1, 0, false}, {impl.TyS8, -128, 0, false}, {impl.TyS8, 4294967296, 0, false},
		{impl.TyU16, 0, 0, true}, {impl.TyU16, 65535, 65535, true}, {impl.TyU16, 65536, 0, false}, {impl.TyU16, 4294967295, 0, false}, {impl.TyU16, -1, 0, false},
		{impl.TyS16, 32767, 32767, true}, {impl.TyS16, 32768, 0, false}, {impl.TyS16, 65535, 0, false}, {impl.TyS16, 4294934528, -32768, true}, {impl.TyS16, 4294934527, 0, false}, {impl.TyS16, 4294967295, -1, true}, {impl.TyS16, -32768, 0, false}, {impl.TyS16, 0, 0, true},
		{impl.TyU32, 0, 0, true}, {impl.TyU32, 2147483648, 2147483648, true}, {impl.TyU32, 4294967295, 4294967295, true}, {impl.TyU32, 4294967296, 0, false}, {impl.TyU32, -1, 0, false},
		{impl.TyS32, 0, 0, true}, {impl.TyS32, 2147483647, 2147483647, true}, {impl.TyS32, 2147483648, -2147483648, true}, {impl.TyS32, 4294967295, -1, true}, {impl.TyS32, 4294967296, 0, false}, {impl.TyS32, -1, 0, false}, {impl.TyS32, -2147483648, 0, false},
		{impl.TyBool, 0, 0, true}, {impl.TyBool, 1, 1, true}, {impl.TyBool, 2, 0, false}, {impl.TyBool, 3, 0, false}, {impl.TyBool, -1, 0, false}, {impl.TyBool, 4294967295, 0, false}, {impl.TyBool, 4294967296, 0, false}, {impl.TyBool, 4294967297, 0, false},
		{impl.TyChar, 0, 0, true}, {impl.TyChar, 55295, 55295, true}, {impl.TyChar, 57343, 0, false}, {impl.TyChar, 57344, 57344, true}, {impl.TyChar, 1114111, 1114111, true}, {impl.TyChar, 1114112, 0, false}, {impl.TyChar, 4294967295, 0, false}, {impl.TyChar, 4294967296 + 97, 0, false}, {impl.TyChar, -1, 0, false},
		{impl.TyOwn, 0, 0, true}, {impl.TyOwn, 2147483647, 2147483647, true}, {impl.TyOwn, 2147483648, 0, false}, {impl.TyOwn, 4294967295, 0, false}, {impl.TyOwn, 4294967296, 0, false}, {impl.TyOwn, -1, 0, false}, {impl.TyBorrow, 0, 0, true}, {impl.TyBorrow, 2147483647, 2147483647, true}, {impl.TyBorrow, 2147483648, 0, false}, {impl.TyBorrow, -1, 0, false},
		{impl.TyStream, 0, 0, true}, {impl.TyStream, 2147483647, 2147483647, true}, {impl.TyStream, 2147483648, 0, false}, {impl.TyStream, -1, 0, false}, {impl.TyFuture, 0, 0, true}, {impl.TyFuture, 2147483647, 2147483647, true}, {impl.TyFuture, 2147483648, 0, false}, {impl.TyFuture, 4294967296, 0, false},
		{impl.TyS64, 0, 0, false}, {impl.TyS64, 1, 0, false}, {impl.TyUnit, 0, 0, false}, {impl.TyText, 0, 0, false}, {impl.TyList, 0, 0, false}, {impl.TyOption, 0, 0, false}, {impl.TyResult, 1, 0, false}, {impl.TyTuple, 0, 0, false}, {impl.TyRecord, 0, 0, false}, {impl.TyVariant, 1, 0, false}, {impl.TyEnum, 0, 0, false}, {impl.TyEnum, 1, 0, false}, {impl.TyFlags, 0, 0, false}, {impl.TyFlags, 1, 0, false},
		{0, 0, 0, false}, {-1, 0, 0, false}, {24, 0, 0, false}, {1<<32 + impl.TyU8, 0, 0, false}, {math.MaxInt64, 0, 0, false}, {math.MinInt64, 0, 0, false},
	} {
		number, ok := impl.FromSmall(c.kind, c.n)
		is(t, "FromSmall of "+shown(c.kind, c.n), all(number, ok), c.number, c.ok)
	}
	list := numbers()
	for _, kind := range append(edges(), 10, 11, 12, 13, 14, 18, 19, 20, 21, 22, 23, 24, 25) {
		for _, n := range list {
			got, ok := impl.FromSmall(kind, n)
			if want, wantOk := fromModel(kind, n); got != want || ok != wantOk {
				t.Errorf("FromSmall(%d, %d) returns %d, %v, want %d, %v", kind, n, got, ok, want, wantOk)
			}
		}
	}
}

// TestP14BackAndForth converts every number of the small kinds, and many of the others, and back.
func TestP14BackAndForth(t *testing.T) {
	t.Parallel()
	r := rand.New(rand.NewSource(127))
	for kind := int64(1); kind <= 23; kind++ {
		numbers := numbers()
		for n := int64(-70000); n < 70000; n++ {
			numbers = append(numbers, n)
		}
		for range 10000 {
			numbers = append(numbers, int64(r.Uint32()), -int64(r.Int31()), r.Int63n(1200000))
		}
		many := 0
		for _, n := range numbers {
			small := impl.ToSmall(n)
			got, ok := impl.FromSmall(kind, small)
			want, wantOk := fromModel(kind, small)
			if got != want || ok != wantOk {
				t.Fatalf("FromSmall(%d, %d) returns %d, %v, want %d, %v", kind, small, got, ok, want, wantOk)
			}
			if ok && impl.ToSmall(got) != small {
				t.Fatalf("FromSmall(%d, %d) returns %d, of which ToSmall returns %d", kind, small, got, impl.ToSmall(got))
			}
			if kind != impl.TyS64 && isNumberKind(kind) && isNumber(kind, strconv.FormatInt(n, 10)) {
				many++
				is(t, "back from "+strconv.FormatInt(n, 10), all(got, ok), n, true)
			}
		}
		is(t, kindWords[kind-1], all(many > 200), kind != impl.TyS64 && isNumberKind(kind))
	}
}

// isNumberKind reports whether a kind has a range in numberRanges.
func isNumberKind(kind int64) bool {
	_, ok := numberRanges[kind]
	return ok
}

func TestP1DeepFlats(t *testing.T) {
	for i, u := range deepTypes() {
		what := "deep type " + strconv.Itoa(i)
		checkNoFlatType(t, what, u)
		checkNoFlatType(t, what+" in an option", impl.Type{Kind: impl.TyOption, Kids: []impl.Type{u}})
		checkNoFlatType(t, what+" in a variant", impl.Type{Kind: impl.TyVariant, Labels: []string{"a", "b"}, Kids: []impl.Type{{Kind: impl.TyU8}, u}})
		checkNoFlat(t, what+", often", slices.Repeat([]impl.Type{u}, impl.MaxParts))
	}
}

// flatCall are the arguments of the functions on flat values.
type flatCall struct {
	Types   []impl.Type
	A, B    []int64
	Kind, N int64
}

func TestP1Flat(t *testing.T) {
	t.Parallel()
	r := rand.New(rand.NewSource(128))
	call := func(c flatCall) []any {
		number, ok := impl.FromSmall(c.Kind, c.N)
		results := all(impl.FlatOfAll(c.Types), impl.FlatOfAll(c.Types), impl.IsSpilled(c.Types), impl.JoinKinds(c.A, c.B), impl.JoinKinds(c.B, c.A), impl.JoinKinds(c.A, c.A), impl.JoinKinds(c.A, nil), impl.JoinKinds(nil, c.A), impl.KindsOk(c.A), impl.FlatOk(c.A, c.B), impl.ToSmall(c.N), number, ok)
		for _, u := range c.Types {
			results = append(results, impl.FlatOf(u), impl.FlatOf(u))
		}
		return results
	}
	lists := [][]int64{nil, {}, {1}, {2}, {1, 2}, {2, 1, 1}, {1, 1, 1, 1, 2}, {3}, {1, 0}, {math.MaxInt64}, {math.MinInt64, 1}, {1, 2, 1, 2, 1, 2, 1, 2, 1, 2}}
	numbers := edges()
	within, beyond := limitTypes()
	types := slices.Concat(someTypes(129, 400), within, beyond, []impl.Type{{}, {Kind: impl.TyOption, Kids: []impl.Type{{}, {}}}, {Kind: impl.TyText, Kids: []impl.Type{{}}}})
	for i := range types {
		c := flatCall{types[i:min(len(types), i+r.Intn(impl.MaxParts+2))], lists[i%12], lists[i/12%12], int64(i % 26), numbers[i%len(numbers)]}
		pure(t, shown(c), c, call)
		c.Types = types[i : i+1]
		pure(t, shown(c), c, call)
	}
	for _, kind := range numbers {
		for _, n := range numbers {
			twice(t, "FromSmall", func() string { return shown(impl.FromSmall(kind, n)) })
		}
	}
	for _, n := range numbers {
		twice(t, "ToSmall", func() string { return shown(impl.ToSmall(n)) })
	}
}

// TestP1JoinInOneArray joins sequences that share memory.
func TestP1JoinInOneArray(t *testing.T) {
	array := []int64{1, 2, 1, 1, 2, 1, 1, 1}
	before := slices.Clone(array)
	for i := range array {
		for j := range array {
			a, b := array[:i], array[j:]
			joined := impl.JoinKinds(a, b)
			is(t, shown(a, b), all(letters(joined), slices.Equal(array, before)), joinModel(letters(a), letters(b)), true)
			apart(t, shown(a, b), array, joined)
		}
	}
}
