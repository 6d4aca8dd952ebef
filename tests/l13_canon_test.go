package tests

import (
	"cmp"
	"math"
	"math/rand"
	"slices"
	"strconv"
	"strings"
	"testing"

	"loop.example/g00901/impl"
)

// canonFault is the error code with which the model stops.
type canonFault int64

// need stops the model unless ok.
func need(ok bool, code int64) {
	if !ok {
		panic(canonFault(code))
	}
}

// faultOf returns the code with which the model stops, or OK.
func faultOf(do func()) (code int64) {
	defer func() {
		if p := recover(); p != nil {
			code = int64(p.(canonFault))
		}
	}()
	do()
	return impl.OK
}

// canonModel lifts and lowers as chapter 13 says, in a memory that knows of each byte whether it is free.
type canonModel struct {
	*memoryModel
	enc int64
}

func canonOf(m impl.Memory, enc int64) canonModel {
	model := &memoryModel{[]byte(m.Bytes), make([]bool, len(m.Bytes))}
	for _, b := range m.Free {
		model.set(b.At, b.Size, true)
	}
	return canonModel{model, enc}
}

// take allocates a range.
func (c canonModel) take(size, align int64) int64 {
	if size == 0 {
		return 0
	}
	at, ok := c.placeOf(size, align)
	need(ok, impl.ErrMany)
	c.set(at, size, false)
	return at
}

// placed stops the model unless a range is aligned and in bounds.
func (c canonModel) placed(at int64, e extent) {
	need(at%e.align == 0 && isWithin(at, e.size, len(c.bytes)), impl.ErrMemory)
}

// putNumber stores the low bytes of n.
func (c canonModel) putNumber(at, n, width int64) {
	for i := range width {
		c.bytes[at+i] = byte(n >> (8 * i))
	}
}

// getNumber returns the number that some bytes stand for, as a flat value.
func (c canonModel) getNumber(at, width int64, signed bool) int64 {
	n := int64(0)
	for i := range width {
		n |= int64(c.bytes[at+i]) << (8 * i)
	}
	if signed && width < 4 && c.bytes[at+width-1] >= 0x80 {
		n += 1<<32 - 1<<(8*width)
	}
	return n
}

// lower returns the flat values of v.
func (c canonModel) lower(u impl.Type, v impl.Value) []int64 {
	switch kindWords[u.Kind-1] {
	case "unit":
		return nil
	case "s64":
		return []int64{v.Num}
	case "text":
		var points []int64
		for _, p := range []rune(v.Text) {
			points = append(points, int64(p))
		}
		bytes, ok := encodeModel(c.enc, points)
		need(ok, impl.ErrText)
		size := int64(len(bytes))
		at := c.take(size, unitSizes[c.enc])
		copy(c.bytes[at:], bytes)
		return []int64{at, size / unitSizes[c.enc]}
	case "list":
		e := extentModel(u.Kids[0])
		at := c.take(int64(len(v.Kids))*e.size, e.align)
		for i, kid := range v.Kids {
			c.store(u.Kids[0], kid, at+int64(i)*e.size)
		}
		return []int64{at, int64(len(v.Kids))}
	case "tuple", "record":
		var flat []int64
		for i, kid := range u.Kids {
			flat = append(flat, c.lower(kid, v.Kids[i])...)
		}
		return flat
	case "option", "result", "variant":
		flat := make([]int64, len(flatModel(u)))
		flat[0] = v.Num
		if len(v.Kids) > 0 {
			copy(flat[1:], c.lower(casesOf(u)[v.Num], v.Kids[0]))
		}
		return flat
	}
	if v.Num < 0 {
		return []int64{v.Num + 1<<32}
	}
	return []int64{v.Num}
}

// isRow reports whether u is a tuple or a record.
func isRow(u impl.Type) bool {
	return u.Kind == impl.TyTuple || u.Kind == impl.TyRecord
}

// store stores v at an address.
func (c canonModel) store(u impl.Type, v impl.Value, at int64) {
	switch {
	case isRow(u):
		c.storeAll(u.Kids, v.Kids, at)
	case hasCases(u):
		offset, _ := caseModel(casesOf(u))
		c.bytes[at] = byte(v.Num)
		if len(v.Kids) > 0 {
			c.store(casesOf(u)[v.Num], v.Kids[0], at+offset)
		}
	case u.Kind != impl.TyUnit:
		c.putFlat(u, c.lower(u, v), at)
	}
}

// putFlat stores the flat values of a value that has neither fields nor cases.
func (c canonModel) putFlat(u impl.Type, flat []int64, at int64) {
	width := extentModel(u).size / int64(len(flat))
	for i, n := range flat {
		c.putNumber(at+int64(i)*width, n, width)
	}
}

// storeAll stores values as a tuple at an address.
func (c canonModel) storeAll(us []impl.Type, vs []impl.Value, at int64) {
	offsets, _ := rowModel(us)
	for i, u := range us {
		c.store(u, vs[i], at+offsets[i])
	}
}

// lift returns the value with these flat values.
func (c canonModel) lift(u impl.Type, flat []int64) impl.Value {
	v := impl.Value{Kind: u.Kind}
	read := func(i int) int64 {
		need(flat[i] >= 0 && flat[i] < 1<<32, impl.ErrType)
		return flat[i]
	}
	switch kindWords[u.Kind-1] {
	case "unit":
	case "s64":
		v.Num = flat[0]
	case "text":
		v.Text = c.textAt(read(0), read(1))
	case "list":
		v.Kids = c.listAt(u.Kids[0], read(0), read(1))
	case "tuple", "record":
		v.Kids = c.liftAll(u.Kids, flat)
	case "option", "result", "variant":
		cases := casesOf(u)
		v.Num = read(0)
		need(v.Num < int64(len(cases)), impl.ErrType)
		if kid := cases[v.Num]; kid.Kind != impl.TyUnit {
			v.Kids = []impl.Value{c.lift(kid, flat[1:])}
		}
	case "enum":
		v.Num = read(0)
		need(v.Num < int64(len(u.Labels)), impl.ErrType)
	case "flags":
		v.Num = read(0)
		need(float64(v.Num) < math.Pow(2, float64(len(u.Labels))), impl.ErrType)
	default:
		n, ok := fromModel(u.Kind, read(0))
		need(ok, impl.ErrType)
		v.Num = n
	}
	return v
}

// liftAll returns the values with these flat values.
func (c canonModel) liftAll(us []impl.Type, flat []int64) []impl.Value {
	var vs []impl.Value
	for _, u := range us {
		vs = append(vs, c.lift(u, flat))
		flat = flat[len(flatModel(u)):]
	}
	return vs
}

func (c canonModel) textAt(at, units int64) string {
	unit := unitSizes[c.enc]
	c.placed(at, extent{units * unit, unit})
	text, ok := decodeModel(c.enc, string(c.bytes[at:at+units*unit]))
	need(ok, impl.ErrText)
	return text
}

func (c canonModel) listAt(u impl.Type, at, many int64) []impl.Value {
	need(many <= 8, impl.ErrMany)
	e := extentModel(u)
	c.placed(at, extent{many * e.size, e.align})
	var vs []impl.Value
	for i := range many {
		vs = append(vs, c.load(u, at+i*e.size))
	}
	return vs
}

// load returns the value at an address.
func (c canonModel) load(u impl.Type, at int64) impl.Value {
	switch {
	case isRow(u):
		return impl.Value{Kind: u.Kind, Kids: c.loadAll(u.Kids, at)}
	case hasCases(u):
		cases := casesOf(u)
		num := int64(c.bytes[at])
		need(num < int64(len(cases)), impl.ErrType)
		offset, _ := caseModel(cases)
		v := impl.Value{Kind: u.Kind, Num: num}
		if cases[num].Kind != impl.TyUnit {
			v.Kids = []impl.Value{c.load(cases[num], at+offset)}
		}
		return v
	}
	return c.lift(u, c.flatAt(u, at))
}

// flatAt returns what putFlat stores.
func (c canonModel) flatAt(u impl.Type, at int64) []int64 {
	var flat []int64
	many := int64(len(flatModel(u)))
	for i := range many {
		width := extentModel(u).size / many
		flat = append(flat, c.getNumber(at+i*width, width, strings.HasPrefix(kindWords[u.Kind-1], "s")))
	}
	return flat
}

// loadAll returns the values of a tuple at an address.
func (c canonModel) loadAll(us []impl.Type, at int64) []impl.Value {
	var vs []impl.Value
	offsets, _ := rowModel(us)
	for i, u := range us {
		vs = append(vs, c.load(u, at+offsets[i]))
	}
	return vs
}

// isFlat reports whether flat values are valid for kinds.
func isFlat(kinds string, flat []int64) bool {
	for i, n := range flat {
		if i < len(kinds) && kinds[i] == 's' && (n < 0 || n >= 1<<32) {
			return false
		}
	}
	return len(flat) == len(kinds)
}

// liftModel says what a function returns that lifts values of valid types from at most so many flat values, or else from a
// tuple in memory.
func liftModel(m impl.Memory, enc int64, us []impl.Type, flat []int64, most int) (vs []impl.Value, code int64) {
	kinds := flatModelOfAll(us)
	inMemory := len(kinds) > most
	if inMemory {
		kinds = "s"
	}
	if !isFlat(kinds, flat) {
		return nil, impl.ErrForm
	}
	code = faultOf(func() {
		c := canonOf(m, enc)
		if !inMemory {
			vs = c.liftAll(us, flat)
			return
		}
		_, row := rowModel(us)
		c.placed(flat[0], row)
		vs = c.loadAll(us, flat[0])
	})
	return vs, code
}

// lowerModel says what a function returns that lowers values that fit.
func lowerModel(m impl.Memory, enc int64, us []impl.Type, vs []impl.Value, most int) (impl.Memory, []int64, int64) {
	var flat []int64
	c := canonOf(m, enc)
	code := faultOf(func() {
		if len(flatModelOfAll(us)) <= most {
			for i, u := range us {
				flat = append(flat, c.lower(u, vs[i])...)
			}
			return
		}
		_, row := rowModel(us)
		flat = []int64{c.take(row.size, row.align)}
		c.storeAll(us, vs, flat[0])
	})
	if code != impl.OK {
		return impl.Memory{}, nil, code
	}
	return c.memory(), flat, impl.OK
}

// unlimited is more flat values than any type has.
const unlimited = 1000

// checkLift compares LiftFlat, LiftResult and LiftParams of one valid type with the model, and returns the code of LiftFlat.
func checkLift(t *testing.T, m impl.Memory, enc int64, u impl.Type, flat []int64) int64 {
	t.Helper()
	what := printed(u) + " from " + shown(enc, flat)
	v, code := impl.LiftFlat(m, enc, u, flat)
	want, wantCode := liftModel(m, enc, []impl.Type{u}, flat, unlimited)
	is(t, "LiftFlat of "+what, all(code, alike(v, append(want, impl.Value{})[0])), wantCode, true)
	again, resultCode := impl.LiftResult(m, enc, u, flat)
	want, wantResultCode := liftModel(m, enc, []impl.Type{u}, flat, 1)
	is(t, "LiftResult of "+what, all(resultCode, alike(again, append(want, impl.Value{})[0])), wantResultCode, true)
	checkLiftParams(t, m, enc, []impl.Type{u}, flat)
	return code
}

// checkLoad compares LoadValue of a valid type with the model.
func checkLoad(t *testing.T, m impl.Memory, enc int64, u impl.Type, at int64) int64 {
	t.Helper()
	v, code := impl.LoadValue(m, enc, u, at)
	var want impl.Value
	wantCode := faultOf(func() {
		c := canonOf(m, enc)
		c.placed(at, extentModel(u))
		want = c.load(u, at)
	})
	is(t, "LoadValue of "+printed(u)+" from "+shown(enc, at), all(code, alike(v, want)), wantCode, true)
	return code
}

// checkLiftParams compares LiftParams of valid types with the model.
func checkLiftParams(t *testing.T, m impl.Memory, enc int64, us []impl.Type, flat []int64) int64 {
	t.Helper()
	vs, code := impl.LiftParams(m, enc, us, flat)
	want, wantCode := liftModel(m, enc, us, flat, 8)
	is(t, "LiftParams of "+shown(us, enc, flat), all(code, alike(vs, want)), wantCode, true)
	return code
}

// checkLowered checks that m has become w by lowering: that nothing has changed but bytes that were free.
func checkLowered(t *testing.T, what string, m, w impl.Memory) {
	t.Helper()
	before := canonOf(m, 0)
	is(t, what, all(len(w.Bytes) == len(m.Bytes), impl.MemoryOk(w), impl.FreeBytes(w) <= impl.FreeBytes(m)), true, true, true)
	for i, free := range canonOf(w, 0).free {
		if free && !before.free[i] || !before.free[i] && w.Bytes[i] != m.Bytes[i] || free && w.Bytes[i] != m.Bytes[i] {
			t.Errorf("%s: byte %d is changed", what, i)
		}
	}
}

// checkLower compares LowerFlat, LowerResult and LowerParams of one value that fits with the model, and lifts it again.
func checkLower(t *testing.T, m impl.Memory, enc int64, u impl.Type, v impl.Value) int64 {
	t.Helper()
	what := impl.ValueText(v, u) + " as " + printed(u) + " in encoding " + shown(enc, m.Free)
	us, vs := []impl.Type{u}, []impl.Value{v}
	w, flat, code := impl.LowerFlat(m, enc, u, v)
	want, wantFlat, wantCode := lowerModel(m, enc, us, vs, unlimited)
	is(t, "LowerFlat of "+what, all(code, alike(flat, wantFlat), alike(w, want)), wantCode, true, true)
	if code == impl.OK {
		checkLowered(t, "LowerFlat of "+what, m, w)
		back, backCode := impl.LiftFlat(w, enc, u, flat)
		is(t, "back from LowerFlat of "+what, all(backCode, alike(back, v)), impl.OK, true)
	}
	w, flat, resultCode := impl.LowerResult(m, enc, u, v)
	want, wantFlat, wantCode = lowerModel(m, enc, us, vs, 1)
	is(t, "LowerResult of "+what, all(resultCode, alike(flat, wantFlat), alike(w, want)), wantCode, true, true)
	if resultCode == impl.OK {
		checkLowered(t, "LowerResult of "+what, m, w)
		back, backCode := impl.LiftResult(w, enc, u, flat)
		is(t, "back from LowerResult of "+what, all(backCode, alike(back, v), len(flat) <= 1), impl.OK, true, true)
	}
	checkLowerParams(t, m, enc, us, vs)
	return code
}

// checkLowerParams compares LowerParams of values that fit with the model, and lifts them again.
func checkLowerParams(t *testing.T, m impl.Memory, enc int64, us []impl.Type, vs []impl.Value) int64 {
	t.Helper()
	what := "LowerParams of " + shown(us, vs, enc, m.Free)
	w, flat, code := impl.LowerParams(m, enc, us, vs)
	want, wantFlat, wantCode := lowerModel(m, enc, us, vs, 8)
	is(t, what, all(code, alike(flat, wantFlat), alike(w, want)), wantCode, true, true)
	if code == impl.OK {
		checkLowered(t, what, m, w)
		back, backCode := impl.LiftParams(w, enc, us, flat)
		is(t, "back from "+what, all(backCode, alike(back, vs)), impl.OK, true)
	}
	return code
}

// checkStore compares StoreValue of a value that fits with the model.
func checkStore(t *testing.T, m impl.Memory, enc int64, u impl.Type, v impl.Value, at int64) int64 {
	t.Helper()
	w, code := impl.StoreValue(m, enc, u, v, at)
	c := canonOf(m, enc)
	wantCode := faultOf(func() {
		c.placed(at, extentModel(u))
		c.store(u, v, at)
	})
	want := c.memory()
	if wantCode != impl.OK {
		want = impl.Memory{}
	}
	is(t, "StoreValue of "+impl.ValueText(v, u)+" as "+printed(u)+" at "+shown(at, enc, m.Free), all(code, alike(w, want)), wantCode, true)
	return code
}

// filled is a memory whose bytes are all aa, with free blocks.
func filled(bytes int, numbers ...int64) impl.Memory {
	m := blank(bytes, numbers...)
	m.Bytes = strings.Repeat("\xaa", bytes)
	return m
}

// numbersOf returns the numbers in a text, which are separated by blanks.
func numbersOf(text string) []int64 {
	list := []int64{}
	for _, s := range strings.Fields(text) {
		n, err := strconv.ParseInt(s, 10, 64)
		if err != nil {
			panic(err)
		}
		list = append(list, n)
	}
	return list
}

// numberTable has values without texts and lists, with their flat values, and their bytes where the memory had been aa.
var numberTable = []struct{ kind, value, flat, bytes string }{
	{"unit", "()", "", ""}, {"bool", "false", "0", "00"}, {"bool", "true", "1", "01"}, {"u8", "0", "0", "00"}, {"u8", "255", "255", "ff"}, {"s8", "-128", "4294967168", "80"}, {"s8", "-1", "4294967295", "ff"}, {"s8", "127", "127", "7f"},
	{"u16", "0", "0", "0000"}, {"u16", "258", "258", "0201"}, {"u16", "65535", "65535", "ffff"}, {"s16", "-32768", "4294934528", "0080"}, {"s16", "-2", "4294967294", "feff"}, {"s16", "32767", "32767", "ff7f"},
	{"u32", "0", "0", "00000000"}, {"u32", "4294967295", "4294967295", "ffffffff"}, {"u32", "67305985", "67305985", "01020304"}, {"s32", "-2147483648", "2147483648", "00000080"}, {"s32", "-1", "4294967295", "ffffffff"}, {"s32", "2147483647", "2147483647", "ffffff7f"},
	{"s64", "0", "0", "0000000000000000"}, {"s64", "-1", "-1", "ffffffffffffffff"}, {"s64", "-9223372036854775808", "-9223372036854775808", "0000000000000080"}, {"s64", "9223372036854775807", "9223372036854775807", "ffffffffffffff7f"}, {"s64", "4294967296", "4294967296", "0000000001000000"},
	{"char", `'\u{0}'`, "0", "00000000"}, {"char", "'a'", "97", "61000000"}, {"char", `'\u{d7ff}'`, "55295", "ffd70000"}, {"char", `'\u{e000}'`, "57344", "00e00000"}, {"char", `'\u{10ffff}'`, "1114111", "ffff1000"},
	{"own<r>", "own#0", "0", "00000000"}, {"own<r>", "own#2147483647", "2147483647", "ffffff7f"}, {"borrow<r>", "borrow#258", "258", "02010000"}, {"borrow<r>", "borrow#2147483647", "2147483647", "ffffff7f"}, {"stream<s64>", "stream#3", "3", "03000000"}, {"stream<unit>", "stream#2147483647", "2147483647", "ffffff7f"}, {"future<text>", "future#4", "4", "04000000"},
	{"enum{a}", "a", "0", "00"}, {"enum{a,b,c}", "c", "2", "02"}, {"enum{" + sixteen + "}", "p", "15", "0f"}, {"flags{a}", "{}", "0", "00"}, {"flags{a}", "{a}", "1", "01"}, {"flags{a,b,c}", "{a, c}", "5", "05"}, {"flags{a,b,c,d,e,f,g,h}", "{a, b, c, d, e, f, g, h}", "255", "ff"}, {"flags{a,b,c,d,e,f,g,h,i}", "{i}", "256", "0001"}, {"flags{" + sixteen + "}", "{" + strings.ReplaceAll(sixteen, ",", ", ") + "}", "65535", "ffff"}, {"flags{" + sixteen + "}", "{a, p}", "32769", "0180"},
	{"tuple<u8,u32,u8>", "(1, 2, 3)", "1 2 3", "01aaaaaa0200000003aaaaaa"}, {"record{a:u8,b:s64}", "{a: 7, b: -2}", "7 -2", "07aaaaaaaaaaaaaafeffffffffffffff"}, {"tuple<s8,s16,s32,s64>", "(-1, -2, -3, -4)", "4294967295 4294967294 4294967293 -4", "ffaafefffdfffffffcffffffffffffff"}, {"tuple<tuple<u8,u16>,bool>", "((1, 2), true)", "1 2 1", "01aa020001aa"}, {"record{a:own<r>,b:enum{x,y},c:flags{f}}", "{a: own#1, b: y, c: {f}}", "1 1 1", "010000000101aaaa"},
	{"option<u8>", "none", "0 0", "00aa"}, {"option<u8>", "some(255)", "1 255", "01ff"}, {"option<s16>", "some(-2)", "1 4294967294", "01aafeff"}, {"option<s64>", "none", "0 0", "00aaaaaaaaaaaaaaaaaaaaaaaaaaaaaa"}, {"option<s64>", "some(-1)", "1 -1", "01aaaaaaaaaaaaaaffffffffffffffff"}, {"option<option<u16>>", "some(none)", "1 0 0", "01aa00aaaaaa"}, {"option<option<u16>>", "some(some(3))", "1 1 3", "01aa01aa0300"}, {"option<tuple<u8,u8>>", "none", "0 0 0", "00aaaa"},
	{"result<unit,unit>", "ok", "0", "00"}, {"result<unit,unit>", "err", "1", "01"}, {"result<u8,s64>", "ok(5)", "0 5", "00aaaaaaaaaaaaaa05aaaaaaaaaaaaaa"}, {"result<u8,s64>", "err(-5)", "1 -5", "01aaaaaaaaaaaaaafbffffffffffffff"}, {"result<s8,s64>", "ok(-1)", "0 4294967295", "00aaaaaaaaaaaaaaffaaaaaaaaaaaaaa"}, {"result<unit,s32>", "ok", "0 0", "00aaaaaaaaaaaaaa"}, {"result<s32,unit>", "err", "1 0", "01aaaaaaaaaaaaaa"}, {"result<tuple<u8,u8>,s64>", "err(7)", "1 7 0", "01aaaaaaaaaaaaaa0700000000000000"}, {"result<tuple<u8,u8>,s64>", "ok((1, 2))", "0 1 2", "00aaaaaaaaaaaaaa0102aaaaaaaaaaaa"},
	{"variant{a}", "a", "0", "00"}, {"variant{a:s64,b:tuple<u8,u8>,c}", "a(-3)", "0 -3 0", "00aaaaaaaaaaaaaafdffffffffffffff"}, {"variant{a:s64,b:tuple<u8,u8>,c}", "b((4, 5))", "1 4 5", "01aaaaaaaaaaaaaa0405aaaaaaaaaaaa"}, {"variant{a:s64,b:tuple<u8,u8>,c}", "c", "2 0 0", "02aaaaaaaaaaaaaaaaaaaaaaaaaaaaaa"}, {"variant{" + sixteen + "}", "p", "15", "0f"}, {"variant{a:u16,b:tuple<u8,u8,u8>}", "b((1, 2, 3))", "1 1 2 3", "01aa010203aa"},
	{"tuple<option<u8>,u8>", "(none, 9)", "0 0 9", "00aa09"}, {"tuple<variant{a:tuple<u8,s64>,b},s64>", "(b, 8)", "1 0 0 8", "01" + strings.Repeat("aa", 23) + "0800000000000000"}, {"tuple<variant{a:tuple<u8,s64>,b},s64>", "(a((6, -1)), 8)", "0 6 -1 8", "00aaaaaaaaaaaaaa06aaaaaaaaaaaaaaffffffffffffffff0800000000000000"},
}

// TestP15NumberTable has each kind of type but texts and lists, flat and in memory, in each of the encodings.
func TestP15NumberTable(t *testing.T) {
	m := filled(64, 8, 3, 40, 24)
	for _, c := range numberTable {
		v, u := valued(t, texts{c.value, c.kind})
		flat, bytes := numbersOf(c.flat), unhex(t, c.bytes)
		for _, enc := range encodings {
			what := c.value + " as " + c.kind
			w, got, code := impl.LowerFlat(m, enc, u, v)
			is(t, "LowerFlat of "+what, all(code, alike(got, flat), alike(w, m)), impl.OK, true, true)
			back, code := impl.LiftFlat(m, enc, u, flat)
			is(t, "LiftFlat of "+what, all(code, alike(back, v)), impl.OK, true)
			for _, at := range []int64{0, 16, 24, int64(64 - len(bytes))} {
				w, code := impl.StoreValue(m, enc, u, v, at)
				is(t, "StoreValue of "+what, all(code, impl.PutHex(w.Bytes), alike(w.Free, m.Free)), impl.OK, impl.PutHex(m.Bytes[:at]+bytes+m.Bytes[at+int64(len(bytes)):]), true)
				back, code := impl.LoadValue(w, enc, u, at)
				is(t, "LoadValue of "+what, all(code, alike(back, v)), impl.OK, true)
			}
			checkLower(t, m, enc, u, v)
		}
	}
}

// noNumberTable has flat values that are those of no value.
var noNumberTable = []struct {
	kind, flat string
	code       int64
}{
	{"bool", "2", impl.ErrType}, {"bool", "4294967295", impl.ErrType}, {"u8", "256", impl.ErrType}, {"u8", "4294967295", impl.ErrType}, {"s8", "128", impl.ErrType}, {"s8", "255", impl.ErrType}, {"s8", "4294967167", impl.ErrType}, {"s8", "2147483648", impl.ErrType}, {"u16", "65536", impl.ErrType}, {"s16", "32768", impl.ErrType}, {"s16", "65535", impl.ErrType}, {"s16", "4294934527", impl.ErrType},
	{"char", "55296", impl.ErrType}, {"char", "57343", impl.ErrType}, {"char", "1114112", impl.ErrType}, {"char", "4294967295", impl.ErrType}, {"own<r>", "2147483648", impl.ErrType}, {"borrow<r>", "4294967295", impl.ErrType}, {"stream<u8>", "2147483648", impl.ErrType}, {"future<u8>", "2147483648", impl.ErrType},
	{"enum{a}", "1", impl.ErrType}, {"enum{a,b}", "2", impl.ErrType}, {"enum{a,b}", "256", impl.ErrType}, {"enum{a,b}", "4294967295", impl.ErrType}, {"flags{a}", "2", impl.ErrType}, {"flags{a,b,c}", "8", impl.ErrType}, {"flags{a,b,c}", "4294967295", impl.ErrType}, {"flags{a,b,c,d,e,f,g,h}", "256", impl.ErrType}, {"flags{a,b,c,d,e,f,g,h,i}", "512", impl.ErrType}, {"flags{" + sixteen + "}", "65536", impl.ErrType}, {"flags{" + sixteen + "}", "2147483648", impl.ErrType},
	{"option<u8>", "2 0", impl.ErrType}, {"option<u8>", "1 256", impl.ErrType}, {"option<u8>", "4294967295 0", impl.ErrType}, {"option<u8>", "256 0", impl.ErrType}, {"result<unit,unit>", "2", impl.ErrType}, {"result<u8,s64>", "2 0", impl.ErrType}, {"variant{a}", "1", impl.ErrType}, {"variant{a:s64,b:text,c}", "3 0 0", impl.ErrType}, {"variant{" + sixteen + "}", "16", impl.ErrType}, {"option<option<u8>>", "1 2 0", impl.ErrType}, {"tuple<u8,bool>", "0 2", impl.ErrType},
	// Numbers that are no FkSmall value, where one is expected, and too few and too many.
	{"bool", "-1", impl.ErrForm}, {"bool", "4294967296", impl.ErrForm}, {"u32", "4294967296", impl.ErrForm}, {"s8", "-1", impl.ErrForm}, {"s32", "-2147483648", impl.ErrForm}, {"char", "4294967393", impl.ErrForm}, {"own<r>", "-1", impl.ErrForm}, {"enum{a,b}", "4294967296", impl.ErrForm}, {"flags{a}", "-1", impl.ErrForm}, {"option<u8>", "-1 0", impl.ErrForm}, {"option<u8>", "0 -1", impl.ErrForm}, {"option<u8>", "0 4294967296", impl.ErrForm}, {"option<s64>", "4294967297 0", impl.ErrForm}, {"text", "-1 0", impl.ErrForm}, {"text", "0 4294967296", impl.ErrForm}, {"list<u8>", "4294967296 0", impl.ErrForm}, {"list<u8>", "0 -1", impl.ErrForm},
	{"bool", "9223372036854775807", impl.ErrForm}, {"bool", "-9223372036854775808", impl.ErrForm}, {"unit", "0", impl.ErrForm}, {"bool", "", impl.ErrForm}, {"bool", "0 0", impl.ErrForm}, {"s64", "", impl.ErrForm}, {"s64", "0 0", impl.ErrForm}, {"text", "0", impl.ErrForm}, {"text", "0 0 0", impl.ErrForm}, {"option<u8>", "0", impl.ErrForm}, {"option<u8>", "0 0 0", impl.ErrForm}, {"tuple<u8,u8>", "0", impl.ErrForm}, {"tuple<u8,u8>", "2 2 2", impl.ErrForm}, {"variant{a:s64,b:text,c}", "2 0", impl.ErrForm}, {"variant{a:s64,b:text,c}", "9 0 0 0", impl.ErrForm}, {"variant{a:s64,b:text,c}", "2 0 -1", impl.ErrForm},
	// A payload in wide values, of which some are read as FkSmall.
	{"variant{a:u8,b:s64}", "0 -1", impl.ErrType}, {"variant{a:u8,b:s64}", "0 4294967296", impl.ErrType}, {"variant{a:u32,b:s64}", "0 4294967296", impl.ErrType}, {"variant{a:u32,b:s64}", "0 -4294967295", impl.ErrType}, {"variant{a:s8,b:s64}", "0 -1", impl.ErrType}, {"variant{a:s32,b:s64}", "0 -1", impl.ErrType}, {"variant{a:bool,b:s64}", "0 4294967297", impl.ErrType}, {"variant{a:char,b:s64}", "0 4294967393", impl.ErrType}, {"variant{a:own<r>,b:s64}", "0 4294967296", impl.ErrType}, {"variant{a:stream<u8>,b:s64}", "0 -9223372036854775808", impl.ErrType}, {"variant{a:enum{x},b:s64}", "0 4294967296", impl.ErrType}, {"variant{a:enum{x},b:s64}", "0 -1", impl.ErrType}, {"variant{a:flags{x},b:s64}", "0 4294967297", impl.ErrType}, {"variant{a:flags{x},b:s64}", "0 -1", impl.ErrType},
	{"result<option<u8>,s64>", "0 4294967296 0", impl.ErrType}, {"result<option<u8>,s64>", "0 -1 0", impl.ErrType}, {"result<option<u8>,tuple<s64,s64>>", "0 1 -1", impl.ErrType}, {"result<result<unit,unit>,s64>", "0 -1", impl.ErrType}, {"variant{a:text,b:s64}", "0 4294967296 0", impl.ErrType}, {"variant{a:text,b:s64}", "0 -1 0", impl.ErrType}, {"variant{a:text,b:tuple<s64,s64>}", "0 0 -1", impl.ErrType}, {"variant{a:list<u8>,b:tuple<s64,s64>}", "0 0 4294967296", impl.ErrType}, {"variant{a:list<u8>,b:tuple<s64,s64>}", "0 4294967304 0", impl.ErrType}, {"option<variant{a:u8,b:s64}>", "1 0 4294967296", impl.ErrType}, {"variant{a:tuple<u8,u8>,b:tuple<s64,s64>}", "0 0 -1", impl.ErrType},
}

func TestP15NoNumberTable(t *testing.T) {
	m := blank(64, 8, 56)
	for _, c := range noNumberTable {
		u, flat := typed(t, c.kind), numbersOf(c.flat)
		for _, enc := range encodings {
			v, code := impl.LiftFlat(m, enc, u, flat)
			is(t, c.flat+" as "+c.kind, all(code, alike(v, impl.Value{})), c.code, true)
			checkLift(t, m, enc, u, flat)
		}
	}
}

// TestP15NumberEdges lifts very many numbers as each kind of number, also from wide values.
func TestP15NumberEdges(t *testing.T) {
	list := numbers()
	slices.Sort(list)
	list = slices.Compact(list)
	m := blank(16)
	for _, kind := range strings.Fields("bool u8 s8 u16 s16 u32 s32 s64 char own<r> borrow<r> stream<u8> future<u8> enum{a,b,c} flags{a,b,c} flags{a,b,c,d,e,f,g,h} flags{a,b,c,d,e,f,g,h,i} flags{" + sixteen + "} enum{" + sixteen + "} option<u8> result<unit,unit> variant{a,b}") {
		u := typed(t, kind)
		wide := impl.Type{Kind: impl.TyResult, Kids: []impl.Type{u, {Kind: impl.TyS64}}}
		met := map[int64]int{}
		for _, n := range list {
			flat := append([]int64{n}, make([]int64, len(flatModel(u))-1)...)
			met[checkLift(t, m, 1, u, flat)]++
			met[checkLift(t, m, 1, wide, append([]int64{0}, flat...))]++
			if v, code := impl.LiftFlat(m, 1, u, flat); code == impl.OK && len(flat) == 1 {
				_, again, code := impl.LowerFlat(m, 1, u, v)
				is(t, kind, all(code, alike(again, flat)), impl.OK, true)
			}
		}
		is(t, kind, all(met[impl.OK] > 1, met[impl.ErrType] > 100 || u.Kind == impl.TyS64, met[impl.ErrForm] > 100 || u.Kind == impl.TyS64), true, true, true)
	}
}

func TestP15NoBytes(t *testing.T) {
	for _, c := range []struct {
		kind, bytes string
	}{
		{"bool", "02"}, {"bool", "ff"}, {"char", "00d80000"}, {"char", "ffdf0000"}, {"char", "00001100"}, {"char", "ffffffff"}, {"char", "61000001"}, {"own<r>", "00000080"}, {"own<r>", "ffffffff"}, {"borrow<r>", "00000080"}, {"stream<u8>", "000000ff"}, {"future<u8>", "00000080"},
		{"enum{a}", "01"}, {"enum{a,b}", "02"}, {"enum{a,b}", "ff"}, {"flags{a}", "02"}, {"flags{a,b,c}", "08"}, {"flags{a,b,c,d,e,f,g}", "80"}, {"flags{a,b,c,d,e,f,g,h,i}", "0002"}, {"flags{a,b,c,d,e,f,g,h,i}", "0080"}, {"flags{b,c,d,e,f,g,h,i,j,k,l,m,n,o,p}", "0080"},
		{"option<u8>", "0201"}, {"option<bool>", "0102"}, {"option<s64>", "ff000000000000000000000000000000"}, {"result<unit,unit>", "02"}, {"result<bool,unit>", "0002"}, {"variant{a}", "01"}, {"variant{a,b:bool}", "0102"}, {"variant{" + sixteen + "}", "10"}, {"option<option<u8>>", "010200"}, {"tuple<u8,bool>", "0002"}, {"record{a:u32,b:enum{x}}", "0000000001000000"},
	} {
		u, bytes := typed(t, c.kind), unhex(t, c.bytes)
		m := blank(64, 40, 8)
		for _, enc := range encodings {
			for _, at := range []int64{0, 16, int64(64 - len(bytes))} {
				w, _ := impl.WriteMem(m, at, bytes)
				v, code := impl.LoadValue(w, enc, u, at)
				is(t, c.bytes+" as "+c.kind, all(int64(len(bytes)), code, alike(v, impl.Value{})), extentModel(u).size, impl.ErrType, true)
				checkLoad(t, w, enc, u, at)
			}
		}
	}
	// Bytes that stand for a number in every case: integers, and whatever lies in padding and in other cases.
	for _, c := range []struct{ kind, bytes, value string }{
		{"u8", "ff", "255"}, {"s8", "ff", "-1"}, {"s16", "0080", "-32768"}, {"u16", "0080", "32768"}, {"u32", "00000080", "2147483648"}, {"s32", "00000080", "-2147483648"}, {"s64", "00000000000000ff", "-72057594037927936"},
		{"tuple<u8,u16>", "01ff0200", "(1, 2)"}, {"option<s64>", "00ffffffffffffffffffffffffffffff", "none"}, {"option<bool>", "00ff", "none"}, {"result<bool,u32>", "00ffffff01ffffff", "ok(true)"}, {"variant{a:s64,b:flags{x},c}", "01ffffffffffffff01ffffffffffffff", "b({x})"}, {"variant{a:text,b}", "01ffffffffffffffffffffff", "b"}, {"option<text>", "00ffffffffffffffffffffff", "none"}, {"option<option<char>>", "01ffffff00ffffffffffffff", "some(none)"},
	} {
		v, u := valued(t, texts{c.value, c.kind})
		for _, enc := range encodings {
			w, _ := impl.WriteMem(blank(32), 8, unhex(t, c.bytes))
			got, code := impl.LoadValue(w, enc, u, 8)
			is(t, c.bytes+" as "+c.kind, all(code, alike(got, v)), impl.OK, true)
		}
	}
}

// TestP15Unread has values with flat values that belong to no part of them.
func TestP15Unread(t *testing.T) {
	for _, c := range []struct{ kind, flat, value string }{
		{"option<u8>", "0 4294967295", "none"}, {"option<s64>", "0 -1", "none"}, {"option<text>", "0 4294967295 4294967295", "none"}, {"option<list<u8>>", "0 4294967295 9", "none"}, {"option<bool>", "0 2", "none"}, {"result<unit,bool>", "0 7", "ok"}, {"result<bool,unit>", "1 7", "err"}, {"result<u8,s64>", "1 -7", "err(-7)"}, {"result<u8,tuple<s64,s64>>", "0 5 -9223372036854775808", "ok(5)"}, {"result<s64,text>", "0 -7 4294967295", "ok(-7)"},
		{"variant{a:s64,b:tuple<u8,u8>,c}", "2 -1 4294967295", "c"}, {"variant{a:s64,b:tuple<u8,u8>,c}", "0 -1 4294967295", "a(-1)"}, {"variant{a:tuple<u8,s64>,b:u8,c}", "1 3 -1", "b(3)"}, {"variant{a:tuple<u8,s64>,b:u8,c}", "2 256 9223372036854775807", "c"}, {"variant{a:tuple<s64,s64,s64>,b:option<u8>}", "1 0 -1 -2", "b(none)"}, {"variant{a:tuple<s64,s64,s64>,b:option<u8>}", "1 1 2 -2", "b(some(2))"},
		{"tuple<option<u8>,u8>", "0 77 9", "(none, 9)"}, {"tuple<option<s64>,u8>", "0 -77 9", "(none, 9)"}, {"record{a:variant{x:text,y:s64},b:bool}", "1 3 99 1", "{a: y(3), b: true}"}, {"tuple<result<unit,tuple<s64,s64,s64>>,s64>", "0 -1 -2 -3 4", "(ok, 4)"}, {"option<option<s64>>", "1 0 -5", "some(none)"}, {"option<option<s64>>", "0 1 -5", "none"}, {"option<option<u8>>", "0 9 256", "none"},
		{"variant{a:s8,b:s64}", "0 4294967295", "a(-1)"}, {"variant{a:u32,b:s64}", "0 4294967295", "a(4294967295)"}, {"variant{a:s64,b:u32}", "0 -1", "a(-1)"},
	} {
		v, u := valued(t, texts{c.value, c.kind})
		for _, enc := range encodings {
			for _, m := range []impl.Memory{{}, blank(64, 8, 56)} {
				got, code := impl.LiftFlat(m, enc, u, numbersOf(c.flat))
				is(t, c.flat+" as "+c.kind, all(code, alike(got, v)), impl.OK, true)
				checkLift(t, m, enc, u, numbersOf(c.flat))
			}
		}
	}
}

func TestP15TextAt(t *testing.T) {
	const latin, wide, plain = impl.EnLatin, impl.EnUtf16, impl.EnUtf8
	for _, c := range []struct {
		bytes      string
		enc        int64
		at, units  int64
		text, fail string
	}{
		{"6162636465666768", plain, 0, 8, "abcdefgh", ""}, {"6162636465666768", plain, 3, 2, "de", ""}, {"6162636465666768", plain, 7, 1, "h", ""}, {"6162636465666768", latin, 7, 1, "h", ""}, {"6162636465666768", wide, 6, 1, "\u6867", ""}, {"6100620063006400", wide, 0, 4, "abcd", ""}, {"6100620063006400", wide, 2, 2, "bc", ""}, {"c3a9e282ac", plain, 0, 5, "é€", ""}, {"c3a9e282ac", plain, 2, 3, "€", ""}, {"c3a9e282ac", latin, 0, 2, "Ã©", ""}, {"c3a9", wide, 0, 1, "\ua9c3", ""}, {"3dd800de", wide, 0, 2, "\U0001f600", ""},
		{"6162", plain, 0, 3, "", "memory"}, {"6162", plain, 1, 2, "", "memory"}, {"6162", plain, 2, 1, "", "memory"}, {"6162", plain, 3, 1, "", "memory"}, {"6162", latin, 1, 2, "", "memory"}, {"61006200", wide, 0, 3, "", "memory"}, {"61006200", wide, 2, 2, "", "memory"}, {"61006200", wide, 4, 1, "", "memory"}, {"610062", wide, 0, 2, "", "memory"}, {"610062", wide, 2, 1, "", "memory"}, {"", plain, 0, 1, "", "memory"}, {"6162", plain, 4294967295, 1, "", "memory"}, {"6162", plain, 0, 4294967295, "", "memory"}, {"6162", plain, 4294967295, 4294967295, "", "memory"}, {"6162", wide, 4294967294, 4294967295, "", "memory"}, {"6162", wide, 0, 2147483648, "", "memory"},
		{"61006200", wide, 1, 1, "", "memory"}, {"61006200", wide, 3, 0, "", "memory"}, {"61006200", wide, 5, 0, "", "memory"}, {"61006200", wide, 1, 0, "", "memory"}, {"61006200", plain, 1, 1, "\x00", ""}, {"61006200", latin, 1, 1, "\x00", ""},
		{"", plain, 0, 0, "", ""}, {"", wide, 0, 0, "", ""}, {"", latin, 0, 0, "", ""}, {"", plain, 1, 0, "", "memory"}, {"", wide, 2, 0, "", "memory"}, {"6162", plain, 2, 0, "", ""}, {"6162", wide, 2, 0, "", ""}, {"6162", latin, 2, 0, "", ""}, {"6162", plain, 3, 0, "", "memory"}, {"6162", latin, 3, 0, "", "memory"}, {"6162", wide, 4, 0, "", "memory"}, {"6162", plain, 4294967295, 0, "", "memory"}, {"ffff", plain, 1, 0, "", ""},
		{"61ff62", plain, 0, 2, "", "text"}, {"61ff62", plain, 0, 1, "a", ""}, {"61ff62", plain, 2, 1, "b", ""}, {"61ff62", latin, 0, 3, "aÿb", ""}, {"c080", plain, 0, 2, "", "text"}, {"eda080", plain, 0, 3, "", "text"}, {"e282ac", plain, 0, 2, "", "text"}, {"e282ac", plain, 1, 2, "", "text"}, {"3dd80061", wide, 0, 1, "", "text"}, {"3dd80061", wide, 0, 2, "", "text"}, {"00de3dd8", wide, 0, 1, "", "text"}, {"00de3dd8", wide, 0, 2, "", "text"}, {"3dd800de", wide, 2, 1, "", "text"},
		{strings.Repeat("61", 30), plain, 2, 24, strings.Repeat("a", 24), ""}, {strings.Repeat("61", 30), plain, 2, 25, "", "text"}, {strings.Repeat("61", 30), plain, 2, 29, "", "memory"}, {strings.Repeat("e9", 30), latin, 0, 12, strings.Repeat("é", 12), ""}, {strings.Repeat("e9", 30), latin, 0, 13, "", "text"}, {strings.Repeat("6100", 30), wide, 2, 24, strings.Repeat("a", 24), ""}, {strings.Repeat("6100", 30), wide, 2, 25, "", "text"}, {strings.Repeat("ac20", 9), wide, 0, 8, strings.Repeat("€", 8), ""}, {strings.Repeat("ac20", 9), wide, 0, 9, "", "text"},
	} {
		m, u := impl.Memory{Bytes: unhex(t, c.bytes)}, impl.Type{Kind: impl.TyText}
		what := c.bytes + " from " + shown(c.enc, c.at, c.units)
		want := impl.Value{Kind: impl.TyText, Text: c.text}
		if c.fail != "" {
			want = impl.Value{}
		}
		v, code := impl.LiftFlat(m, c.enc, u, []int64{c.at, c.units})
		is(t, what, all(impl.CodeWord(code), alike(v, want)), cmp.Or(c.fail, "ok"), true)
		checkLift(t, m, c.enc, u, []int64{c.at, c.units})
		// The same, loaded from behind the bytes.
		m.Bytes += strings.Repeat("\xff", (8-len(m.Bytes)%4)%4) + impl.PutFix(c.at, 4) + impl.PutFix(c.units, 4)
		checkLoad(t, m, c.enc, u, int64(len(m.Bytes)-8))
		checkLift(t, m, c.enc, typed(t, "variant{a:tuple<text,u8>,b:tuple<s64,s64>}"), []int64{0, c.at, c.units, 5})
	}
}

func TestP15ListAt(t *testing.T) {
	bytes := "0102030405060708090a0b0c0d0e0f10"
	for _, c := range []struct {
		bytes, element string
		at, many       int64
		value, fail    string
	}{
		{bytes, "u8", 0, 3, "[1, 2, 3]", ""}, {bytes, "u8", 5, 1, "[6]", ""}, {bytes, "u8", 15, 1, "[16]", ""}, {bytes, "u8", 8, 8, "[9, 10, 11, 12, 13, 14, 15, 16]", ""}, {bytes, "u16", 2, 2, "[1027, 1541]", ""}, {bytes, "u16", 0, 8, "[513, 1027, 1541, 2055, 2569, 3083, 3597, 4111]", ""}, {bytes, "u32", 12, 1, "[269422093]", ""}, {bytes, "s64", 8, 1, "[1157159078456920585]", ""}, {"ff7f80", "s8", 0, 3, "[-1, 127, -128]", ""},
		{bytes, "u8", 0, 9, "", "many"}, {bytes, "u8", 0, 4294967295, "", "many"}, {bytes, "u16", 1, 9, "", "many"}, {bytes, "u8", 99, 9, "", "many"}, {bytes, "bool", 0, 9, "", "many"}, {"", "u8", 0, 9, "", "many"},
		{bytes, "u8", 9, 8, "", "memory"}, {bytes, "u8", 16, 1, "", "memory"}, {bytes, "u8", 17, 1, "", "memory"}, {bytes, "u8", 4294967295, 1, "", "memory"}, {bytes, "u16", 10, 4, "", "memory"}, {bytes, "s64", 8, 2, "", "memory"}, {bytes, "s64", 0, 3, "", "memory"}, {"010203", "u16", 2, 1, "", "memory"}, {bytes, "text", 0, 3, "", "memory"}, {bytes, "option<s64>", 8, 1, "", "memory"},
		{bytes, "u16", 1, 1, "", "memory"}, {bytes, "u32", 2, 1, "", "memory"}, {bytes, "s64", 4, 1, "", "memory"}, {bytes, "tuple<u8,u16>", 3, 1, "", "memory"}, {bytes, "flags{a,b,c,d,e,f,g,h,i}", 1, 1, "", "memory"}, {bytes, "list<u8>", 2, 1, "", "memory"}, {bytes, "list<s64>", 4, 0, "[]", ""}, {bytes, "option<s64>", 4, 0, "", "memory"},
		{bytes, "u8", 0, 0, "[]", ""}, {bytes, "u8", 16, 0, "[]", ""}, {bytes, "u8", 17, 0, "", "memory"}, {bytes, "u8", 4294967295, 0, "", "memory"}, {bytes, "s64", 16, 0, "[]", ""}, {bytes, "s64", 24, 0, "", "memory"}, {bytes, "s64", 12, 0, "", "memory"}, {bytes, "u16", 15, 0, "", "memory"}, {"", "u8", 0, 0, "[]", ""}, {"", "s64", 0, 0, "[]", ""}, {"", "u8", 1, 0, "", "memory"}, {"010203", "u16", 4, 0, "", "memory"}, {"010203", "u16", 2, 0, "[]", ""},
		{"0001000100010001", "bool", 0, 8, "[false, true, false, true, false, true, false, true]", ""}, {"0001000200010001", "bool", 0, 8, "", "type"}, {"0001000200010001", "bool", 0, 3, "[false, true, false]", ""}, {"0001000200010001", "bool", 3, 1, "", "type"},
		{"0105ff0000ff", "option<u8>", 0, 3, "", "type"}, {"010500ff0100", "option<u8>", 0, 3, "[some(5), none, some(0)]", ""}, {"0100020003000400", "tuple<u8,u16>", 0, 2, "[(1, 2), (3, 4)]", ""}, {"01ff020003ff0400", "tuple<u8,u16>", 4, 1, "[(3, 4)]", ""},
		{"6162c3a900000000" + "0000000002000000" + "0200000002000000" + "0400000000000000", "text", 8, 3, `["ab", "\u{e9}", ""]`, ""}, {"6162c3a900000000" + "0000000002000000" + "0200000001000000" + "2100000000000000", "text", 8, 3, "", "text"}, {"6162c3a900000000" + "0000000002000000" + "2100000000000000" + "0200000001000000", "text", 8, 3, "", "memory"}, {"6162c3a900000000" + "0000000002000000" + "0200000001000000" + "2100000000000000", "text", 8, 1, `["ab"]`, ""},
		{"0102000100000000" + "0000000002000000" + "0100000000000000" + "0200000002000000", "list<u8>", 8, 3, "[[1, 2], [], [0, 1]]", ""}, {"0102000100000000" + "0000000002000000" + "0100000009000000" + "9900000002000000", "list<u8>", 8, 3, "", "many"}, {"0102000100000000" + "0000000002000000" + "0100000008000000" + "9900000002000000", "list<u16>", 8, 2, "", "memory"}, {"0102000100000000" + "0000000002000000" + "0300000001000000" + "0000000002000000", "list<bool>", 8, 1, "", "type"}, {"0102000100000000" + "0000000002000000" + "0300000001000000" + "0000000002000000", "list<bool>", 16, 1, "[[true]]", ""},
	} {
		kind := "list<" + c.element + ">"
		u, m := typed(t, kind), impl.Memory{Bytes: unhex(t, c.bytes)}
		what := kind + " of " + c.bytes + " from " + shown(c.at, c.many)
		var want impl.Value
		if c.fail == "" {
			want, _ = valued(t, texts{c.value, kind})
		}
		v, code := impl.LiftFlat(m, impl.EnUtf8, u, []int64{c.at, c.many})
		is(t, what, all(impl.CodeWord(code), alike(v, want)), cmp.Or(c.fail, "ok"), true)
		for _, enc := range encodings {
			checkLift(t, m, enc, u, []int64{c.at, c.many})
			wide := impl.Type{Kind: impl.TyResult, Kids: []impl.Type{u, typed(t, "s64")}}
			checkLift(t, m, enc, wide, []int64{0, c.at, c.many})
			behind := m
			behind.Bytes += strings.Repeat("\xff", (8-len(m.Bytes)%4)%4) + impl.PutFix(c.at, 4) + impl.PutFix(c.many, 4)
			checkLoad(t, behind, enc, u, int64(len(behind.Bytes)-8))
		}
	}
}

// TestP15Example has the examples of chapter 13.
func TestP15Example(t *testing.T) {
	v, u := valued(t, texts{`{a: 5, b: "hi", c: some(-2)}`, "record{a:u8,b:text,c:option<s16>}"})
	m, _ := impl.NewMemory(64)
	low := blank(64, 12, 52)
	w, code := impl.StoreValue(low, impl.EnUtf8, u, v, 40)
	back, loaded := impl.LoadValue(w, impl.EnUtf8, u, 40)
	is(t, "StoreValue", all(code, impl.PutHex(w.Bytes[40:56]), w.Bytes[12:14], loaded, alike(back, v)), impl.OK, "050000000c000000020000000100feff", "hi", impl.OK, true)
	same(t, "StoreValue", w, impl.Memory{Bytes: w.Bytes, Free: []impl.Block{{At: 14, Size: 50}}})
	w, flat, code := impl.LowerFlat(m, impl.EnUtf16, u, v)
	back, lifted := impl.LiftFlat(w, impl.EnUtf16, u, flat)
	is(t, "LowerFlat", all(code, alike(flat, numbersOf("5 8 2 1 4294967294")), impl.PutHex(w.Bytes[8:12]), lifted, alike(back, v)), impl.OK, true, "68006900", impl.OK, true)
	list := typed(t, "list<u16>")
	for flat, want := range map[[2]int64]int64{{8, 9}: impl.ErrMany, {9, 1}: impl.ErrMemory, {62, 2}: impl.ErrMemory, {62, 1}: impl.OK, {60, 2}: impl.OK} {
		_, code := impl.LiftFlat(m, impl.EnUtf8, list, flat[:])
		is(t, "LiftFlat", all(code), want)
	}
	us := typedList(t, "tuple<text,text,text> text u8")
	vs := []impl.Value{{Kind: impl.TyTuple, Kids: []impl.Value{{Kind: impl.TyText, Text: "a"}, {Kind: impl.TyText}, {Kind: impl.TyText, Text: "b"}}}, {Kind: impl.TyText, Text: "c"}, {Kind: impl.TyU8, Num: 7}}
	w, flat, code = impl.LowerParams(m, impl.EnUtf8, us, vs)
	again, lifted := impl.LiftParams(w, impl.EnUtf8, us, flat)
	is(t, "LowerParams", all(code, alike(flat, []int64{8}), lifted, alike(again, vs), impl.PutHex(w.Bytes[8:44])), impl.OK, true, impl.OK, true, "2c00000001000000"+"0000000000000000"+"2d00000001000000"+"2e00000001000000"+"07000000")
	w, flat, code = impl.LowerResult(m, impl.EnUtf8, u, v)
	back, lifted = impl.LiftResult(w, impl.EnUtf8, u, flat)
	is(t, "LowerResult", all(code, alike(flat, []int64{8}), lifted, alike(back, v), impl.PutHex(w.Bytes[8:24])), impl.OK, true, impl.OK, true, "0500000018000000020000000100feff")
}

// TestP15Lowering has texts and lists that are lowered in a new memory of 64 bytes, with their flat values, and the bytes
// from address 8 on.
func TestP15Lowering(t *testing.T) {
	const latin, wide, plain = impl.EnLatin, impl.EnUtf16, impl.EnUtf8
	for _, c := range []struct {
		kind, value string
		enc         int64
		flat, bytes string
	}{
		{"text", `""`, plain, "0 0", ""}, {"text", `""`, wide, "0 0", ""}, {"text", `""`, latin, "0 0", ""}, {"text", `"abc"`, plain, "8 3", "616263"}, {"text", `"abc"`, wide, "8 3", "610062006300"}, {"text", `"abc"`, latin, "8 3", "616263"}, {"text", `"\u{e9}"`, plain, "8 2", "c3a9"}, {"text", `"\u{e9}"`, wide, "8 1", "e900"}, {"text", `"\u{e9}"`, latin, "8 1", "e9"}, {"text", `"\u{1f600}a"`, wide, "8 3", "3dd800de6100"}, {"text", `"\u{1f600}a"`, plain, "8 5", "f09f988061"}, {"text", `"\u{20ac}"`, wide, "8 1", "ac20"}, {"text", `"\u{0}"`, latin, "8 1", "00"},
		{"list<u8>", "[]", plain, "0 0", ""}, {"list<s64>", "[]", wide, "0 0", ""}, {"list<u8>", "[1, 2, 3]", plain, "8 3", "010203"}, {"list<u16>", "[1, 258]", latin, "8 2", "01000201"}, {"list<s64>", "[-1]", plain, "8 1", "ffffffffffffffff"}, {"list<tuple<u8,u16>>", "[(1, 2), (3, 4)]", plain, "8 2", "0100020003000400"}, {"list<option<u8>>", "[none, some(9), none]", plain, "8 3", "000001090000"}, {"list<u8>", "[1, 2, 3, 4, 5, 6, 7, 8]", plain, "8 8", "0102030405060708"}, {"list<flags{a,b,c,d,e,f,g,h,i}>", "[{a, i}]", plain, "8 1", "0101"},
		{"list<text>", `["a", "", "bc"]`, plain, "8 3", "20000000010000000000000000000000210000000200000061" + "6263"}, {"list<text>", `["a", "bc"]`, wide, "8 2", "1800000001000000" + "1a00000002000000" + "6100" + "62006300"}, {"list<list<u8>>", "[[1], [], [2, 3]]", plain, "8 3", "200000000100000000000000000000002100000002000000010203"}, {"list<list<text>>", `[["a"], ["b"]]`, plain, "8 2", "18000000010000002400000001000000" + "2000000001000000" + "61620000" + "2100000001000000"},
		{"tuple<text,text>", `("a", "b")`, plain, "8 1 9 1", "6162"}, {"tuple<text,list<u16>,text>", `("a", [7], "b")`, plain, "8 1 10 1 9 1", "61620700"}, {"tuple<text,text>", `("a", "b")`, wide, "8 1 10 1", "61006200"}, {"tuple<list<u8>,text>", `([1], "b")`, wide, "8 1 10 1", "01006200"}, {"tuple<list<u8>,list<s64>,list<u8>>", "([1], [2], [3])", plain, "8 1 16 1 9 1", "01030000000000000200000000000000"}, {"record{b:text,a:text}", `{b: "x", a: "y"}`, plain, "8 1 9 1", "7879"},
		{"option<text>", `some("hi")`, plain, "1 8 2", "6869"}, {"option<text>", "none", plain, "0 0 0", ""}, {"result<list<u8>,s64>", "ok([5])", plain, "0 8 1", "05"}, {"result<list<u8>,s64>", "err(-5)", plain, "1 -5 0", ""}, {"variant{a:s64,b:text,c}", `b("hi")`, plain, "1 8 2", "6869"}, {"variant{a:s64,b:tuple<text,text>,c}", `b(("", "x"))`, plain, "1 0 0 8 1", "78"}, {"variant{a:s64,b:tuple<text,text>,c}", "a(-1)", plain, "0 -1 0 0 0", ""},
	} {
		v, u := valued(t, texts{c.value, c.kind})
		m, _ := impl.NewMemory(64)
		w, flat, code := impl.LowerFlat(m, c.enc, u, v)
		bytes := unhex(t, c.bytes)
		is(t, c.value+" as "+c.kind, all(code, alike(flat, numbersOf(c.flat)), w.Bytes), impl.OK, true, m.Bytes[:8]+bytes+m.Bytes[8+len(bytes):])
		for _, enc := range encodings {
			checkLower(t, m, enc, u, v)
			checkStore(t, m, enc, u, v, 40)
			checkStore(t, blank(64), enc, u, v, 0)
		}
	}
}

// fresh is a new memory.
func fresh(t *testing.T, size int64) impl.Memory {
	t.Helper()
	m, code := impl.NewMemory(size)
	is(t, "NewMemory", all(code), impl.OK)
	return m
}

// TestP15LastByte lowers what fits exactly into a memory, and what needs one byte more, and a list and a text of the
// greatest length.
func TestP15LastByte(t *testing.T) {
	for _, c := range []struct {
		kind, value string
		sizes       string // those of the smallest memories that suffice, for each encoding
	}{
		{"text", `"a"`, "9 10 9"}, {"text", `"abcdefgh"`, "16 24 16"}, {"text", `"abcdefghijklmnopqrstuvwx"`, "32 56 32"}, {"text", `"\u{ff}\u{ff}\u{ff}\u{ff}\u{ff}\u{ff}\u{ff}\u{ff}\u{ff}\u{ff}\u{ff}\u{ff}"`, "32 32 20"}, {"text", `""`, "0 0 0"}, {"list<s64>", "[]", "0 0 0"}, {"u8", "1", "0 0 0"}, {"option<text>", "none", "0 0 0"},
		{"list<u8>", "[1, 2, 3, 4, 5, 6, 7, 8]", "16 16 16"}, {"list<s64>", "[1, 2, 3, 4, 5, 6, 7, 8]", "72 72 72"}, {"list<u16>", "[1]", "10 10 10"}, {"list<tuple<s64,u8>>", "[(1, 2)]", "24 24 24"}, {"list<text>", `["a", "b", "c", "d", "e", "f", "g", "h"]`, "80 88 80"}, {"list<list<u8>>", "[[], [], [], [], [], [], [], []]", "72 72 72"},
		{"tuple<text,list<text>,text>", `("ab", ["c", "de"], "f")`, "30 36 30"}, {"tuple<list<u8>,list<s64>>", "([1], [2])", "24 24 24"}, {"tuple<list<s64>,list<u8>>", "([1], [2])", "17 17 17"}, {"list<list<s64>>", "[[1], [2, 3]]", "48 48 48"},
	} {
		v, u := valued(t, texts{c.value, c.kind})
		for i, size := range numbersOf(c.sizes) {
			enc := encodings[i]
			_, _, code := impl.LowerFlat(fresh(t, size), enc, u, v)
			is(t, c.value, all(code), impl.OK)
			checkLower(t, fresh(t, size), enc, u, v)
			if size == 0 {
				continue
			}
			_, _, code = impl.LowerFlat(fresh(t, size-1), enc, u, v)
			is(t, c.value+", one byte less", all(code), impl.ErrMany)
			for size := range int64(100) {
				checkLower(t, fresh(t, size), enc, u, v)
			}
		}
	}
	// The bytes that are free are the last ones, but not in the order of the addresses.
	for _, m := range []impl.Memory{filled(40, 38, 2), filled(40, 8, 1, 12, 1, 38, 2), filled(40, 9, 2), filled(40, 9, 1, 11, 1), filled(40)} {
		for _, c := range []texts{{`"ab"`, "text"}, {`("a", "b")`, "tuple<text,text>"}, {`("ab", "c")`, "tuple<text,text>"}, {"[513]", "list<u16>"}, {"[1, 2]", "list<u8>"}, {"([1], [513])", "tuple<list<u8>,list<u16>>"}, {"([513], [1])", "tuple<list<u16>,list<u8>>"}} {
			v, u := valued(t, c)
			for _, enc := range encodings {
				checkLower(t, m, enc, u, v)
			}
		}
	}
}

// TestP15FirstLiftError checks which of two errors comes first.
func TestP15FirstLiftError(t *testing.T) {
	m := impl.Memory{Bytes: "\xff\xff\x00\x00\x02\x01\x00\x00" + strings.Repeat("\x00", 24)}
	for _, c := range []struct {
		kind, flat, word string
	}{
		{"tuple<bool,text>", "2 99 1", "type"}, {"tuple<text,bool>", "99 1 2", "memory"}, {"tuple<text,bool>", "0 1 2", "text"}, {"tuple<bool,text>", "2 0 1", "type"}, {"tuple<list<u8>,text>", "0 9 0 1", "many"}, {"tuple<text,list<u8>>", "0 1 0 9", "text"}, {"tuple<text,text>", "0 1 99 1", "text"}, {"tuple<text,text>", "99 1 0 1", "memory"}, {"tuple<list<bool>,text>", "4 2 0 1", "type"}, {"tuple<list<bool>,list<bool>>", "5 1 0 9", "many"}, {"tuple<list<bool>,list<bool>>", "4 1 99 1", "type"}, {"record{a:u8,b:enum{x},c:text}", "256 1 99 1", "type"},
		{"list<u16>", "99 9", "many"}, {"list<u16>", "1 9", "many"}, {"list<u16>", "1 1", "memory"}, {"list<bool>", "0 99", "many"}, {"list<bool>", "99 1", "memory"}, {"list<bool>", "4 8", "type"}, {"text", "99 99", "memory"}, {"text", "0 99", "memory"}, {"list<text>", "8 9", "many"}, {"list<text>", "0 1", "memory"}, {"list<list<bool>>", "0 1", "many"},
		{"option<text>", "2 99 1", "type"}, {"option<text>", "1 99 1", "memory"}, {"variant{a:text,b:tuple<s64,s64>}", "2 -1 -1", "type"}, {"variant{a:text,b:tuple<s64,s64>}", "0 99 -1", "type"}, {"variant{a:text,b:tuple<s64,s64>}", "0 -1 99", "type"}, {"variant{a:list<u8>,b:tuple<s64,s64>}", "0 99 4294967296", "type"}, {"variant{a:list<u8>,b:tuple<s64,s64>}", "0 4294967296 99", "type"}, {"variant{a:list<u8>,b:tuple<s64,s64>}", "0 99 9", "many"}, {"variant{a:tuple<text,u8>,b:tuple<s64,s64,s64>}", "0 99 1 -1", "memory"}, {"variant{a:tuple<u8,text>,b:tuple<s64,s64,s64>}", "0 -1 99 1", "type"}, {"variant{a:tuple<text,u8>,b:tuple<s64,s64,s64>}", "0 0 1 -1", "text"},
		{"tuple<option<bool>,text>", "1 2 99 1", "type"}, {"tuple<option<bool>,text>", "0 2 99 1", "memory"}, {"tuple<bool,u8>", "2 -1", "form"}, {"tuple<text,u8>", "99 1 -1", "form"}, {"tuple<bool,u8>", "2", "form"}, {"option<u8>", "2 -1", "form"},
	} {
		u := typed(t, c.kind)
		v, code := impl.LiftFlat(m, impl.EnUtf8, u, numbersOf(c.flat))
		is(t, c.flat+" as "+c.kind, all(impl.CodeWord(code), alike(v, impl.Value{})), c.word, true)
		for _, enc := range encodings {
			checkLift(t, m, enc, u, numbersOf(c.flat))
		}
		_, code = impl.LiftFlat(m, 4, u, numbersOf(c.flat))
		is(t, c.flat+" in no encoding", all(code), impl.ErrForm)
	}
	// Loaded from memory: the address of the value comes first.
	for _, c := range []struct {
		kind, bytes string
		at          int64
		word        string
	}{
		{"bool", "02", 0, "type"}, {"bool", "02", 1, "memory"}, {"u16", "0000", 1, "memory"}, {"tuple<bool,u16>", "02000000", 1, "memory"}, {"tuple<bool,u16>", "02000000", 2, "memory"}, {"tuple<bool,text>", "020000006300000001000000", 0, "type"}, {"tuple<text,bool>", "630000000100000002000000", 0, "memory"}, {"tuple<text,bool>", "000000000900000002000000", 0, "type"}, {"tuple<text,text>", "08000000010000006300000001000000ff", 0, "memory"}, {"tuple<text,text>", "1000000001000000" + "6300000001000000ff", 0, "text"},
		{"list<u8>", "6300000009000000", 0, "many"}, {"list<u16>", "0100000001000000", 0, "memory"}, {"option<text>", "026300006300000001000000", 0, "type"}, {"option<text>", "016300006300000001000000", 0, "memory"}, {"unit", "", 0, "ok"}, {"unit", "", 1, "memory"}, {"unit", "", -1, "memory"}, {"unit", "0000", 2, "ok"}, {"u8", "00", -1, "memory"}, {"s64", strings.Repeat("00", 16), -8, "memory"}, {"s64", strings.Repeat("00", 16), 8, "ok"}, {"s64", strings.Repeat("00", 16), 16, "memory"}, {"s64", strings.Repeat("00", 15), 8, "memory"}, {"s64", strings.Repeat("00", 16), 4, "memory"}, {"option<s64>", strings.Repeat("00", 15), 0, "memory"}, {"option<s64>", strings.Repeat("00", 16), 0, "ok"},
		{"u8", "00", math.MaxInt64, "memory"}, {"u8", "00", math.MinInt64, "memory"}, {"s64", strings.Repeat("00", 16), math.MinInt64, "memory"}, {"s64", strings.Repeat("00", 16), math.MaxInt64 - 7, "memory"}, {"unit", "", math.MaxInt64, "memory"}, {"unit", "", math.MinInt64, "memory"}, {"u8", "00", 1 << 32, "memory"}, {"s64", strings.Repeat("00", 16), 1 << 32, "memory"},
	} {
		u, m := typed(t, c.kind), impl.Memory{Bytes: unhex(t, c.bytes)}
		_, code := impl.LoadValue(m, impl.EnUtf8, u, c.at)
		is(t, c.bytes+" as "+c.kind, all(impl.CodeWord(code)), c.word)
		_, code = impl.LoadValue(m, 0, u, c.at)
		is(t, c.bytes+" in no encoding", all(code), impl.ErrForm)
		for _, enc := range encodings {
			checkLoad(t, m, enc, u, c.at)
			checkStore(t, m, enc, u, impl.DefaultOf(u), c.at)
		}
	}
}

// TestP15FirstLowerError checks which of two errors comes first.
func TestP15FirstLowerError(t *testing.T) {
	const list = "list<text>"
	for _, c := range []struct {
		kind, value string
		size        int64
		word        string
	}{
		{"text", `"\u{20ac}"`, 8, "text"}, {"text", `"\u{20ac}"`, 64, "text"}, {"text", `"a"`, 8, "many"}, {"tuple<text,text>", `("a", "\u{20ac}")`, 8, "many"}, {"tuple<text,text>", `("a", "\u{20ac}")`, 9, "text"}, {"tuple<text,text>", `("\u{20ac}", "a")`, 8, "text"}, {"tuple<text,text>", `("", "\u{20ac}")`, 0, "text"}, {"tuple<text,list<u8>>", `("\u{20ac}", [1])`, 0, "text"}, {"tuple<list<u8>,text>", `([1], "\u{20ac}")`, 8, "many"}, {"tuple<list<u8>,text>", `([], "\u{20ac}")`, 0, "text"},
		{list, `["\u{20ac}"]`, 15, "many"}, {list, `["\u{20ac}"]`, 16, "text"}, {list, `["a", "\u{20ac}"]`, 23, "many"}, {list, `["a", "\u{20ac}"]`, 24, "many"}, {list, `["a", "\u{20ac}"]`, 25, "text"}, {list, `["\u{20ac}", "a"]`, 24, "text"},
		{"tuple<text,list<text>,text>", `("ab", ["c", "de"], "\u{20ac}")`, 29, "many"}, {"tuple<text,list<text>,text>", `("ab", ["c", "de"], "\u{20ac}")`, 30, "text"}, {"tuple<text,list<text>,text>", `("ab", ["c", "\u{20ac}"], "f")`, 27, "many"}, {"tuple<text,list<text>,text>", `("ab", ["c", "\u{20ac}"], "f")`, 28, "text"}, {"tuple<text,list<text>,text>", `("\u{20ac}", ["c", "de"], "f")`, 0, "text"}, {"option<text>", `some("\u{20ac}")`, 0, "text"}, {"result<text,s64>", `ok("\u{20ac}")`, 0, "text"}, {"list<list<text>>", `[["a"], ["\u{20ac}"]]`, 43, "many"}, {"list<list<text>>", `[["a"], ["\u{20ac}"]]`, 44, "text"},
	} {
		v, u := valued(t, texts{c.value, c.kind})
		w, flat, code := impl.LowerFlat(fresh(t, c.size), impl.EnLatin, u, v)
		is(t, c.value, all(impl.CodeWord(code), alike(w, impl.Memory{}), len(flat) == 0), c.word, true, true)
		for size := range int64(70) {
			checkLower(t, fresh(t, size), impl.EnLatin, u, v)
			checkLower(t, fresh(t, size), impl.EnUtf16, u, v)
			for _, at := range []int64{0, 8, 16, 2, -4, size - impl.SizeOf(u), size} {
				checkStore(t, fresh(t, size), impl.EnLatin, u, v, at)
			}
		}
		// The address, which is misaligned or out of bounds, comes before the texts, and the fit of the value before the address.
		for _, at := range []int64{3, 61, 62, 64, 65, 80, -4, -1, math.MaxInt64, math.MinInt64} {
			w, code := impl.StoreValue(fresh(t, 64), impl.EnLatin, u, v, at)
			is(t, c.value, all(code, alike(w, impl.Memory{})), impl.ErrMemory, true)
			w, code = impl.StoreValue(fresh(t, 64), impl.EnLatin, u, impl.Value{Kind: u.Kind, Num: 5}, at)
			is(t, c.value, all(code, alike(w, impl.Memory{})), impl.ErrForm, true)
		}
		if impl.IsSpilled([]impl.Type{u, u, u}) {
			// The tuple is allocated before the texts are encoded.
			size := impl.TotalSize([]impl.Type{u, u, u})
			_, _, code = impl.LowerParams(fresh(t, 8+size-1), impl.EnLatin, []impl.Type{u, u, u}, []impl.Value{v, v, v})
			is(t, c.value, all(code), impl.ErrMany)
		}
		if len(impl.FlatOf(u)) > 1 && c.word == "text" {
			size := impl.SizeOf(u)
			_, _, code := impl.LowerResult(fresh(t, 8+size-1), impl.EnLatin, u, v)
			_, _, enough := impl.LowerResult(fresh(t, 80+size), impl.EnLatin, u, v)
			is(t, c.value, all(code, enough), impl.ErrMany, impl.ErrText)
		}
	}
}

// defaults are the default values of types.
func defaults(us []impl.Type) []impl.Value {
	var vs []impl.Value
	for _, u := range us {
		vs = append(vs, impl.DefaultOf(u))
	}
	return vs
}

func TestP15Params(t *testing.T) {
	for _, c := range []struct {
		types, values, flat string // the values are separated by semicolons
		bytes               string // in a new memory of 160 bytes, from address 8 on
	}{
		{"", "", "", ""}, {"u8", "7", "7", ""}, {"u8 s64 bool", "7; -1; true", "7 -1 1", ""}, {"unit", "()", "", ""}, {"unit u8 unit", "(); 5; ()", "5", ""}, {"text u8", `"hi"; 5`, "8 2 5", "6869"}, {"text text", `"hi"; "a"`, "8 2 10 1", "686961"}, {"option<s8> result<u8,s64>", "some(-1); ok(2)", "1 4294967295 0 2", ""}, {"u8 u8 u8 u8 u8 u8", "1; 2; 3; 4; 5; 6", "1 2 3 4 5 6", ""}, {"unit unit unit unit unit unit", "(); (); (); (); (); ()", "", ""},
		{"text text text text", `"a"; "b"; ""; "c"`, "8 1 9 1 0 0 10 1", "616263"}, {"tuple<u8,u8,u8,u8,u8,u8> u8 u8", "(1, 2, 3, 4, 5, 6); 7; 8", "1 2 3 4 5 6 7 8", ""}, {"tuple<s64,s64,s64,s64> tuple<s64,s64,s64,s64>", "(1, 2, 3, 4); (5, 6, 7, -8)", "1 2 3 4 5 6 7 -8", ""}, {"option<tuple<text,text,text,u8>>", "none", "0 0 0 0 0 0 0 0", ""}, {"text text text text unit", `"a"; "b"; ""; "c"; ()`, "8 1 9 1 0 0 10 1", "616263"},
		// One flat value more.
		{"tuple<u8,u8,u8,u8,u8,u8> u8 u8 u8", "(1, 2, 3, 4, 5, 6); 7; 8; 9", "8", "010203040506070809"}, {"text text text text u8", `"a"; "b"; ""; "c"; 7`, "8", "2c000000010000002d000000010000000000000000000000" + "2e0000000100000007000000" + "616263"}, {"u8 tuple<s64,s64,s64,s64> tuple<s64,s64,s64,s64>", "9; (1, 2, 3, 4); (5, 6, 7, -8)", "8", "090000000000000001000000000000000200000000000000030000000000000004000000000000000500000000000000060000000000000007000000000000" + "00f8ffffffffffffff"}, {"option<tuple<text,text,text,text>>", "none", "8", ""}, {"tuple<text,text,text,text> unit s8", `("", "", "", "z"); (); -1`, "8", "000000000000000000000000000000000000000000000000" + "2c00000001000000" + "ff000000" + "7a"}, {"tuple<text,text> tuple<text,text> list<s64>", `("", ""); ("", ""); [-1]`, "8", strings.Repeat("00", 32) + "3000000001000000" + "ffffffffffffffff"},
	} {
		us := typedList(t, c.types)
		var vs []impl.Value
		for i, text := range strings.Split(c.values, "; ") {
			if text != "" {
				v, code := impl.ReadValue(text, us[i])
				is(t, text, all(code), impl.OK)
				vs = append(vs, v)
			}
		}
		m, bytes := fresh(t, 160), unhex(t, c.bytes)
		w, flat, code := impl.LowerParams(m, impl.EnUtf8, us, vs)
		is(t, c.values, all(code, alike(flat, numbersOf(c.flat)), w.Bytes), impl.OK, true, m.Bytes[:8]+bytes+m.Bytes[8+len(bytes):])
		back, code := impl.LiftParams(w, impl.EnUtf8, us, flat)
		is(t, c.values, all(code, alike(back, vs), impl.IsSpilled(us)), impl.OK, true, len(flatModelOfAll(us)) > 8)
		for _, enc := range encodings {
			for size := range int64(161) {
				if checkLowerParams(t, fresh(t, size), enc, us, vs) == impl.OK {
					break
				}
			}
		}
		checkManyParams(t, w, us, vs, flat)
	}
}

// checkManyParams changes the numbers of types, values and flat values, which are valid for the memory.
func checkManyParams(t *testing.T, m impl.Memory, us []impl.Type, vs []impl.Value, flat []int64) {
	t.Helper()
	what := shown(us)
	unit, one := impl.Type{Kind: impl.TyUnit}, impl.Value{Kind: impl.TyUnit}
	bad := func(us []impl.Type, vs []impl.Value) {
		w, flat, code := impl.LowerParams(m, impl.EnUtf8, us, vs)
		is(t, "LowerParams of "+what, all(code, alike(w, impl.Memory{}), len(flat) == 0), impl.ErrForm, true, true)
	}
	bad(us, append(slices.Clone(vs), one))
	bad(append(slices.Clone(us), unit), vs)
	if len(us) > 0 {
		bad(us, vs[1:])
		bad(us[1:], vs)
		bad(us, append(slices.Clone(vs[1:]), impl.Value{}))
		bad(us, append([]impl.Value{{Kind: vs[0].Kind, Num: -9, Text: "a"}}, vs[1:]...))
		bad(append(slices.Clone(us[1:]), impl.Type{}), vs)
	}
	for many := len(us); many < 9; many++ {
		moreTypes, more := append(slices.Clone(us), slices.Repeat([]impl.Type{unit}, many-len(us))...), append(slices.Clone(vs), slices.Repeat([]impl.Value{one}, many-len(us))...)
		_, _, code := impl.LowerParams(m, impl.EnUtf8, moreTypes, more)
		lifted, liftCode := impl.LiftParams(m, impl.EnUtf8, moreTypes, flat)
		if many <= impl.MaxParams {
			checkLowerParams(t, m, impl.EnUtf8, moreTypes, more)
			is(t, what+" and units", all(liftCode, alike(lifted, more)), impl.OK, true)
		} else {
			is(t, what+" and units", all(code, liftCode, len(lifted) == 0), impl.ErrForm, impl.ErrForm, true)
		}
	}
	for _, other := range [][]int64{append(slices.Clone(flat), 0), append([]int64{0}, flat...), slices.Clone(flat)[min(1, len(flat)):], {-1}, {1 << 32}, {8}, {8, 8}, slices.Repeat([]int64{8}, 9), nil, {math.MaxInt64}, {math.MinInt64}} {
		checkLiftParams(t, m, impl.EnUtf8, us, other)
		if len(other) != len(flat) {
			vs, code := impl.LiftParams(m, impl.EnUtf8, us, other)
			is(t, "LiftParams of "+what, all(code, len(vs) == 0), impl.ErrForm, true)
		}
	}
}

func TestP15SpilledParams(t *testing.T) {
	us := typedList(t, "text text text text u8")
	m := blank(64)
	for _, c := range []struct {
		flat, word string
	}{
		{"0", "ok"}, {"4", "ok"}, {"28", "ok"}, {"32", "memory"}, {"29", "memory"}, {"2", "memory"}, {"1", "memory"}, {"64", "memory"}, {"60", "memory"}, {"4294967292", "memory"}, {"4294967295", "memory"},
		{"4294967296", "form"}, {"-1", "form"}, {"-4", "form"}, {"9223372036854775807", "form"}, {"-9223372036854775808", "form"}, {"", "form"}, {"0 0", "form"}, {"0 0 0 0 0 0 0 0 0", "form"}, {"0 0 0 0 0 0 0 0", "form"},
	} {
		vs, code := impl.LiftParams(m, impl.EnUtf8, us, numbersOf(c.flat))
		want := defaults(us)
		if code != impl.OK {
			want = nil
		}
		is(t, c.flat, all(impl.CodeWord(code), alike(vs, want)), c.word, true)
		checkLiftParams(t, m, impl.EnUtf8, us, numbersOf(c.flat))
	}
	wide := typedList(t, "tuple<s64,s64,s64,s64> tuple<s64,s64,s64,s64> u8")
	for at := range int64(70) {
		checkLiftParams(t, blank(80), impl.EnUtf8, wide, []int64{at})
		checkLiftParams(t, blank(79), impl.EnUtf8, wide, []int64{at})
		checkLiftParams(t, blank(81), impl.EnUtf8, us, []int64{at})
	}
	// Which part of the tuple is wrong: the first one is reported.
	good := strings.Repeat("\x00", 36)
	for _, c := range []struct {
		at    int
		bytes string
		word  string
	}{
		{0, "\x63\x00\x00\x00\x01", "memory"}, {0, "\x00\x00\x00\x00\x28", "memory"}, {24, "\x24\x00\x00\x00\x01", "text"}, {24, "\x25\x00\x00\x00\x01", "memory"}, {33, "\xff\xff\xff", "ok"}, {32, "\xff", "ok"}, {8, "\x24\x00\x00\x00\x01\x00\x00\x00\x63\x00\x00\x00\x01", "text"}, {8, "\x63\x00\x00\x00\x01\x00\x00\x00\x24\x00\x00\x00\x01", "memory"},
	} {
		m := impl.Memory{Bytes: good[:c.at] + c.bytes + good[c.at+len(c.bytes):] + "\xff"}
		_, code := impl.LiftParams(m, impl.EnUtf8, us, []int64{0})
		is(t, shown(c.at, c.bytes), all(impl.CodeWord(code)), c.word)
		checkLiftParams(t, m, impl.EnUtf8, us, []int64{0})
	}
	// The tuple is allocated first, then the texts in order.
	vs := []impl.Value{{Kind: impl.TyText, Text: "ab"}, {Kind: impl.TyText, Text: "c"}, {Kind: impl.TyText}, {Kind: impl.TyText, Text: "d"}, {Kind: impl.TyU8, Num: 9}}
	split := filled(120, 10, 3, 20, 40, 70, 2, 80, 1)
	w, flat, code := impl.LowerParams(split, impl.EnUtf8, us, vs)
	is(t, "a memory with holes", all(code, alike(flat, []int64{20}), impl.PutHex(w.Bytes[20:53]), w.Bytes[10:13]), impl.OK, true, "0a000000020000000c0000000100000000000000000000003800000001000000"+"09", "abc")
	is(t, "the padding", all(w.Bytes[53:56], w.Bytes[56:57]), "\xaa\xaa\xaa", "d")
	same(t, "a memory with holes", w, impl.Memory{Bytes: w.Bytes, Free: []impl.Block{{At: 57, Size: 3}, {At: 70, Size: 2}, {At: 80, Size: 1}}})
	for _, m := range []impl.Memory{split, filled(120, 10, 35), filled(120, 10, 36), filled(120, 12, 36), filled(120, 12, 36, 50, 1), filled(120, 12, 36, 50, 1, 52, 2), filled(120, 12, 36, 50, 2, 53, 1), filled(120, 12, 36, 50, 2, 53, 1, 55, 1), filled(120)} {
		checkLowerParams(t, m, impl.EnUtf8, us, vs)
		checkLowerParams(t, m, impl.EnUtf16, us, vs)
	}
}

func TestP15Results(t *testing.T) {
	for _, c := range []struct {
		kind, value, flat, bytes string // the bytes are those from address 8 on, in a memory of 64 bytes
	}{
		{"unit", "()", "", ""}, {"bool", "true", "1", ""}, {"s64", "-1", "-1", ""}, {"s8", "-1", "4294967295", ""}, {"char", "'a'", "97", ""}, {"own<r>", "own#3", "3", ""}, {"enum{a,b}", "b", "1", ""}, {"flags{a,b}", "{b}", "2", ""}, {"result<unit,unit>", "err", "1", ""}, {"variant{a,b,c}", "c", "2", ""}, {"tuple<s64>", "(-5)", "-5", ""}, {"record{a:tuple<u8>}", "{a: (5)}", "5", ""}, {"record{a:variant{b,c}}", "{a: c}", "1", ""}, {"stream<text>", "stream#9", "9", ""},
		{"text", `""`, "8", "0000000000000000"}, {"text", `"hi"`, "8", "10000000020000006869"}, {"list<u8>", "[]", "8", "0000000000000000"}, {"list<u8>", "[7, 8]", "8", "10000000020000000708"}, {"option<u8>", "none", "8", "00"}, {"option<u8>", "some(9)", "8", "0109"}, {"option<s64>", "some(-1)", "8", "0100000000000000ffffffffffffffff"}, {"result<u8,unit>", "err", "8", "01"}, {"tuple<u8,s64>", "(1, 2)", "8", "01000000000000000200000000000000"}, {"tuple<u8,u8>", "(1, 2)", "8", "0102"}, {"tuple<text,text,text,text,text>", `("", "", "a", "", "")`, "8", "000000000000000000000000000000003000000001000000" + "00000000000000000000000000000000" + "61"}, {"variant{a:s64,b}", "b", "8", "01"},
	} {
		v, u := valued(t, texts{c.value, c.kind})
		m, bytes := fresh(t, 64), unhex(t, c.bytes)
		w, flat, code := impl.LowerResult(m, impl.EnUtf8, u, v)
		is(t, c.value, all(code, alike(flat, numbersOf(c.flat)), w.Bytes), impl.OK, true, m.Bytes[:8]+bytes+m.Bytes[8+len(bytes):])
		if c.bytes == "" {
			same(t, c.value, w, m)
		}
		back, code := impl.LiftResult(w, impl.EnUtf8, u, flat)
		is(t, c.value, all(code, alike(back, v)), impl.OK, true)
		for _, enc := range encodings {
			for size := range int64(65) {
				checkLower(t, fresh(t, size), enc, u, v)
			}
			for at := range int64(70) {
				checkLift(t, blank(64), enc, u, []int64{at})
				checkLift(t, filled(64), enc, u, []int64{at})
			}
			for _, flat := range [][]int64{nil, {0}, {1}, {0, 0}, {8, 8, 8}, {-1}, {-8}, {1 << 32}, {1<<32 - 1}, {1<<32 - 8}, {math.MaxInt64}, {math.MinInt64}, make([]int64, len(flatModel(u)))} {
				checkLift(t, m, enc, u, flat)
			}
		}
	}
	for _, c := range []struct {
		kind, flat, word string
	}{
		{"unit", "", "ok"}, {"unit", "0", "form"}, {"unit", "8", "form"}, {"bool", "", "form"}, {"bool", "1", "ok"}, {"bool", "2", "type"}, {"bool", "-1", "form"}, {"bool", "0 0", "form"}, {"s64", "-1", "ok"}, {"s64", "9223372036854775807", "ok"}, {"s64", "", "form"}, {"enum{a,b}", "2", "type"}, {"tuple<s64>", "-1", "ok"}, {"tuple<u8>", "-1", "form"}, {"tuple<u8>", "256", "type"}, {"variant{a,b}", "2", "type"},
		{"text", "8", "ok"}, {"text", "10", "memory"}, {"text", "56", "ok"}, {"text", "60", "memory"}, {"text", "8 0", "form"}, {"text", "0 0", "form"}, {"text", "", "form"}, {"text", "-8", "form"}, {"text", "4294967296", "form"}, {"text", "4294967288", "memory"}, {"option<s64>", "48", "ok"}, {"option<s64>", "56", "memory"}, {"option<s64>", "44", "memory"}, {"option<s64>", "0 0", "form"}, {"tuple<u8,u8>", "62", "ok"}, {"tuple<u8,u8>", "63", "memory"}, {"tuple<u8,u8>", "64", "memory"},
	} {
		_, code := impl.LiftResult(blank(64), impl.EnUtf8, typed(t, c.kind), numbersOf(c.flat))
		is(t, c.kind+" from "+c.flat, all(impl.CodeWord(code)), c.word)
	}
	// The result is allocated first, and then its texts.
	v, u := valued(t, texts{`{a: 5, b: "hi", c: some(-2)}`, "record{a:u8,b:text,c:option<s16>}"})
	for _, m := range []impl.Memory{filled(64, 10, 15), filled(64, 10, 18), filled(64, 12, 16), filled(64, 12, 16, 30, 1), filled(64, 10, 2, 16, 16), filled(64, 10, 1, 12, 1, 16, 16), filled(64, 10, 1, 16, 17, 40, 4), filled(64)} {
		checkLower(t, m, impl.EnUtf8, u, v)
		checkLower(t, m, impl.EnUtf16, u, v)
	}
}

// TestP15Padding stores values of one case over those of another, and over bytes that are not zero.
func TestP15Padding(t *testing.T) {
	for _, kind := range []string{"variant{a:s64,b:tuple<u8,u16>,c,d:text}", "result<tuple<u8,s64>,list<u8>>", "option<tuple<u8,u32,u8>>", "tuple<u8,option<s64>,u8>", "record{a:u8,b:variant{x:u8,y:s32},c:u16}", "result<option<u16>,option<s64>>"} {
		u := typed(t, kind)
		r := rand.New(rand.NewSource(131))
		for range 200 {
			v, _ := someValue(r, u)
			first, _ := someValue(r, u)
			m := filled(160, 100, 60)
			w, code := impl.StoreValue(m, impl.EnUtf8, u, first, 8)
			if code != impl.OK {
				continue
			}
			checkStore(t, m, impl.EnUtf8, u, first, 8)
			checkStore(t, w, impl.EnUtf8, u, v, 8)
			again, code := impl.StoreValue(w, impl.EnUtf8, u, v, 8)
			if code != impl.OK {
				continue
			}
			back, code := impl.LoadValue(again, impl.EnUtf8, u, 8)
			is(t, kind, all(code, alike(back, v)), impl.OK, true)
			end := 8 + int(impl.SizeOf(u))
			is(t, kind, all(again.Bytes[:8], again.Bytes[end:100]), w.Bytes[:8], w.Bytes[end:100])
		}
	}
}

// TestP15Overlap stores values at bytes that are free, so that their texts and lists are allocated there too.
func TestP15Overlap(t *testing.T) {
	for _, c := range []struct {
		kind, value, bytes string // the bytes from address 8 on
	}{
		{"text", `"abcdefgh"`, "0800000008000000"}, {"tuple<text,text>", `("ab", "cd")`, "0800636402000000" + "0a00000002000000"}, {"tuple<u32,text>", `(16909060, "ab")`, "6162020108000000" + "02000000"}, {"tuple<text,u32>", `("abcdefghijkl", 1)`, "080000000c000000" + "01000000"}, {"list<u8>", "[1, 2, 3, 4, 5, 6, 7, 8]", "0800000008000000"}, {"list<list<u8>>", "[[1]]", "0800000001000000" + "01"}, {"option<text>", `some("abcdef")`, "6162636408000000" + "06000000"}, {"tuple<u8,list<s64>>", "(9, [-1])", "ffffffff" + "0800000001000000"}, {"list<text>", `["ab", "c"]`, "0800000002000000" + "1a00000001000000" + "616263"},
		{"variant{a,b:text}", `b("abcdefgh")`, "6162636408000000" + "08000000"},
	} {
		v, u := valued(t, texts{c.value, c.kind})
		m, bytes := fresh(t, 64), unhex(t, c.bytes)
		w, code := impl.StoreValue(m, impl.EnUtf8, u, v, 8)
		is(t, c.value, all(code, impl.PutHex(w.Bytes)), impl.OK, impl.PutHex(m.Bytes[:8]+bytes+m.Bytes[8+len(bytes):]))
		for _, enc := range encodings {
			for at := range int64(64) {
				checkStore(t, m, enc, u, v, at)
			}
		}
	}
}

// shortened returns a value whose texts can mostly be represented in an encoding.
func shortened(r *rand.Rand, v impl.Value, enc int64) impl.Value {
	if v.Kind == impl.TyText && enc == impl.EnLatin && r.Intn(3) > 0 {
		text := ""
		for _, c := range []rune(v.Text) {
			if more := text + string(c%256); len(more) <= 24 {
				text = more
			}
		}
		v.Text = text
	}
	v.Kids = slices.Clone(v.Kids)
	for i, kid := range v.Kids {
		v.Kids[i] = shortened(r, kid, enc)
	}
	return v
}

// someMemory makes up a valid memory.
func someMemory(r *rand.Rand) impl.Memory {
	size := []int{0, 7, 8, 16, 30, 60, 100, 200, 200, 400, 400, 4096}[r.Intn(12)]
	model := freshModel(int64(size))
	if r.Intn(4) == 0 {
		model.set(0, int64(size), false)
	}
	for range r.Intn(8) {
		at := r.Intn(size + 1)
		if many := min(r.Intn(12), size-at); at >= 8 || many == 0 {
			model.set(int64(at), int64(many), r.Intn(2) == 0)
		}
	}
	for i := range model.bytes {
		model.bytes[i] = []byte{0, 0, 0, 1, 2, 'a', 'b', byte(r.Intn(256)), byte(r.Intn(64)), 255}[r.Intn(10)]
	}
	return model.memory()
}

// someNumberFrom makes up a flat value.
func someNumberFrom(r *rand.Rand, list []int64) int64 {
	if r.Intn(3) > 0 {
		return int64(r.Intn(12))
	}
	return list[r.Intn(len(list))]
}

// canonTypes are types that are made up, and those of the tables.
func canonTypes(t *testing.T, seed int64, many int) []impl.Type {
	list := someTypes(seed, many)
	for _, s := range goodTypes {
		list = append(list, typed(t, s))
	}
	for _, c := range numberTable {
		list = append(list, typed(t, c.kind))
	}
	return list
}

// TestP15LowerModel lowers and stores values that are made up, and lifts and loads them again.
func TestP15LowerModel(t *testing.T) {
	t.Parallel()
	r := rand.New(rand.NewSource(132))
	met := map[string]int{}
	for _, u := range canonTypes(t, 133, 1500) {
		for range 10 {
			enc := encodings[r.Intn(3)]
			v, _ := someValue(r, u)
			v = shortened(r, v, enc)
			m := someMemory(r)
			met["lower "+impl.CodeWord(checkLower(t, m, enc, u, v))]++
			at := int64(r.Intn(len(m.Bytes)+10)) &^ []int64{0, 7, 7, 7}[r.Intn(4)]
			met["store "+impl.CodeWord(checkStore(t, m, enc, u, v, at))]++
			checkStored(t, m, enc, u, v)
		}
	}
	for what, many := range map[string]int{"lower ok": 1000, "lower many": 300, "lower text": 80, "store ok": 1000, "store many": 150, "store text": 40, "store memory": 300} {
		is(t, what, all(met[what] >= many), true)
	}
}

// checkStored stores a value at bytes that are not free, and loads it.
func checkStored(t *testing.T, m impl.Memory, enc int64, u impl.Type, v impl.Value) {
	t.Helper()
	m, at, code := impl.Alloc(m, impl.SizeOf(u), impl.AlignOf(u))
	if code != impl.OK {
		return
	}
	w, code := impl.StoreValue(m, enc, u, v, at)
	if code != impl.OK {
		return
	}
	back, code := impl.LoadValue(w, enc, u, at)
	is(t, "back from "+shown(at)+" as "+printed(u), all(code, alike(back, v)), impl.OK, true)
	for i, free := range canonOf(m, enc).free {
		if !free && (int64(i) < at || int64(i) >= at+impl.SizeOf(u)) && w.Bytes[i] != m.Bytes[i] {
			t.Errorf("%s: byte %d is changed", printed(u), i)
		}
	}
}

// TestP15LiftModel lifts and loads values from flat values and bytes that are made up, or are those of a value with something
// changed.
func TestP15LiftModel(t *testing.T) {
	r := rand.New(rand.NewSource(134))
	list := numbers()
	met := map[string]int{}
	for _, u := range canonTypes(t, 135, 1500) {
		for range 4 {
			enc := encodings[r.Intn(3)]
			m := someMemory(r)
			flat := make([]int64, len(flatModel(u)))
			for i := range flat {
				flat[i] = someNumberFrom(r, list)
			}
			met["made up "+impl.CodeWord(checkLift(t, m, enc, u, flat))]++
			met["load "+impl.CodeWord(checkLoad(t, m, enc, u, int64(r.Intn(len(m.Bytes)+10))&^7))]++
			v, _ := someValue(r, u)
			w, flat, code := impl.LowerFlat(m, enc, u, shortened(r, v, enc))
			if code != impl.OK {
				continue
			}
			w = spoilt(r, w)
			for i := range flat {
				if r.Intn(3) == 0 {
					flat[i] = []int64{flat[i] + 1, flat[i] - 1, flat[i] + 1<<32, someNumberFrom(r, list), -1}[r.Intn(5)]
				}
			}
			met["changed "+impl.CodeWord(checkLift(t, w, enc, u, flat))]++
			w, at, code := impl.LowerResult(m, enc, u, shortened(r, v, enc))
			if code == impl.OK && len(flatModel(u)) > 1 {
				met["load "+impl.CodeWord(checkLoad(t, spoilt(r, w), enc, u, at[0]))]++
			}
		}
	}
	for _, what := range strings.Fields("ok form type memory many text") {
		is(t, what, all(met["made up "+what] > 5 || what == "text", met["changed "+what] > 5, met["load "+what] > 5 || what == "form"), true, true, true)
	}
	is(t, "enough", all(met["made up ok"] > 300, met["changed ok"] > 300, met["load ok"] > 1000, met["load type"] > 500), true, true, true, true)
}

// spoilt returns a memory with some bytes changed.
func spoilt(r *rand.Rand, m impl.Memory) impl.Memory {
	bytes := []byte(m.Bytes)
	for range r.Intn(6) {
		if len(bytes) > 0 {
			bytes[r.Intn(min(len(bytes), 80))] = []byte{0, 1, 2, 8, 9, 255, byte(r.Intn(256))}[r.Intn(7)]
		}
	}
	m.Bytes = string(bytes)
	return m
}

// TestP15ParamsModel lowers and lifts parameter lists that are made up.
func TestP15ParamsModel(t *testing.T) {
	t.Parallel()
	r := rand.New(rand.NewSource(136))
	list := canonTypes(t, 137, 1500)
	numbers := numbers()
	met := map[string]int{}
	for range 12000 {
		enc := encodings[r.Intn(3)]
		var us []impl.Type
		var vs []impl.Value
		for range r.Intn(7) {
			u := list[r.Intn(len(list))]
			v, _ := someValue(r, u)
			us, vs = append(us, u), append(vs, shortened(r, v, enc))
		}
		m := someMemory(r)
		what := map[bool]string{true: "spilled ", false: "flat "}[impl.IsSpilled(us)]
		met[what+impl.CodeWord(checkLowerParams(t, m, enc, us, vs))]++
		w, flat, code := impl.LowerParams(m, enc, us, vs)
		if code != impl.OK {
			continue
		}
		w = spoilt(r, w)
		for i := range flat {
			if r.Intn(4) == 0 {
				flat[i] = someNumberFrom(r, numbers)
			}
		}
		met[what+"lifted "+impl.CodeWord(checkLiftParams(t, w, enc, us, flat))]++
	}
	for _, what := range strings.Fields("ok many text") {
		is(t, what, all(met["spilled "+what] > 20, met["flat "+what] > 50), true, true)
	}
	for _, what := range strings.Fields("ok form type memory many text") {
		is(t, "lifted "+what, all(met["spilled lifted "+what] > 2, met["flat lifted "+what] > 2), true, true)
	}
}

// canonCall are the arguments of the functions of chapter 13.
type canonCall struct {
	M      impl.Memory
	Enc    int64
	Types  []impl.Type
	Values []impl.Value
	Flat   []int64
	At     int64
}

// results calls all functions of chapter 13: those for one value with the first type and value.
func (c canonCall) results() []any {
	u, v := append(slices.Clone(c.Types), impl.Type{})[0], append(slices.Clone(c.Values), impl.Value{})[0]
	loaded, loadCode := impl.LoadValue(c.M, c.Enc, u, c.At)
	stored, storeCode := impl.StoreValue(c.M, c.Enc, u, v, c.At)
	lifted, liftCode := impl.LiftFlat(c.M, c.Enc, u, c.Flat)
	lowered, flat, lowerCode := impl.LowerFlat(c.M, c.Enc, u, v)
	params, paramsCode := impl.LiftParams(c.M, c.Enc, c.Types, c.Flat)
	passed, passedFlat, passCode := impl.LowerParams(c.M, c.Enc, c.Types, c.Values)
	result, resultCode := impl.LiftResult(c.M, c.Enc, u, c.Flat)
	returned, returnFlat, returnCode := impl.LowerResult(c.M, c.Enc, u, v)
	return all(loaded, loadCode, stored, storeCode, lifted, liftCode, lowered, flat, lowerCode, params, paramsCode, passed, passedFlat, passCode, result, resultCode, returned, returnFlat, returnCode)
}

// checkNoForm checks that every function returns ErrForm and nothing else.
func checkNoForm(t *testing.T, what string, c canonCall) {
	t.Helper()
	for i, result := range c.results() {
		code, isCode := result.(int64)
		switch x := result.(type) {
		case impl.Value:
			is(t, what, all(alike(x, impl.Value{})), true)
		case impl.Memory:
			is(t, what, all(alike(x, impl.Memory{})), true)
		case []impl.Value:
			is(t, what, all(len(x) == 0), true)
		case []int64:
			is(t, what, all(len(x) == 0), true)
		}
		if isCode && code != impl.ErrForm {
			t.Errorf("%s: result %d is the code %d", what, i, code)
		}
	}
}

// goodCalls are arguments with which every function succeeds.
func goodCalls(t *testing.T) []canonCall {
	var list []canonCall
	for _, c := range []texts{{"7", "u8"}, {"-7", "s64"}, {"(7)", "tuple<u8>"}, {"b", "enum{a,b}"}, {"own#3", "own<r>"}, {"()", "unit"}, {"c", "variant{a,b,c}"}} {
		v, u := valued(t, c)
		m := blank(64, 40, 24)
		_, flat, code := impl.LowerFlat(m, impl.EnUtf8, u, v)
		is(t, c.value, all(code), impl.OK)
		list = append(list, canonCall{m, impl.EnUtf8, []impl.Type{u}, []impl.Value{v}, flat, 8})
	}
	for _, c := range list {
		for i, result := range c.results() {
			if code, ok := result.(int64); ok && code != impl.OK {
				t.Errorf("%s: result %d is the code %d", shown(c.Types), i, code)
			}
		}
	}
	return list
}

// TestP15Form makes one argument invalid, whatever else is wrong.
func TestP15Form(t *testing.T) {
	high, low := int64(math.MaxInt64), int64(math.MinInt64)
	within, beyond := limitTypes()
	r := rand.New(rand.NewSource(138))
	for _, c := range goodCalls(t) {
		for _, at := range []int64{c.At, 1, 64, 100, -1, high, low} {
			c.At = at
			for _, m := range []impl.Memory{
				blank(4097), blank(4097, 8, 1), blank(64, 8, 0), blank(64, 8, -1), blank(64, 7, 4), blank(64, 0, 64), blank(64, 60, 5), blank(64, 64, 1), blank(64, 8, 4, 12, 4), blank(64, 8, 8, 10, 2), blank(64, 20, 4, 8, 4), blank(0, 8, 1), blank(8, 8, 1),
				blank(64, high, 1), blank(64, 8, high), blank(64, high, high), blank(64, low, high), blank(64, low, low), blank(64, high-7, 8), blank(64, 8, 2, high, 2), blank(64, slices.Repeat([]int64{8, 1}, 1000)...),
			} {
				bad := c
				bad.M = m
				checkNoForm(t, shown(len(m.Bytes), m.Free[:min(len(m.Free), 3)]), bad)
			}
			for _, enc := range noEncodings() {
				bad := c
				bad.Enc = enc
				checkNoForm(t, "encoding "+strconv.FormatInt(enc, 10), bad)
			}
		}
		for _, u := range slices.Concat(beyond, []impl.Type{{}, {Kind: 24}, {Kind: -1}, {Kind: high}, {Kind: low}, {Kind: 1<<32 + impl.TyU8}, {Kind: impl.TyList}, {Kind: impl.TyU8, Name: "a"}, {Kind: impl.TyTuple}, {Kind: impl.TyOption, Kids: []impl.Type{{Kind: impl.TyUnit}}}, broken(r, c.Types[0])}) {
			bad := c
			for _, types := range [][]impl.Type{{u}, {u, u}, {u, c.Types[0]}} {
				bad.Types = types
				bad.Values = slices.Repeat(c.Values, len(types))
				checkNoForm(t, shown(u), bad)
			}
		}
	}
	for _, u := range within {
		v, _ := someValue(r, u)
		checkLower(t, blank(4096, 8, 4088), impl.EnUtf8, u, v)
	}
}

// TestP15NoFit has values that do not fit their types, and flat values that do not fit the kinds.
func TestP15NoFit(t *testing.T) {
	r := rand.New(rand.NewSource(139))
	many := 0
	m := blank(400, 8, 392)
	for _, u := range canonTypes(t, 140, 600) {
		for range 4 {
			v, _ := someValue(r, u)
			v = roomy(v)
			breakValue(r, &v)
			if fitsModel(v, u) {
				checkLower(t, m, impl.EnUtf16, u, v)
				continue
			}
			many++
			for _, at := range []int64{8, 3, 500, -8} {
				w, code := impl.StoreValue(m, impl.EnUtf8, u, v, at)
				is(t, printed(u), all(code, alike(w, impl.Memory{})), impl.ErrForm, true)
			}
			flatly, flat, code := impl.LowerFlat(m, impl.EnUtf8, u, v)
			result, resultFlat, resultCode := impl.LowerResult(m, impl.EnUtf8, u, v)
			params, paramsFlat, paramsCode := impl.LowerParams(m, impl.EnUtf8, []impl.Type{{Kind: impl.TyU8}, u, {Kind: impl.TyText}}, []impl.Value{{Kind: impl.TyU8}, v, {Kind: impl.TyText}})
			is(t, printed(u), all(code, resultCode, paramsCode, len(flat)+len(resultFlat)+len(paramsFlat) == 0), impl.ErrForm, impl.ErrForm, impl.ErrForm, true)
			is(t, printed(u), all(alike(flatly, impl.Memory{}), alike(result, impl.Memory{}), alike(params, impl.Memory{})), true, true, true)
		}
		full, limit := make([]int64, len(flatModel(u))), []int64{-1, 1 << 32, math.MaxInt64, math.MinInt64, 1<<32 - 1, 0}
		for i := range full {
			for _, n := range limit {
				flat := slices.Clone(full)
				flat[i] = n
				checkLift(t, m, impl.EnUtf8, u, flat)
			}
		}
		checkLift(t, m, impl.EnUtf8, u, append(full, 0))
		checkLift(t, m, impl.EnUtf8, u, full[:max(len(full)-1, 0)])
	}
	is(t, "enough", all(many > 1000), true)
	u, long := typed(t, "list<u8>"), impl.Value{Kind: impl.TyList, Kids: slices.Repeat([]impl.Value{{Kind: impl.TyU8, Num: 1}}, 9)}
	_, _, code := impl.LowerFlat(m, impl.EnUtf8, u, long)
	_, storeCode := impl.StoreValue(m, impl.EnUtf8, u, long, 8)
	is(t, "a list of nine elements", all(code, storeCode), impl.ErrForm, impl.ErrForm)
	long.Kids = long.Kids[1:]
	is(t, "a list of eight elements", all(checkLower(t, m, impl.EnUtf8, u, long), checkStore(t, m, impl.EnUtf8, u, long, 392)), impl.OK, impl.OK)
}

// TestP1DeepCanon has types and values that are nested very deep.
func TestP1DeepCanon(t *testing.T) {
	m := blank(64, 8, 56)
	circle := []impl.Value{{Kind: impl.TyList}, {Kind: impl.TyList}}
	circle[0].Kids, circle[1].Kids = circle, circle[:1]
	values := []impl.Value{{}, {Kind: impl.TyU8}, circle[0], deepValue(impl.TyList, 10000, impl.Value{Kind: impl.TyU8}), deepValue(impl.TyOption, 1000000, impl.Value{}), {Kind: impl.TyText, Text: strings.Repeat("a", 100000)}}
	for i, u := range deepTypes() {
		for _, v := range values {
			for _, flat := range [][]int64{nil, {0}, {8, 1}, make([]int64, 100000)} {
				checkNoForm(t, "deep type "+strconv.Itoa(i), canonCall{m, impl.EnUtf8, []impl.Type{u}, []impl.Value{v}, flat, 8})
				checkNoForm(t, "deep type in an option "+strconv.Itoa(i), canonCall{m, impl.EnUtf8, []impl.Type{{Kind: impl.TyOption, Kids: []impl.Type{u}}}, []impl.Value{v}, flat, 8})
			}
		}
	}
	for _, s := range []string{"list<list<list<u8>>>", "option<option<u8>>", "text", "tuple<list<u8>>"} {
		for _, v := range values {
			u := typed(t, s)
			_, _, code := impl.LowerFlat(m, impl.EnUtf8, u, v)
			_, storeCode := impl.StoreValue(m, impl.EnUtf8, u, v, 8)
			_, _, paramsCode := impl.LowerParams(m, impl.EnUtf8, []impl.Type{u}, []impl.Value{v})
			_, _, resultCode := impl.LowerResult(m, impl.EnUtf8, u, v)
			is(t, s, all(code, storeCode, paramsCode, resultCode), impl.ErrForm, impl.ErrForm, impl.ErrForm, impl.ErrForm)
		}
	}
	long := slices.Repeat([]impl.Type{{Kind: impl.TyU8}}, 100000)
	_, code := impl.LiftParams(m, impl.EnUtf8, long, make([]int64, 100000))
	_, _, lowerCode := impl.LowerParams(m, impl.EnUtf8, long, make([]impl.Value, 100000))
	_, _, moreCode := impl.LowerParams(m, impl.EnUtf8, long[:3], make([]impl.Value, 100000))
	is(t, "very many types and values", all(code, lowerCode, moreCode), impl.ErrForm, impl.ErrForm, impl.ErrForm)
}

func TestP1Canon(t *testing.T) {
	t.Parallel()
	r := rand.New(rand.NewSource(141))
	list := numbers()
	types := canonTypes(t, 142, 800)
	within, beyond := limitTypes()
	types = slices.Concat(types, within, beyond, []impl.Type{{}, {Kind: impl.TyOption, Kids: []impl.Type{{}, {}}}})
	for i, u := range types {
		c := canonCall{M: someMemory(r), Enc: int64(r.Intn(5)), Types: types[i:min(len(types), i+1+r.Intn(7))], At: int64(r.Intn(30)) * 4}
		if r.Intn(3) > 0 {
			c.Types = types[i : i+1]
		}
		for _, u := range c.Types {
			v := impl.Value{}
			if impl.TypeOk(u) {
				v, _ = someValue(r, u)
				v = shortened(r, v, impl.EnLatin)
			}
			c.Values = append(c.Values, v)
		}
		what := shown(u)
		pure(t, what, c, canonCall.results)
		c.Enc, c.M = impl.EnUtf8, blank(400, 8, 20, 40, 300)
		pure(t, what, c, canonCall.results)
		_, c.Flat, _ = impl.LowerParams(c.M, c.Enc, c.Types, c.Values)
		c.M, _, _ = impl.LowerParams(c.M, c.Enc, c.Types, c.Values)
		pure(t, what, c, canonCall.results)
		_, c.Flat, _ = impl.LowerFlat(c.M, c.Enc, c.Types[0], c.Values[0])
		pure(t, what, c, canonCall.results)
		c.Flat = []int64{list[r.Intn(len(list))]}
		c.At = list[r.Intn(len(list))]
		pure(t, what, c, canonCall.results)
	}
	for _, c := range goodCalls(t) {
		for _, n := range list {
			c.At, c.Flat, c.Enc = n, []int64{n}, 1
			pure(t, shown(n), c, canonCall.results)
			c.Enc = n
			pure(t, shown(n), c, canonCall.results)
		}
	}
}
