package tests

import (
	"math"
	"math/rand"
	"slices"
	"strconv"
	"strings"
	"testing"

	"loop.example/g00901/impl"
)

// moveWords are names of the kinds of moves, at their numbers.
var moveWords = strings.Fields("none copy small wide text list cases handle")

// movesText is a text of moves: each has its kind and its place, and behind that whatever fields are not zero: +Size, /Align,
// :Type, *Most and =Name, and the lists of Kids in brackets, separated by bars.
func movesText(moves []impl.Move) string {
	var list []string
	for _, m := range moves {
		text := moveWords[m.Kind] + "@" + strconv.FormatInt(m.At, 10)
		for i, n := range []int64{m.Size, m.Align, m.Type, m.Most} {
			if n != 0 && i == 2 {
				text += ":" + kindWords[n-1]
			} else if n != 0 {
				text += "+/:*"[i:i+1] + strconv.FormatInt(n, 10)
			}
		}
		if m.Name != "" {
			text += "=" + m.Name
		}
		var kids []string
		for _, kid := range m.Kids {
			kids = append(kids, movesText(kid))
		}
		if len(kids) > 0 {
			text += "[" + strings.Join(kids, "|") + "]"
		}
		list = append(list, text)
	}
	return strings.Join(list, " ")
}

// movesModel returns the moves of a type at an offset, or at an index of flat values. It merges none.
func movesModel(u impl.Type, at int64, flat bool) []impl.Move {
	word := kindWords[u.Kind-1]
	m := impl.Move{At: at}
	switch word {
	case "unit":
		return nil
	case "tuple", "record":
		return movesModelOfAll(u.Kids, at, flat)
	case "text":
		m.Kind = impl.MvText
	case "own", "borrow":
		m.Kind, m.Type, m.Name = impl.MvHandle, u.Kind, u.Name
	case "list":
		e := extentModel(u.Kids[0])
		m.Kind, m.Size, m.Align = impl.MvList, e.size, e.align
		m.Kids = [][]impl.Move{mergedModel(movesModel(u.Kids[0], 0, false))}
	case "option", "result", "variant":
		cases := casesOf(u)
		m.Kind, m.Most = impl.MvCases, int64(len(cases))
		offset, _ := caseModel(cases)
		if flat {
			offset = 1
		}
		for _, kid := range cases {
			m.Kids = append(m.Kids, mergedModel(movesModel(kid, at+offset, flat)))
		}
	case "u8", "s8", "u16", "s16", "u32", "s32", "s64":
		switch {
		case !flat:
			m.Kind, m.Size = impl.MvCopy, extentModel(u).size
		case word == "s64":
			m.Kind = impl.MvWide
		default:
			m.Kind, m.Type = impl.MvSmall, u.Kind
		}
	default:
		m.Kind, m.Type, m.Most = impl.MvSmall, u.Kind, int64(len(u.Labels))
		if !flat {
			m.Size = extentModel(u).size
		}
	}
	return []impl.Move{m}
}

// movesModelOfAll returns the moves of a tuple.
func movesModelOfAll(us []impl.Type, at int64, flat bool) []impl.Move {
	var moves []impl.Move
	offsets, _ := rowModel(us)
	for i, u := range us {
		place := at + offsets[i]
		if flat {
			place = at + int64(len(flatModelOfAll(us[:i])))
		}
		moves = append(moves, movesModel(u, place, flat)...)
	}
	return moves
}

// mergedModel merges copies until none can be merged.
func mergedModel(moves []impl.Move) []impl.Move {
	for i := 0; i+1 < len(moves); i++ {
		m, n := moves[i], moves[i+1]
		if m.Kind == impl.MvCopy && n.Kind == impl.MvCopy && m.At+m.Size == n.At {
			m.Size += n.Size
			return mergedModel(slices.Concat(moves[:i], []impl.Move{m}, moves[i+2:]))
		}
	}
	return moves
}

// fuseModel transfers parameters as chapter 14 says, but by their types.
type fuseModel struct {
	a, b    canonModel
	handles []int64
}

// nextHandle consumes a handle.
func (f *fuseModel) nextHandle() int64 {
	need(len(f.handles) > 0, impl.ErrRange)
	n := f.handles[0]
	f.handles = f.handles[1:]
	return n
}

// flat transfers a value with these flat values, and returns its flat values in b.
func (f *fuseModel) flat(u impl.Type, in []int64) []int64 {
	switch {
	case isRow(u):
		return f.flatAll(u.Kids, in)
	case hasCases(u):
		num := f.a.lift(impl.Type{Kind: impl.TyEnum, Labels: make([]string, len(casesOf(u)))}, in).Num
		out := make([]int64, len(flatModel(u)))
		out[0] = num
		copy(out[1:], f.flat(casesOf(u)[num], in[1:]))
		return out
	case u.Kind == impl.TyList:
		u32 := impl.Type{Kind: impl.TyU32}
		from, many := f.a.lift(u32, in).Num, f.a.lift(u32, in[1:]).Num
		need(many <= 8, impl.ErrMany)
		e := extentModel(u.Kids[0])
		f.a.placed(from, extent{many * e.size, e.align})
		to := f.b.take(many*e.size, e.align)
		for i := range many {
			f.bytes(u.Kids[0], from+i*e.size, to+i*e.size)
		}
		return []int64{to, many}
	}
	v := f.a.lift(u, in)
	if u.Kind == impl.TyOwn || u.Kind == impl.TyBorrow {
		v.Num = f.nextHandle()
	}
	return f.b.lower(u, v)
}

func (f *fuseModel) flatAll(us []impl.Type, in []int64) []int64 {
	var out []int64
	for _, u := range us {
		out = append(out, f.flat(u, in)...)
		in = in[len(flatModel(u)):]
	}
	return out
}

// bytes transfers a value from an address in a to an address in b.
func (f *fuseModel) bytes(u impl.Type, from, to int64) {
	switch {
	case isRow(u):
		f.bytesAll(u.Kids, from, to)
	case hasCases(u):
		cases := casesOf(u)
		offset, _ := caseModel(cases)
		num := int64(f.a.bytes[from])
		need(num < int64(len(cases)), impl.ErrType)
		f.b.bytes[to] = byte(num)
		f.bytes(cases[num], from+offset, to+offset)
	case u.Kind != impl.TyUnit:
		f.b.putFlat(u, f.flat(u, f.a.flatAt(u, from)), to)
	}
}

func (f *fuseModel) bytesAll(us []impl.Type, from, to int64) {
	offsets, _ := rowModel(us)
	for i, u := range us {
		f.bytes(u, from+offsets[i], to+offsets[i])
	}
}

// all transfers a parameter list.
func (f *fuseModel) all(us []impl.Type, in []int64) []int64 {
	if len(flatModelOfAll(us)) <= 8 {
		out := f.flatAll(us, in)
		need(len(f.handles) == 0, impl.ErrRange)
		return out
	}
	_, row := rowModel(us)
	f.a.placed(in[0], row)
	at := f.b.take(row.size, row.align)
	f.bytesAll(us, in[0], at)
	need(len(f.handles) == 0, impl.ErrRange)
	return []int64{at}
}

// passage are the arguments of RunPlan, but for the plan, with what the plan is made of.
type passage struct {
	Types    []impl.Type
	From, To int64
	A        impl.Memory
	Flat     []int64
	B        impl.Memory
	Handles  []int64
}

// isForm reports whether the flat values and the handles are valid, for valid types.
func (c passage) isForm() bool {
	kinds := flatModelOfAll(c.Types)
	if len(kinds) > 8 {
		kinds = "s"
	}
	return isFlat(kinds, c.Flat) && !slices.ContainsFunc(c.Handles, func(n int64) bool { return n < 0 || n > 2147483647 })
}

// model says what RunPlan returns for valid types, encodings and memories.
func (c passage) model() (impl.Memory, []int64, int64) {
	if !c.isForm() {
		return impl.Memory{}, nil, impl.ErrForm
	}
	f := &fuseModel{canonOf(c.A, c.From), canonOf(c.B, c.To), c.Handles}
	var flat []int64
	code := faultOf(func() { flat = f.all(c.Types, c.Flat) })
	if code != impl.OK {
		return impl.Memory{}, nil, code
	}
	return f.b.memory(), flat, impl.OK
}

// slowly lifts the parameters, replaces their handles, and lowers them, with the functions of chapters 4 and 13.
func (c passage) slowly() (impl.Memory, []int64, int64) {
	vs, code := impl.LiftParams(c.A, c.From, c.Types, c.Flat)
	if code != impl.OK {
		return impl.Memory{}, nil, code
	}
	rest := c.Handles
	for i, v := range vs {
		many := len(impl.HandlesIn(v, c.Types[i]))
		if many > len(rest) {
			return impl.Memory{}, nil, impl.ErrRange
		}
		vs[i], code = impl.WithHandles(v, c.Types[i], rest[:many])
		if code != impl.OK {
			return impl.Memory{}, nil, code
		}
		rest = rest[many:]
	}
	if len(rest) > 0 {
		return impl.Memory{}, nil, impl.ErrRange
	}
	return impl.LowerParams(c.B, c.To, c.Types, vs)
}

// handlesModel says what PlanHandles returns for valid types, encodings and memories.
func (c passage) handlesModel() ([]impl.Handle, int64) {
	vs, code := liftModel(c.A, c.From, c.Types, c.Flat, 8)
	if code != impl.OK {
		return nil, code
	}
	var list []impl.Handle
	for i := range vs {
		more, _ := handlesOf(&vs[i], c.Types[i])
		list = append(list, more...)
	}
	return list, impl.OK
}

func (c passage) text() string {
	text := ""
	for _, u := range c.Types {
		text += printed(u) + " "
	}
	return text + shown(c.From, c.To, c.Flat, c.Handles, c.B.Free)
}

// plan compiles the plan of a passage.
func (c passage) plan(t *testing.T) impl.Plan {
	t.Helper()
	p, code := impl.Fuse(c.Types, c.From, c.To)
	if code != impl.OK {
		t.Fatalf("Fuse of %s fails with %d", c.text(), code)
	}
	return p
}

// checkPassage compares RunPlan and PlanHandles with the model and with lifting and lowering, and returns the code of RunPlan.
func checkPassage(t *testing.T, c passage) int64 {
	t.Helper()
	p, what := c.plan(t), c.text()
	w, flat, code := impl.RunPlan(p, c.A, c.Flat, c.B, c.Handles)
	want, wantFlat, wantCode := c.model()
	is(t, "RunPlan of "+what, all(code, alike(flat, wantFlat), alike(w, want)), wantCode, true, true)
	slow, slowFlat, slowCode := c.slowly()
	is(t, "RunPlan of "+what+" beside lifting and lowering", all(code == impl.OK, alike(flat, slowFlat), alike(w, slow)), slowCode == impl.OK, true, true)
	if code == impl.OK {
		checkLowered(t, "RunPlan of "+what, c.B, w)
	}
	list, listCode := impl.PlanHandles(p, c.A, c.Flat)
	wantList, wantListCode := c.handlesModel()
	is(t, "PlanHandles of "+what, all(listCode, alike(list, wantList)), wantListCode, true)
	return code
}

// checkPairs checks a passage for all pairs of encodings.
func checkPairs(t *testing.T, c passage) {
	t.Helper()
	for _, c.From = range encodings {
		for _, c.To = range encodings {
			checkPassage(t, c)
		}
	}
}

// valuesOf reads the values of types, which are separated by semicolons.
func valuesOf(t *testing.T, list string, us []impl.Type) []impl.Value {
	t.Helper()
	var vs []impl.Value
	for i, u := range us {
		v, code := impl.ReadValue(strings.Split(list, "; ")[i], u)
		if code != impl.OK {
			t.Fatalf("ReadValue of %s as %s fails with %d", list, printed(u), code)
		}
		vs = append(vs, v)
	}
	return vs
}

// passageOf is the passage of values, which are separated by semicolons, from a memory with some bytes in use to a new one.
func passageOf(t *testing.T, kinds, values string, from, to int64, handles string) passage {
	t.Helper()
	us := typedList(t, kinds)
	a, flat, code := impl.LowerParams(filled(400, 11, 20, 33, 360), from, us, valuesOf(t, values, us))
	if code != impl.OK {
		t.Fatalf("LowerParams of %s fails with %d", values, code)
	}
	return passage{us, from, to, a, flat, fresh(t, 200), numbersOf(handles)}
}

func TestP16Constants(t *testing.T) {
	is(t, "the kinds of moves", all(int64(impl.MvCopy), int64(impl.MvSmall), int64(impl.MvWide), int64(impl.MvText), int64(impl.MvList), int64(impl.MvCases), int64(impl.MvHandle)), 1, 2, 3, 4, 5, 6, 7)
}

// movesTable has lists of types with their memory moves and their flat moves.
var movesTable = []struct{ types, memory, flat string }{
	{"", "", ""}, {"unit", "", ""}, {"unit unit", "", ""}, {"bool", "small@0+1:bool", "small@0:bool"}, {"char", "small@0+4:char", "small@0:char"},
	{"u8", "copy@0+1", "small@0:u8"}, {"s8", "copy@0+1", "small@0:s8"}, {"u16", "copy@0+2", "small@0:u16"}, {"s16", "copy@0+2", "small@0:s16"}, {"u32", "copy@0+4", "small@0:u32"}, {"s32", "copy@0+4", "small@0:s32"}, {"s64", "copy@0+8", "wide@0"},
	{"text", "text@0", "text@0"}, {"stream<u8>", "small@0+4:stream", "small@0:stream"}, {"stream<unit>", "small@0+4:stream", "small@0:stream"}, {"future<text>", "small@0+4:future", "small@0:future"}, {"stream<own<r>>", "small@0+4:stream", "small@0:stream"},
	{"own<r>", "handle@0:own=r", "handle@0:own=r"}, {"borrow<file>", "handle@0:borrow=file", "handle@0:borrow=file"},
	{"enum{a}", "small@0+1:enum*1", "small@0:enum*1"}, {"enum{a,b,c}", "small@0+1:enum*3", "small@0:enum*3"}, {"enum{" + sixteen + "}", "small@0+1:enum*16", "small@0:enum*16"}, {"flags{a}", "small@0+1:flags*1", "small@0:flags*1"}, {"flags{a,b,c,d,e,f,g,h}", "small@0+1:flags*8", "small@0:flags*8"}, {"flags{a,b,c,d,e,f,g,h,i}", "small@0+2:flags*9", "small@0:flags*9"}, {"flags{" + sixteen + "}", "small@0+2:flags*16", "small@0:flags*16"},
	// Lists: the moves of an element are memory moves in either case.
	{"list<u8>", "list@0+1/1[copy@0+1]", "list@0+1/1[copy@0+1]"}, {"list<s64>", "list@0+8/8[copy@0+8]", "list@0+8/8[copy@0+8]"}, {"list<bool>", "list@0+1/1[small@0+1:bool]", "list@0+1/1[small@0+1:bool]"}, {"list<text>", "list@0+8/4[text@0]", "list@0+8/4[text@0]"}, {"list<own<r>>", "list@0+4/4[handle@0:own=r]", "list@0+4/4[handle@0:own=r]"}, {"list<enum{a,b}>", "list@0+1/1[small@0+1:enum*2]", "list@0+1/1[small@0+1:enum*2]"}, {"list<list<u16>>", "list@0+8/4[list@0+2/2[copy@0+2]]", "list@0+8/4[list@0+2/2[copy@0+2]]"},
	{"list<tuple<u8,option<u16>>>", "list@0+6/2[copy@0+1 cases@2*2[|copy@4+2]]", "list@0+6/2[copy@0+1 cases@2*2[|copy@4+2]]"}, {"list<option<s64>>", "list@0+16/8[cases@0*2[|copy@8+8]]", "list@0+16/8[cases@0*2[|copy@8+8]]"}, {"u8 list<s8>", "copy@0+1 list@4+1/1[copy@0+1]", "small@0:u8 list@1+1/1[copy@0+1]"},
	// Cases: the offsets are those from the start of the whole tuple.
	{"option<u8>", "cases@0*2[|copy@1+1]", "cases@0*2[|small@1:u8]"}, {"option<s64>", "cases@0*2[|copy@8+8]", "cases@0*2[|wide@1]"}, {"option<text>", "cases@0*2[|text@4]", "cases@0*2[|text@1]"}, {"option<own<r>>", "cases@0*2[|handle@4:own=r]", "cases@0*2[|handle@1:own=r]"}, {"result<unit,unit>", "cases@0*2[|]", "cases@0*2[|]"}, {"result<u8,s64>", "cases@0*2[copy@8+1|copy@8+8]", "cases@0*2[small@1:u8|wide@1]"}, {"result<unit,char>", "cases@0*2[|small@4+4:char]", "cases@0*2[|small@1:char]"}, {"variant{a}", "cases@0*1[]", "cases@0*1[]"}, {"variant{a:s64,b:text,c}", "cases@0*3[copy@8+8|text@8|]", "cases@0*3[wide@1|text@1|]"}, {"variant{" + sixteen + "}", "cases@0*16[" + strings.Repeat("|", 15) + "]", "cases@0*16[" + strings.Repeat("|", 15) + "]"},
	{"u32 option<option<u16>>", "copy@0+4 cases@4*2[|cases@6*2[|copy@8+2]]", "small@0:u32 cases@1*2[|cases@2*2[|small@3:u16]]"}, {"bool variant{a:list<u8>,b:own<r>}", "small@0+1:bool cases@4*2[list@8+1/1[copy@0+1]|handle@8:own=r]", "small@0:bool cases@1*2[list@2+1/1[copy@0+1]|handle@2:own=r]"}, {"option<list<option<u8>>>", "cases@0*2[|list@4+2/1[cases@0*2[|copy@1+1]]]", "cases@0*2[|list@1+2/1[cases@0*2[|copy@1+1]]]"}, {"option<tuple<text,list<u8>>>", "cases@0*2[|text@4 list@12+1/1[copy@0+1]]", "cases@0*2[|text@1 list@3+1/1[copy@0+1]]"},
	{"text u8 list<u8> s64 option<text> bool", "text@0 copy@8+1 list@12+1/1[copy@0+1] copy@24+8 cases@32*2[|text@36] small@44+1:bool", "text@0 small@2:u8 list@3+1/1[copy@0+1] wide@5 cases@6*2[|text@7] small@9:bool"}, {"tuple<text,variant{a:tuple<s64,s64>,b}> u8", "text@0 cases@8*2[copy@16+16|] copy@32+1", "text@0 cases@2*2[wide@3 wide@4|] small@5:u8"},
	// Copies that are merged, and copies that are not.
	{"u8 u8", "copy@0+2", "small@0:u8 small@1:u8"}, {"u8 s8 u16 s16 s16 s64", "copy@0+16", "small@0:u8 small@1:s8 small@2:u16 small@3:s16 small@4:s16 wide@5"}, {"u8 u16", "copy@0+1 copy@2+2", "small@0:u8 small@1:u16"}, {"u16 u8 u8 u32", "copy@0+8", "small@0:u16 small@1:u8 small@2:u8 small@3:u32"}, {"u8 unit u8", "copy@0+2", "small@0:u8 small@1:u8"}, {"s64 s64 u32 u8", "copy@0+21", "wide@0 wide@1 small@2:u32 small@3:u8"}, {"s64 s64", "copy@0+16", "wide@0 wide@1"},
	{"u8 bool u8", "copy@0+1 small@1+1:bool copy@2+1", "small@0:u8 small@1:bool small@2:u8"}, {"u8 option<u8> u8", "copy@0+1 cases@1*2[|copy@2+1] copy@3+1", "small@0:u8 cases@1*2[|small@2:u8] small@3:u8"}, {"u32 own<r> u32", "copy@0+4 handle@4:own=r copy@8+4", "small@0:u32 handle@1:own=r small@2:u32"}, {"bool bool", "small@0+1:bool small@1+1:bool", "small@0:bool small@1:bool"}, {"own<r> borrow<r>", "handle@0:own=r handle@4:borrow=r", "handle@0:own=r handle@1:borrow=r"},
	{"tuple<u8,u8> u8", "copy@0+3", "small@0:u8 small@1:u8 small@2:u8"}, {"u8 tuple<u8,u8>", "copy@0+3", "small@0:u8 small@1:u8 small@2:u8"}, {"tuple<u8,u16> u8", "copy@0+1 copy@2+3", "small@0:u8 small@1:u16 small@2:u8"}, {"record{a:u8,b:tuple<u8,u16>}", "copy@0+1 copy@2+1 copy@4+2", "small@0:u8 small@1:u8 small@2:u16"}, {"tuple<u32,u8> u8", "copy@0+5 copy@8+1", "small@0:u32 small@1:u8 small@2:u8"}, {"tuple<u16,tuple<u8,tuple<u8>>> tuple<u32>", "copy@0+8", "small@0:u16 small@1:u8 small@2:u8 small@3:u32"},
	{"list<tuple<u8,u8,u16>>", "list@0+4/2[copy@0+4]", "list@0+4/2[copy@0+4]"}, {"list<tuple<u8,u16>>", "list@0+4/2[copy@0+1 copy@2+2]", "list@0+4/2[copy@0+1 copy@2+2]"}, {"list<record{a:s64,b:tuple<u8,s8>,c:bool,d:u8}>", "list@0+16/8[copy@0+10 small@10+1:bool copy@11+1]", "list@0+16/8[copy@0+10 small@10+1:bool copy@11+1]"}, {"list<u8> list<u8>", "list@0+1/1[copy@0+1] list@8+1/1[copy@0+1]", "list@0+1/1[copy@0+1] list@2+1/1[copy@0+1]"},
	{"variant{a:tuple<u8,u8>,b:tuple<u8,u16>}", "cases@0*2[copy@2+2|copy@2+1 copy@4+2]", "cases@0*2[small@1:u8 small@2:u8|small@1:u8 small@2:u16]"}, {"option<tuple<u16,u16,u8,tuple<u8>>>", "cases@0*2[|copy@2+6]", "cases@0*2[|small@1:u16 small@2:u16 small@3:u8 small@4:u8]"}, {"list<result<tuple<u8,u8>,tuple<u8,u32,u32>>>", "list@0+16/4[cases@0*2[copy@4+2|copy@4+1 copy@8+8]]", "list@0+16/4[cases@0*2[copy@4+2|copy@4+1 copy@8+8]]"}, {"result<list<tuple<u16,u16>>,u8>", "cases@0*2[list@4+4/2[copy@0+4]|copy@4+1]", "cases@0*2[list@1+4/2[copy@0+4]|small@1:u8]"},
	// Handles.
	{"record{a:u8,b:u8,c:u32,d:own<r>} text", "copy@0+2 copy@4+4 handle@8:own=r text@12", "small@0:u8 small@1:u8 small@2:u32 handle@3:own=r text@4"}, {"list<variant{a:own<r>,b:list<borrow<s>>,c}>", "list@0+12/4[cases@0*3[handle@4:own=r|list@4+4/4[handle@0:borrow=s]|]]", "list@0+12/4[cases@0*3[handle@4:own=r|list@4+4/4[handle@0:borrow=s]|]]"}, {"variant{a:list<result<own<r>,own<s>>>,b:borrow<t>}", "cases@0*2[list@4+8/4[cases@0*2[handle@4:own=r|handle@4:own=s]]|handle@4:borrow=t]", "cases@0*2[list@1+8/4[cases@0*2[handle@4:own=r|handle@4:own=s]]|handle@1:borrow=t]"},
	// Very many flat values.
	{"tuple<text,text,text,text> tuple<text,u8> s64", "text@0 text@8 text@16 text@24 text@32 copy@40+1 copy@48+8", "text@0 text@2 text@4 text@6 text@8 small@10:u8 wide@11"},
}

// checkMoves compares MovesOf, FlatMovesOf, Fuse and PlanOk with the model for valid types.
func checkMoves(t *testing.T, us []impl.Type) {
	t.Helper()
	memory, flat := mergedModel(movesModelOfAll(us, 0, false)), movesModelOfAll(us, 0, true)
	what := shown(us)
	is(t, "MovesOf "+what, all(movesText(impl.MovesOf(us)), alike(impl.MovesOf(us), memory)), movesText(memory), true)
	is(t, "FlatMovesOf "+what, all(movesText(impl.FlatMovesOf(us)), alike(impl.FlatMovesOf(us), flat)), movesText(flat), true)
	for _, from := range encodings {
		for _, to := range encodings {
			want := impl.Plan{Types: us, From: from, To: to, Flat: flat}
			if len(flatModelOfAll(us)) > 8 {
				want.Flat, want.Mem = nil, memory
			}
			p, code := impl.Fuse(us, from, to)
			is(t, "Fuse of "+what, all(code, alike(p, want), impl.PlanOk(p), impl.PlanOk(want), impl.SamePlan(p, want), impl.SamePlan(want, p)), impl.OK, true, true, true, true, true)
		}
	}
}

func TestP16MovesTable(t *testing.T) {
	for _, c := range movesTable {
		us := typedList(t, c.types)
		is(t, c.types, all(movesText(impl.MovesOf(us)), movesText(impl.FlatMovesOf(us))), c.memory, c.flat)
		checkMoves(t, us)
	}
}

// checkRuns checks that copies are maximal runs: that no copy starts where the one before it ends.
func checkRuns(t *testing.T, moves []impl.Move) {
	t.Helper()
	for i, m := range moves {
		if i > 0 && m.Kind == impl.MvCopy && moves[i-1].Kind == impl.MvCopy && m.At <= moves[i-1].At+moves[i-1].Size {
			t.Errorf("%s: not merged", movesText(moves))
		}
		for _, kid := range m.Kids {
			checkRuns(t, kid)
		}
	}
}

// TestP16MovesModel has types and lists of types that are made up.
func TestP16MovesModel(t *testing.T) {
	t.Parallel()
	r := rand.New(rand.NewSource(141))
	list := canonTypes(t, 142, 1500)
	for _, u := range list {
		checkMoves(t, []impl.Type{u})
		checkMoves(t, []impl.Type{{Kind: impl.TyU8}, u, {Kind: impl.TyU8}, {Kind: impl.TyU16}})
		checkRuns(t, impl.MovesOf([]impl.Type{u}))
	}
	spilled := 0
	for range 1500 {
		var us []impl.Type
		for range r.Intn(impl.MaxParams + 1) {
			us = append(us, list[r.Intn(len(list))])
		}
		checkMoves(t, us)
		checkRuns(t, impl.MovesOf(us))
		if impl.IsSpilled(us) {
			spilled++
		}
	}
	is(t, "enough", all(spilled > 150, spilled < 1300), true, true)
	// Integers only: every byte that belongs to one is copied once.
	integers := strings.Fields("u8 s8 u16 s16 u32 s32 s64")
	for range 1500 {
		var us []impl.Type
		want := int64(0)
		for range r.Intn(impl.MaxParams + 1) {
			u := typed(t, integers[r.Intn(7)])
			want += extentModel(u).size
			us = append(us, u)
		}
		is(t, shown(us), all(impl.CopiedBytes(impl.MovesOf(us)), impl.CopiedBytes(impl.FlatMovesOf(us))), want, 0)
		checkMoves(t, us)
	}
}

// checkNoMoves checks that types, of which one is invalid or which are too many, have no moves and no plan.
func checkNoMoves(t *testing.T, what string, us []impl.Type) {
	t.Helper()
	is(t, what, all(len(impl.MovesOf(us)) == 0, len(impl.FlatMovesOf(us)) == 0), true, true)
	for _, from := range []int64{1, 2, 3, 0, 4} {
		p, code := impl.Fuse(us, from, impl.EnUtf16)
		is(t, what, all(code, alike(p, impl.Plan{})), impl.ErrForm, true)
		checkNoPlan(t, what, impl.Plan{Types: us, From: from, To: impl.EnUtf16})
	}
}

// checkNoPlan checks that an invalid plan is not executed.
func checkNoPlan(t *testing.T, what string, p impl.Plan) {
	t.Helper()
	is(t, what, all(impl.PlanOk(p)), false)
	m := blank(64, 8, 56)
	for _, flat := range [][]int64{nil, {0}, {0, 0}, make([]int64, 8), {-1}} {
		w, passed, code := impl.RunPlan(p, m, flat, m, nil)
		list, listCode := impl.PlanHandles(p, m, flat)
		is(t, what, all(code, alike(w, impl.Memory{}), len(passed) == 0, listCode, len(list) == 0), impl.ErrForm, true, true, impl.ErrForm, true)
	}
}

func TestP16Types(t *testing.T) {
	u8, unit := impl.Type{Kind: impl.TyU8}, impl.Type{Kind: impl.TyUnit}
	wide := typed(t, "tuple<tuple<s64,u8,s64,u8,s64,u8>,tuple<s64,u8,s64,u8,s64,u8>,tuple<s64,u8,s64,u8,s64,u8>,s64,u8>")
	for _, u := range []impl.Type{u8, unit, wide, typed(t, "text"), typed(t, "list<option<own<r>>>")} {
		full := slices.Repeat([]impl.Type{u}, impl.MaxParams)
		checkMoves(t, full)
		checkMoves(t, full[1:])
		checkNoMoves(t, "one type more", append(full, u))
		checkNoMoves(t, "one unit more", append(full, unit))
		checkNoMoves(t, "as many types as a layout may have", slices.Repeat([]impl.Type{u}, impl.MaxParts))
		checkNoMoves(t, "very many types", slices.Repeat([]impl.Type{u}, 100000))
		for i := range full {
			list := slices.Clone(full)
			list[i] = impl.Type{Kind: impl.TyList}
			checkNoMoves(t, "one invalid type", list)
			checkNoMoves(t, "one invalid type of a short list", list[:i+1])
		}
	}
	within, beyond := limitTypes()
	for _, u := range within {
		checkMoves(t, []impl.Type{u})
		checkMoves(t, []impl.Type{u8, u, u8})
	}
	for _, u := range slices.Concat(beyond, []impl.Type{{}, {Kind: 24}, {Kind: -1}, {Kind: math.MaxInt64}, {Kind: math.MinInt64}, {Kind: 1<<32 + impl.TyU8}, {Kind: impl.TyU8, Name: "a"}, {Kind: impl.TyTuple}, {Kind: impl.TyOption, Kids: []impl.Type{unit}}, {Kind: impl.TyStream, Kids: []impl.Type{{Kind: impl.TyBorrow, Name: "r"}}}}) {
		checkNoMoves(t, shown(u), []impl.Type{u})
		checkNoMoves(t, shown(u), []impl.Type{u8, u})
	}
	for i, u := range deepTypes() {
		checkNoMoves(t, "deep type "+strconv.Itoa(i), []impl.Type{u})
		checkNoMoves(t, "deep type "+strconv.Itoa(i), []impl.Type{u8, {Kind: impl.TyOption, Kids: []impl.Type{u}}})
	}
	for _, enc := range noEncodings() {
		for _, us := range [][]impl.Type{nil, {u8}, {wide}} {
			p, code := impl.Fuse(us, enc, impl.EnUtf8)
			q, otherCode := impl.Fuse(us, impl.EnUtf8, enc)
			is(t, "encoding "+strconv.FormatInt(enc, 10), all(code, otherCode, alike(p, impl.Plan{}), alike(q, impl.Plan{})), impl.ErrForm, impl.ErrForm, true, true)
			checkNoPlan(t, "from encoding "+strconv.FormatInt(enc, 10), impl.Plan{Types: us, From: enc, To: impl.EnUtf8, Flat: impl.FlatMovesOf(us)})
			checkNoPlan(t, "to encoding "+strconv.FormatInt(enc, 10), impl.Plan{Types: us, From: impl.EnUtf8, To: enc, Flat: impl.FlatMovesOf(us)})
		}
	}
	checkNoPlan(t, "the zero Plan", impl.Plan{})
}

// planChanges change one thing each in a plan that has a list of moves of a list of moves, in Flat or in Mem.
func planChanges() []func(p *impl.Plan) {
	var list []func(p *impl.Plan)
	for _, change := range []func(m *impl.Move){
		func(m *impl.Move) { m.Kind++ }, func(m *impl.Move) { m.Kind = 0 }, func(m *impl.Move) { m.Kind = -1 }, func(m *impl.Move) { m.Kind = 8 }, func(m *impl.Move) { m.Kind += 1 << 32 }, func(m *impl.Move) { m.Kind = math.MaxInt64 },
		func(m *impl.Move) { m.At++ }, func(m *impl.Move) { m.At-- }, func(m *impl.Move) { m.At += 1 << 32 }, func(m *impl.Move) { m.At = math.MinInt64 }, func(m *impl.Move) { m.Size++ }, func(m *impl.Move) { m.Size = -1 }, func(m *impl.Move) { m.Size += 1 << 32 }, func(m *impl.Move) { m.Size = math.MaxInt64 },
		func(m *impl.Move) { m.Align++ }, func(m *impl.Move) { m.Align += 1 << 32 }, func(m *impl.Move) { m.Align = -1 }, func(m *impl.Move) { m.Type++ }, func(m *impl.Move) { m.Type += 1 << 32 }, func(m *impl.Move) { m.Most++ }, func(m *impl.Move) { m.Most = -1 }, func(m *impl.Move) { m.Most += 1 << 32 }, func(m *impl.Move) { m.Most = math.MaxInt64 },
		func(m *impl.Move) { m.Name += "a" }, func(m *impl.Move) { m.Kids = append(m.Kids, nil) }, func(m *impl.Move) { m.Kids = append(m.Kids, []impl.Move{{}}) },
	} {
		list = append(list,
			func(p *impl.Plan) { change(usedMove(p, 0)) }, func(p *impl.Plan) { change(usedMove(p, 3)) }, func(p *impl.Plan) { change(usedMove(p, -1)) },
			func(p *impl.Plan) { change(&usedMove(p, -1).Kids[0][0]) }, func(p *impl.Plan) { change(&usedMove(p, -1).Kids[0][1]) }, func(p *impl.Plan) { change(&usedMove(p, -1).Kids[0][1].Kids[1][0]) },
		)
	}
	return append(list,
		func(p *impl.Plan) { p.From = 0 }, func(p *impl.Plan) { p.To = 4 }, func(p *impl.Plan) { p.From += 1 << 32 }, func(p *impl.Plan) { p.To = -1 },
		func(p *impl.Plan) { p.Flat = append(p.Flat, impl.Move{}) }, func(p *impl.Plan) { p.Mem = append(p.Mem, impl.Move{}) }, func(p *impl.Plan) { p.Flat, p.Mem = p.Mem, p.Flat }, func(p *impl.Plan) { p.Flat, p.Mem = nil, nil }, func(p *impl.Plan) { *usedMoves(p) = (*usedMoves(p))[1:] }, func(p *impl.Plan) { *usedMoves(p) = (*usedMoves(p))[:2] },
		func(p *impl.Plan) { m := *usedMoves(p); m[0], m[3] = m[3], m[0] }, func(p *impl.Plan) { usedMove(p, -1).Kids = nil }, func(p *impl.Plan) { usedMove(p, -1).Kids[0] = nil }, func(p *impl.Plan) { k := usedMove(p, -1).Kids; k[0] = k[0][1:] }, func(p *impl.Plan) { k := usedMove(p, -1).Kids; k[0] = append(k[0], k[0][0]) },
		func(p *impl.Plan) { k := usedMove(p, -1).Kids[0][1].Kids; k[0], k[1] = k[1], k[0] }, func(p *impl.Plan) { k := usedMove(p, -1).Kids[0][1].Kids; k[0] = k[1] }, func(p *impl.Plan) { k := usedMove(p, -1).Kids[0][1].Kids; k[1] = k[0] }, func(p *impl.Plan) { m := &usedMove(p, -1).Kids[0][1]; m.Kids = m.Kids[:1] },
		func(p *impl.Plan) { p.Types = nil }, func(p *impl.Plan) { p.Types = p.Types[1:] }, func(p *impl.Plan) { p.Types = append(p.Types, impl.Type{Kind: impl.TyU8}) }, func(p *impl.Plan) { p.Types = append(p.Types, impl.Type{}) }, func(p *impl.Plan) { p.Types[0] = impl.Type{} }, func(p *impl.Plan) { p.Types[0].Kind++ }, func(p *impl.Plan) { p.Types[0].Kids[3].Name = "other" },
		func(p *impl.Plan) { p.Types[0].Kids[3].Kind = impl.TyBorrow }, func(p *impl.Plan) { p.Types[1] = p.Types[0] }, func(p *impl.Plan) { p.Types[0].Labels[0] = "A" },
	)
}

// usedMoves is the list of moves that a plan has.
func usedMoves(p *impl.Plan) *[]impl.Move {
	if len(p.Mem) > 0 {
		return &p.Mem
	}
	return &p.Flat
}

// usedMove is one of the moves of a plan; those below 0 are counted from the last one.
func usedMove(p *impl.Plan, i int) *impl.Move {
	list := *usedMoves(p)
	return &list[(i+len(list))%len(list)]
}

func TestP16PlanOk(t *testing.T) {
	for _, kinds := range []string{"record{a:bool,b:enum{x},c:bool,d:own<r>} u16 list<tuple<bool,option<u16>>>", "record{a:bool,b:enum{x},c:bool,d:own<r>} text text text list<tuple<bool,option<u16>>>"} {
		us := typedList(t, kinds)
		base, code := impl.Fuse(us, impl.EnUtf8, impl.EnUtf16)
		is(t, kinds, all(code, impl.PlanOk(base), impl.SamePlan(base, base), impl.PlanOk(roomy(base)), impl.SamePlan(base, roomy(base))), impl.OK, true, true, true, true)
		for i, do := range planChanges() {
			other := roomy(base)
			do(&other)
			what := kinds + ", change " + strconv.Itoa(i)
			is(t, what, all(impl.SamePlan(base, other), impl.SamePlan(other, base), impl.SamePlan(other, other)), false, false, true)
			checkNoPlan(t, what, other)
		}
		// What differs may still be valid: another encoding, and types with the same moves.
		for i, do := range []func(p *impl.Plan){
			func(p *impl.Plan) { p.From = impl.EnLatin }, func(p *impl.Plan) { p.To = impl.EnUtf8 }, func(p *impl.Plan) { p.Types[0].Labels[0] = "z" }, func(p *impl.Plan) { p.Types[0].Kids[1].Labels[0] = "y" }, func(p *impl.Plan) { p.Types[0] = impl.Type{Kind: impl.TyTuple, Kids: p.Types[0].Kids} },
		} {
			other := roomy(base)
			do(&other)
			is(t, kinds+", other "+strconv.Itoa(i), all(impl.SamePlan(base, other), impl.SamePlan(other, base), impl.PlanOk(other)), false, false, true)
		}
		// Lists without elements, and no lists.
		other := roomy(base)
		usedMove(&other, -1).Kids[0][1].Kids[0] = []impl.Move{}
		usedMove(&other, 0).Kids = [][]impl.Move{}
		is(t, kinds, all(impl.SamePlan(base, other), impl.SamePlan(other, base), impl.PlanOk(other)), true, true, true)
	}
	// The moves in the list that is not used.
	for _, kinds := range []string{"", "u8", "unit", "text text text text u8"} {
		p := passage{Types: typedList(t, kinds), From: 1, To: 2}.plan(t)
		for _, m := range [][]impl.Move{{{}}, {{Kind: impl.MvCopy}}, impl.MovesOf(p.Types), impl.FlatMovesOf(p.Types)} {
			for _, flat := range []bool{true, false} {
				other := p
				if flat && len(p.Flat) == 0 {
					other.Flat = m
				} else if !flat && len(p.Mem) == 0 {
					other.Mem = m
				}
				if len(m) > 0 && len(other.Flat)+len(other.Mem) > len(p.Flat)+len(p.Mem) {
					checkNoPlan(t, kinds+" and "+movesText(m), other)
				}
			}
		}
	}
	// A memory integer that is another one of the same size has the same moves.
	spilled := passage{Types: typedList(t, "text text text text u8"), From: 1, To: 2}.plan(t)
	spilled.Types[4].Kind = impl.TyS8
	is(t, "s8 for u8 in memory", all(impl.PlanOk(spilled)), true)
	spilled.Types[4].Kind = impl.TyU16
	is(t, "u16 for u8 in memory", all(impl.PlanOk(spilled)), false)
	flat := passage{Types: typedList(t, "u8"), From: 1, To: 2}.plan(t)
	flat.Types[0].Kind = impl.TyS8
	is(t, "s8 for u8, flat", all(impl.PlanOk(flat)), false)
}

// nestedMoves are lists of moves of a number of levels, the innermost of which is inner.
func nestedMoves(levels int, inner []impl.Move) []impl.Move {
	for range levels - 1 {
		inner = []impl.Move{{Kind: impl.MvCases, Kids: [][]impl.Move{inner}}}
	}
	return inner
}

func TestP16DeepPlans(t *testing.T) {
	same := func(what string, a, b []impl.Move, want bool) {
		t.Helper()
		in := func(flat, mem []impl.Move) impl.Plan { return impl.Plan{Flat: flat, Mem: mem} }
		is(t, what, all(impl.SamePlan(in(a, nil), in(b, nil)), impl.SamePlan(in(nil, b), in(nil, a)), impl.SamePlan(in(a, a), in(b, b)), impl.SamePlan(in(a, nil), in(a, b)), impl.SamePlan(in(nil, a), in(b, nil)), impl.PlanOk(in(a, b))), want, want, want, want && len(b) == 0, false, false)
	}
	one, other := []impl.Move{{Kind: impl.MvCopy, Size: 1}}, []impl.Move{{Kind: impl.MvCopy, Size: 2}}
	is(t, "plans without moves", all(impl.SamePlan(impl.Plan{}, impl.Plan{Types: []impl.Type{}, Flat: []impl.Move{}, Mem: []impl.Move{}}), impl.PlanOk(impl.Plan{})), true, false)
	for _, levels := range []int{2, 3, 50, 98, 99, 100, 101, 102, 103, 150, 10000, 300000} {
		what := strconv.Itoa(levels) + " levels"
		same(what, nestedMoves(levels, one), nestedMoves(levels, one), levels <= 100)
		same(what+", an empty list", nestedMoves(levels, nil), nestedMoves(levels, []impl.Move{}), levels <= 100)
		same(what+", another move", nestedMoves(levels, one), nestedMoves(levels, other), false)
		same(what+" and one more", nestedMoves(levels, one), nestedMoves(levels+1, one), false)
		same(what+" and none", nestedMoves(levels, one), nestedMoves(levels, nil), false)
		last := func() []impl.Move {
			return []impl.Move{one[0], {Kids: [][]impl.Move{one, nil, nestedMoves(levels-1, one)}}}
		}
		same(what+" in the last list", last(), last(), levels <= 100)
		// A move without any list has no further level.
		bare := []impl.Move{{Kind: impl.MvCases, Kids: [][]impl.Move{}}}
		same(what+", no list", nestedMoves(levels, bare), nestedMoves(levels, bare), levels <= 100)
	}
	// The same list at two levels, at the deeper of which it goes beyond the limit.
	shared := nestedMoves(99, one)
	two := []impl.Move{{Kids: [][]impl.Move{shared, {{Kids: [][]impl.Move{shared}}}}}}
	same("a list at two levels", two, two, false)
	same("the other list first", []impl.Move{{Kids: [][]impl.Move{{{Kids: [][]impl.Move{shared}}}, shared}}}, []impl.Move{{Kids: [][]impl.Move{{{Kids: [][]impl.Move{shared}}}, shared}}}, false)
	// Types that are nested too deep are different from every type.
	for _, levels := range []int{99, 100, 101} {
		p := impl.Plan{Types: []impl.Type{{}, nested(impl.TyList, levels, impl.Type{Kind: impl.TyU8})}}
		is(t, "a type of "+strconv.Itoa(levels)+" levels", all(impl.SamePlan(p, roomy(p)), impl.SamePlan(p, p)), levels <= 100, levels <= 100)
	}
}

// TestP16SharedMoves has plans whose lists share memory, so that they have very many moves, or contain themselves.
func TestP16SharedMoves(t *testing.T) {
	double := func(levels int, inner []impl.Move) []impl.Move {
		for range levels - 1 {
			inner = []impl.Move{{Kids: [][]impl.Move{inner, inner}}, {Kids: [][]impl.Move{inner}}}
		}
		return inner
	}
	one, other := []impl.Move{{Kind: impl.MvCopy, Size: 1}}, []impl.Move{{Kind: impl.MvCopy, Size: 2}}
	for _, levels := range []int{2, 30, 100, 101, 10000} {
		a, b, c := impl.Plan{Flat: double(levels, one)}, impl.Plan{Flat: double(levels, one)}, impl.Plan{Flat: double(levels, other)}
		is(t, "lists that share memory", all(impl.SamePlan(a, a), impl.SamePlan(a, b), impl.SamePlan(b, a), impl.SamePlan(a, c), impl.SamePlan(impl.Plan{Flat: a.Flat, Mem: a.Flat}, impl.Plan{Flat: b.Flat, Mem: c.Flat})), levels <= 100, levels <= 100, levels <= 100, false, false)
		checkNoPlan(t, "lists that share memory", a)
	}
	circle := []impl.Move{{Kind: impl.MvCases}, {Kind: impl.MvList}}
	circle[0].Kids, circle[1].Kids = [][]impl.Move{circle, circle}, [][]impl.Move{circle[:1]}
	p := impl.Plan{Types: typedList(t, "u8"), From: 1, To: 1, Flat: circle, Mem: circle}
	is(t, "a list that contains itself", all(impl.SamePlan(p, p), impl.SamePlan(p, impl.Plan{}), impl.SamePlan(impl.Plan{}, p)), false, false, false)
	checkNoPlan(t, "a list that contains itself", p)
	// Very many Kids, which all are the same lists.
	kids := slices.Repeat([][]impl.Move{one}, 20000)
	wide := func() impl.Plan {
		moves := slices.Repeat([]impl.Move{{Kids: kids}}, 20000)
		return impl.Plan{Mem: []impl.Move{{Kids: slices.Repeat([][]impl.Move{moves}, 20000)}}}
	}
	is(t, "many lists", all(impl.SamePlan(wide(), wide()), impl.PlanOk(wide())), true, false)
	// Lists that start at the same move and have different ends.
	row := []impl.Move{{Kind: 1}, {Kind: 1}, {Kind: 2}}
	pairs := func(lists ...[]impl.Move) impl.Plan { return impl.Plan{Flat: []impl.Move{{Kids: lists}}} }
	is(t, "starts of one array", all(impl.SamePlan(pairs(row[:1], row[:2]), pairs(row[1:2], row[1:])), impl.SamePlan(pairs(row[:2], row[:1]), pairs(row[1:], row[1:2])), impl.SamePlan(pairs(row[:1], row[:1]), pairs(row[1:2], row[1:2]))), false, false, true)
	is(t, "one list and two", all(impl.SamePlan(pairs(row[:1], row[:1]), pairs(row[1:2], row[2:])), impl.SamePlan(pairs(row[1:2], row[2:]), pairs(row[:1], row[:1])), impl.SamePlan(pairs(row[:1]), pairs(row[:1], row[:1]))), false, false, false)
	lists := [][]impl.Move{row[:1], row[:1], row[2:]}
	groups := func(a, b [][]impl.Move) impl.Plan { return impl.Plan{Flat: []impl.Move{{Kids: a}, {Kids: b}}} }
	is(t, "starts of one array of lists", all(impl.SamePlan(groups(lists[:1], lists[:2]), groups(lists[1:2], lists[1:])), impl.SamePlan(groups(lists[:1], lists[:1]), groups(lists[1:2], lists[2:])), impl.SamePlan(groups(lists[:1], lists[:1]), groups(lists[1:2], lists[1:2]))), false, false, true)
	// A valid plan stays one if its lists share memory.
	c := passageOf(t, "variant{a:list<u8>,b:list<u8>} variant{a:u8,b:u8}", "b([1, 2]); b(7)", 1, 1, "")
	p = c.plan(t)
	p.Flat[0].Kids[1] = p.Flat[0].Kids[0]
	p.Flat[1].Kids[0] = p.Flat[1].Kids[1]
	p.Types[0].Kids[1] = p.Types[0].Kids[0]
	_, flat, code := impl.RunPlan(p, c.A, c.Flat, c.B, nil)
	is(t, "a valid plan", all(impl.PlanOk(p), code, alike(flat, []int64{1, 8, 2, 1, 7})), true, impl.OK, true)
}

// TestP16Example has the examples of chapter 14.
func TestP16Example(t *testing.T) {
	us := typedList(t, "record{a:u8,b:u8,c:u32,d:own<r>} text")
	moves := impl.MovesOf(us)
	is(t, "the moves", all(alike(moves, []impl.Move{{Kind: impl.MvCopy, Size: 2}, {Kind: impl.MvCopy, At: 4, Size: 4}, {Kind: impl.MvHandle, At: 8, Type: impl.TyOwn, Name: "r"}, {Kind: impl.MvText, At: 12}}), impl.CopiedBytes(moves), alike(impl.FlatMovesOf(us)[0], impl.Move{Kind: impl.MvSmall, Type: impl.TyU8})), true, 6, true)
	p, code := impl.Fuse(us, impl.EnUtf8, impl.EnUtf16)
	is(t, "the plan", all(code, int64(len(p.Flat)), int64(len(p.Mem)), impl.PlanOk(p), impl.PlanOk(impl.Plan{})), impl.OK, 5, 0, true, false)
	a, flat, code := impl.LowerParams(fresh(t, 64), impl.EnUtf8, us, valuesOf(t, `{a: 1, b: 2, c: 3, d: own#4}; "hi"`, us))
	list, listCode := impl.PlanHandles(p, a, flat)
	is(t, "PlanHandles", all(code, listCode, alike(list, []impl.Handle{{Own: true, Resource: "r", Num: 4}})), impl.OK, impl.OK, true)
	b, got, code := impl.RunPlan(p, a, flat, fresh(t, 64), []int64{9})
	is(t, "RunPlan", all(code, alike(got, []int64{1, 2, 3, 9, 8, 2}), impl.PutHex(b.Bytes[8:12])), impl.OK, true, "68006900")
	for _, handles := range [][]int64{nil, {1, 2}} {
		b, got, code := impl.RunPlan(p, a, flat, fresh(t, 64), handles)
		is(t, "RunPlan with other handles", all(code, alike(b, impl.Memory{}), len(got) == 0), impl.ErrRange, true, true)
	}
}

// runTable has values that are transferred to a new memory of 200 bytes, with their flat values there and the bytes from
// address 8 on.
var runTable = []struct {
	kinds, values string
	from, to      int64
	handles       string
	flat, bytes   string
	was           string // the handles before: o or b, the resource and the number
}{
	{"", "", 1, 2, "", "", "", ""}, {"unit", "()", 1, 2, "", "", "", ""}, {"u8 s8 s16 s32 s64 bool", "255; -1; -2; -3; -4; true", 1, 1, "", "255 4294967295 4294967294 4294967293 -4 1", "", ""}, {"char enum{a,b} flags{a,b,c} stream<u8> future<u8>", "'a'; b; {a, c}; stream#5; future#2147483647", 3, 1, "", "97 1 5 5 2147483647", "", ""}, {"tuple<u8,u8,u8,u8,u8,u8> u8 u8", "(1, 2, 3, 4, 5, 6); 7; 8", 2, 3, "", "1 2 3 4 5 6 7 8", "", ""},
	{"text text", `"h\u{e9}"; "\u{1f600}"`, 1, 2, "", "8 2 12 2", "6800e900" + "3dd800de", ""}, {"text text", `"h\u{e9}"; ""`, 2, 1, "", "8 3 0 0", "68c3a9", ""}, {"text u8", `"h\u{e9}"; 1`, 1, 3, "", "8 2 1", "68e9", ""}, {"text u8", `"h\u{e9}"; 1`, 3, 2, "", "8 2 1", "6800e900", ""},
	{"list<u16> list<s64> list<bool>", "[1, 258]; []; [true, false]", 1, 1, "", "8 2 0 0 12 2", "01000201" + "0100", ""}, {"list<text>", `["a", "", "b\u{e9}"]`, 1, 2, "", "8 3", "2000000001000000" + "0000000000000000" + "2200000002000000" + "6100" + "6200e900", ""}, {"list<tuple<u8,option<u16>>>", "[(1, none), (2, some(3))]", 1, 1, "", "8 2", "010000000000" + "020001000300", ""}, {"list<list<u8>>", "[[1, 2], [], [3]]", 1, 3, "", "8 3", "2000000002000000" + "0000000000000000" + "2200000001000000" + "0102" + "03", ""},
	{"option<u8> option<s64> result<u8,text>", `none; some(-1); err("x")`, 1, 2, "", "0 0 1 -1 1 8 1", "7800", ""}, {"variant{a:s64,b:tuple<u8,u8>,c} u8", "b((1, 2)); 9", 1, 1, "", "1 1 2 9", "", ""}, {"option<tuple<text,text,text,u8>>", "none", 1, 2, "", "0 0 0 0 0 0 0 0", "", ""},
	// Spilled parameters.
	{"option<tuple<text,text,text,text>>", "none", 1, 2, "", "8", "", ""}, {"tuple<u8,u8,u8,u8,u8,u8> u8 u8 u8", "(1, 2, 3, 4, 5, 6); 7; 8; 9", 1, 1, "", "8", "010203040506070809", ""}, {"text text text text u8", `"a"; "b"; ""; "c"; 7`, 1, 2, "", "8", "2c000000010000002e000000010000000000000000000000" + "3000000001000000" + "07000000" + "6100" + "6200" + "6300", ""},
	{"text text text own<r> borrow<s> list<own<r>>", `"a"; ""; ""; own#1; borrow#2; [own#3, own#4]`, 1, 1, "11 12 13 14", "8", "3000000001000000" + strings.Repeat("00", 16) + "0b0000000c000000" + "3400000002000000" + "61000000" + "0d0000000e000000", "o:r:1 b:s:2 o:r:3 o:r:4"}, {"tuple<s64,s64,s64,s64> tuple<s64,s64,s64,s64> option<own<r>>", "(1, 2, 3, 4); (5, 6, 7, -8); some(own#0)", 1, 1, "2147483647", "8", "0100000000000000020000000000000003000000000000000400000000000000050000000000000006000000000000000700000000000000f8ffffffffffffff" + "01000000ffffff7f", "o:r:0"},
	// Handles, wherever they are.
	{"own<r>", "own#1", 1, 1, "7", "7", "", "o:r:1"}, {"borrow<r>", "borrow#2147483647", 1, 1, "0", "0", "", "b:r:2147483647"}, {"own<r> borrow<s> own<t>", "own#3; borrow#2; own#1", 1, 1, "4 5 6", "4 5 6", "", "o:r:3 b:s:2 o:t:1"}, {"u8 own<r> text borrow<r> s64", `1; own#2; "x"; borrow#3; -1`, 1, 1, "8 9", "1 8 8 1 9 -1", "78", "o:r:2 b:r:3"},
	{"list<own<r>>", "[own#1, own#2, own#3]", 1, 1, "7 8 9", "8 3", "070000000800000009000000", "o:r:1 o:r:2 o:r:3"}, {"list<own<r>>", "[]", 1, 1, "", "0 0", "", ""}, {"own<r> list<borrow<s>> own<r>", "own#1; [borrow#2, borrow#3]; own#4", 1, 1, "10 11 12 13", "10 8 2 13", "0b0000000c000000", "o:r:1 b:s:2 b:s:3 o:r:4"}, {"list<list<own<r>>>", "[[own#1], [], [own#2, own#3]]", 1, 1, "4 5 6", "8 3", "2000000001000000" + "0000000000000000" + "2400000002000000" + "04000000" + "05000000" + "06000000", "o:r:1 o:r:2 o:r:3"}, {"list<tuple<borrow<r>,u8,own<s>>>", "[(borrow#1, 9, own#2), (borrow#3, 8, own#4)]", 1, 1, "5 6 7 8", "8 2", "050000000900000006000000" + "070000000800000008000000", "b:r:1 o:s:2 b:r:3 o:s:4"},
	{"option<own<r>>", "some(own#1)", 1, 1, "5", "1 5", "", "o:r:1"}, {"option<own<r>>", "none", 1, 1, "", "0 0", "", ""}, {"result<own<r>,borrow<s>>", "ok(own#1)", 1, 1, "5", "0 5", "", "o:r:1"}, {"result<own<r>,borrow<s>>", "err(borrow#1)", 1, 1, "5", "1 5", "", "b:s:1"}, {"result<unit,own<s>>", "ok", 1, 1, "", "0 0", "", ""}, {"variant{a:own<r>,b:u8,c}", "b(3)", 1, 1, "", "1 3", "", ""}, {"variant{a:own<r>,b:s64,c}", "a(own#3)", 1, 1, "4", "0 4", "", "o:r:3"}, {"variant{a:tuple<own<r>,borrow<s>>,b:own<t>}", "a((own#1, borrow#2))", 1, 1, "3 4", "0 3 4", "", "o:r:1 b:s:2"}, {"variant{a:tuple<own<r>,borrow<s>>,b:own<t>}", "b(own#1)", 1, 1, "3", "1 3 0", "", "o:t:1"},
	{"list<option<own<r>>>", "[some(own#1), none, some(own#2)]", 1, 1, "5 6", "8 3", "0100000005000000" + "0000000000000000" + "0100000006000000", "o:r:1 o:r:2"}, {"list<result<own<r>,borrow<s>>>", "[err(borrow#1), ok(own#2)]", 1, 1, "5 6", "8 2", "0100000005000000" + "0000000006000000", "b:s:1 o:r:2"}, {"list<variant{a:own<r>,b:list<borrow<s>>,c}>", "[a(own#1), b([borrow#2, borrow#3]), c, b([]), a(own#4)]", 1, 1, "11 12 13 14", "8 5", "000000000b00000000000000" + "010000004400000002000000" + "020000000000000000000000" + "010000000000000000000000" + "000000000e00000000000000" + "0c0000000d000000", "o:r:1 b:s:2 b:s:3 o:r:4"},
	{"variant{a:list<own<r>>,b:own<r>}", "a([own#1, own#2])", 1, 1, "5 6", "0 8 2", "0500000006000000", "o:r:1 o:r:2"}, {"variant{a:list<own<r>>,b:own<r>}", "b(own#3)", 1, 1, "6", "1 6 0", "", "o:r:3"}, {"variant{a:list<result<own<r>,text>>,b:s64}", `a([ok(own#1), err("x"), ok(own#2)])`, 1, 2, "5 6", "0 8 3", "000000000500000000000000" + "010000002c00000001000000" + "000000000600000000000000" + "7800", "o:r:1 o:r:2"}, {"record{a:own<r>,b:list<option<own<s>>>,c:own<t>}", "{a: own#1, b: [none, some(own#2)], c: own#3}", 1, 1, "4 5 6", "4 8 2 6", "0000000000000000" + "0100000005000000", "o:r:1 o:s:2 o:t:3"}, {"own<r> option<list<option<own<s>>>> own<t>", "own#1; none; own#3", 1, 1, "4 6", "4 0 0 0 6", "", "o:r:1 o:t:3"}, {"own<r> option<list<option<own<s>>>> own<t>", "own#1; some([some(own#2)]); own#3", 1, 1, "4 5 6", "4 1 8 1 6", "0100000005000000", "o:r:1 o:s:2 o:t:3"}, {"option<option<own<r>>> own<r>", "some(none); own#1", 1, 1, "9", "1 0 0 9", "", "o:r:1"},
}

func TestP16RunTable(t *testing.T) {
	for _, row := range runTable {
		c := passageOf(t, row.kinds, row.values, row.from, row.to, row.handles)
		p, bytes := c.plan(t), unhex(t, row.bytes)
		what := row.values + " as " + row.kinds
		w, flat, code := impl.RunPlan(p, c.A, c.Flat, c.B, c.Handles)
		is(t, what, all(code), impl.OK)
		if code != impl.OK {
			continue
		}
		is(t, what, all(alike(flat, numbersOf(row.flat)), impl.PutHex(w.Bytes)), true, impl.PutHex(c.B.Bytes[:8]+bytes+c.B.Bytes[8+len(bytes):]))
		list, code := impl.PlanHandles(p, c.A, c.Flat)
		var was []string
		for _, h := range list {
			was = append(was, map[bool]string{true: "o", false: "b"}[h.Own]+":"+h.Resource+":"+strconv.FormatInt(h.Num, 10))
		}
		is(t, what, all(code, strings.Join(was, " ")), impl.OK, row.was)
		checkPassage(t, c)
		checkHandleNumbers(t, c)
		// The bytes that were there before are kept in padding and in other cases.
		c.B = filled(200, 9, 3, 17, 4, 40, 160)
		checkPassage(t, c)
	}
}

// checkHandleNumbers changes the handles of a passage that succeeds.
func checkHandleNumbers(t *testing.T, c passage) {
	t.Helper()
	good := c.Handles
	bad := func(handles []int64, want int64) {
		t.Helper()
		c.Handles = handles
		is(t, c.text(), all(checkPassage(t, c)), want)
	}
	for many := range len(good) {
		bad(good[:many], impl.ErrRange)
	}
	bad(append(slices.Clone(good), 0), impl.ErrRange)
	bad(append(slices.Clone(good), 1, 2, 3), impl.ErrRange)
	bad(slices.Repeat([]int64{5}, 1000+len(good)), impl.ErrRange)
	for _, n := range []int64{-1, 2147483648, 4294967295, 4294967296, math.MaxInt64, math.MinInt64} {
		bad(append(slices.Clone(good), n), impl.ErrForm)
		bad([]int64{n}, impl.ErrForm)
		for i := range good {
			other := slices.Clone(good)
			other[i] = n
			bad(other, impl.ErrForm)
		}
	}
	for i := range good {
		for _, n := range []int64{0, 2147483647} {
			other := slices.Clone(good)
			other[i] = n
			bad(other, impl.OK)
		}
	}
}

// TestP16SourceHandles has numbers in the source that are no handle numbers.
func TestP16SourceHandles(t *testing.T) {
	for _, c := range []struct {
		kinds, flat, bytes string // the bytes at 0
		handles, word      string
	}{
		{"own<r>", "2147483647", "", "1", "ok"}, {"own<r>", "2147483648", "", "1", "type"}, {"own<r>", "2147483648", "", "", "type"}, {"borrow<r>", "4294967295", "", "1", "type"}, {"own<r>", "4294967296", "", "1", "form"}, {"own<r>", "-1", "", "1", "form"}, {"own<r> own<r>", "1 2147483648", "", "1 2", "type"}, {"own<r> own<r>", "1 2147483648", "", "1", "type"}, {"own<r> own<r>", "1 2147483648", "", "", "range"}, {"own<r> own<r>", "2147483648 1", "", "", "type"},
		{"option<own<r>>", "0 2147483648", "", "", "ok"}, {"option<own<r>>", "1 2147483648", "", "1", "type"}, {"variant{a:own<r>,b:s64}", "0 -1", "", "1", "type"}, {"variant{a:own<r>,b:s64}", "0 4294967296", "", "1", "type"}, {"variant{a:own<r>,b:s64}", "0 4294967301", "", "1", "type"}, {"variant{a:own<r>,b:s64}", "1 -1", "", "", "ok"}, {"variant{a:own<r>,b:s64}", "0 2147483647", "", "1", "ok"}, {"result<own<r>,tuple<u8,s64>>", "0 5 -1", "", "1", "ok"},
		{"list<own<r>>", "0 1", "ffffff7f", "1", "ok"}, {"list<own<r>>", "0 1", "00000080", "1", "type"}, {"list<own<r>>", "0 2", "0500000000000080", "1 2", "type"}, {"list<own<r>>", "0 2", "0500000000000080", "1", "type"}, {"list<own<r>>", "0 2", "0500000000000080", "", "range"}, {"list<option<borrow<r>>>", "0 2", "00000000ffffffff0100000005000000", "1", "ok"}, {"list<option<borrow<r>>>", "0 2", "00000000ffffffff01000000ffffffff", "1", "type"}, {"option<list<own<r>>>", "1 0 1", "000000ff", "1", "type"}, {"option<list<own<r>>>", "0 0 1", "000000ff", "", "ok"}, {"variant{a:list<own<r>>,b:tuple<s64,s64>}", "0 0 1", "000000ff", "1", "type"}, {"variant{a:list<own<r>>,b:tuple<s64,s64>}", "0 0 1", "05000000", "1", "ok"},
	} {
		p := passage{Types: typedList(t, c.kinds), From: 1, To: 1, A: blank(40), Flat: numbersOf(c.flat), B: fresh(t, 64), Handles: numbersOf(c.handles)}
		p.A, _ = impl.WriteMem(p.A, 0, unhex(t, c.bytes))
		is(t, c.kinds+" from "+c.flat, all(impl.CodeWord(checkPassage(t, p))), c.word)
		checkPairs(t, p)
	}
}

// TestP16Numbers has every kind of number, valid or not, flat, in a wide value, and in memory.
func TestP16Numbers(t *testing.T) {
	many := map[int64]int{}
	for _, c := range numberTable {
		_, u := valued(t, texts{c.value, c.kind})
		handles := slices.Repeat([]int64{77}, len(impl.HandlesIn(valuesOf(t, c.value, []impl.Type{u})[0], u)))
		p := passage{Types: []impl.Type{u}, From: 1, To: 2, A: blank(64), Flat: numbersOf(c.flat), B: filled(64), Handles: handles}
		many[checkPassage(t, p)]++
		// In memory, behind so many flat values that all are spilled.
		p.Types = []impl.Type{typed(t, "tuple<s64,s64,s64,s64,s64>"), u, typed(t, "tuple<s64,s64,s64,s64>")}
		_, row := rowModel(p.Types)
		offsets, _ := rowModel(p.Types)
		p.A, _ = impl.WriteMem(filled(200), offsets[1], unhex(t, c.bytes))
		p.Flat, p.B = []int64{0}, filled(400, 16, row.size+8)
		many[checkPassage(t, p)]++
	}
	is(t, "numbers that are valid", all(many[impl.OK] == 2*len(numberTable)), true)
	for _, c := range noNumberTable {
		p := passage{Types: typedList(t, c.kind), From: 1, To: 3, A: blank(64, 8, 56), Flat: numbersOf(c.flat), B: fresh(t, 64), Handles: []int64{5}}
		is(t, c.flat+" as "+c.kind, all(checkPassage(t, p)), c.code)
	}
	list := numbers()
	for _, kind := range strings.Fields("bool u8 s8 u16 s16 u32 s32 s64 char own<r> borrow<r> stream<u8> future<u8> enum{a,b,c} flags{a,b,c} flags{a,b,c,d,e,f,g,h,i} result<unit,unit> variant{a,b}") {
		u := typed(t, kind)
		wide := impl.Type{Kind: impl.TyResult, Kids: []impl.Type{u, {Kind: impl.TyS64}}}
		p := passage{From: 1, To: 1, A: blank(16), B: blank(16)}
		if kind == "own<r>" || kind == "borrow<r>" {
			p.Handles = []int64{3}
		}
		for i, n := range list {
			if i%3 == 0 {
				p.Types, p.Flat = []impl.Type{u}, []int64{n}
				checkPassage(t, p)
				p.Types, p.Flat = []impl.Type{wide}, []int64{0, n}
				checkPassage(t, p)
			}
		}
	}
	// Every byte in memory.
	for _, kind := range strings.Fields("bool u8 s8 enum{a,b,c} flags{a,b,c} result<unit,unit> variant{a,b,c:u8} option<bool>") {
		for n := range 256 {
			a, _ := impl.WriteMem(blank(16), 4, string([]byte{byte(n), byte(n)}))
			checkPassage(t, passage{[]impl.Type{{Kind: impl.TyList, Kids: []impl.Type{typed(t, kind)}}}, 1, 1, a, []int64{4, 1}, fresh(t, 16), nil})
		}
	}
}

// TestP16Unread has flat values that belong to no part: they are ignored, and do not arrive.
func TestP16Unread(t *testing.T) {
	for _, c := range []struct{ kinds, flat, out string }{
		{"option<u8>", "0 4294967295", "0 0"}, {"option<s64>", "0 -1", "0 0"}, {"option<text>", "0 4294967295 9", "0 0 0"}, {"option<list<u8>>", "0 4294967295 9", "0 0 0"}, {"option<own<r>>", "0 4294967295", "0 0"}, {"option<bool> u8", "0 2 7", "0 0 7"}, {"result<u8,tuple<s64,s64>>", "0 5 -9223372036854775808", "0 5 0"}, {"variant{a:s64,b:tuple<u8,u8>,c}", "2 -1 4294967295", "2 0 0"}, {"variant{a:s64,b:tuple<u8,u8>,c}", "0 -1 4294967295", "0 -1 0"}, {"variant{a:tuple<s64,s64,s64>,b:option<u8>} s64", "1 0 -1 -2 -3", "1 0 0 0 -3"}, {"option<option<s64>>", "1 0 -5", "1 0 0"}, {"variant{a:s8,b:s64}", "0 4294967295", "0 4294967295"}, {"result<unit,list<own<r>>> u8", "0 1 8 9", "0 0 0 9"},
	} {
		p := passage{Types: typedList(t, c.kinds), From: 1, To: 1, A: blank(16), Flat: numbersOf(c.flat), B: blank(16)}
		_, flat, code := impl.RunPlan(p.plan(t), p.A, p.Flat, p.B, nil)
		is(t, c.kinds+" from "+c.flat, all(code, alike(flat, numbersOf(c.out))), impl.OK, true)
		checkPairs(t, p)
	}
}

// TestP16Lists has addresses and lengths of lists, flat, in wide values and in memory.
func TestP16Lists(t *testing.T) {
	bytes := "0102030405060708090a0b0c0d0e0f10"
	for _, c := range []struct {
		element  string
		at, many int64
		word     string
	}{
		{"u8", 0, 8, "ok"}, {"u8", 8, 8, "ok"}, {"u8", 0, 9, "many"}, {"u8", 99, 9, "many"}, {"u16", 1, 9, "many"}, {"u8", 0, 4294967295, "many"}, {"u8", 15, 1, "ok"}, {"u8", 16, 0, "ok"}, {"u8", 17, 0, "memory"}, {"u8", 9, 8, "memory"}, {"u8", 16, 1, "memory"}, {"u8", 4294967295, 1, "memory"}, {"u8", 4294967295, 0, "memory"},
		{"u16", 14, 1, "ok"}, {"u16", 15, 1, "memory"}, {"u16", 15, 0, "memory"}, {"u16", 1, 1, "memory"}, {"u16", 10, 4, "memory"}, {"u32", 2, 1, "memory"}, {"u32", 12, 1, "ok"}, {"s64", 4, 1, "memory"}, {"s64", 4, 0, "memory"}, {"s64", 8, 1, "ok"}, {"s64", 0, 2, "ok"}, {"s64", 8, 2, "memory"}, {"s64", 16, 0, "ok"}, {"s64", 24, 0, "memory"},
		{"tuple<u8,u16>", 3, 1, "memory"}, {"tuple<u8,u16>", 8, 2, "ok"}, {"option<u8>", 0, 1, "ok"}, {"option<u8>", 0, 2, "type"}, {"option<s64>", 4, 0, "memory"}, {"bool", 0, 1, "ok"}, {"bool", 0, 2, "type"}, {"bool", 1, 0, "ok"}, {"text", 0, 1, "memory"}, {"text", 0, 3, "memory"}, {"list<u8>", 2, 1, "memory"}, {"list<u8>", 0, 1, "many"}, {"flags{a,b,c,d,e,f,g,h,i}", 1, 1, "memory"}, {"char", 0, 1, "type"}, {"enum{a,b}", 0, 1, "ok"}, {"enum{a,b}", 0, 2, "type"},
	} {
		a, _ := impl.WriteMem(blank(16), 0, unhex(t, bytes))
		u := typed(t, "list<"+c.element+">")
		p := passage{Types: []impl.Type{u}, From: 1, To: 1, A: a, Flat: []int64{c.at, c.many}, B: fresh(t, 400)}
		is(t, c.element+" "+shown(c.at, c.many), all(impl.CodeWord(checkPassage(t, p))), c.word)
		wide := impl.Type{Kind: impl.TyResult, Kids: []impl.Type{u, typed(t, "tuple<s64,s64>")}}
		p.Types, p.Flat = []impl.Type{wide}, []int64{0, c.at, c.many}
		is(t, c.element+", wide "+shown(c.at, c.many), all(impl.CodeWord(checkPassage(t, p))), c.word)
		p.Flat = []int64{0, c.at - 1<<32, c.many}
		is(t, c.element+", no address", all(checkPassage(t, p)), impl.ErrType)
		p.Flat = []int64{0, c.at, c.many + 1<<32}
		is(t, c.element+", no length", all(checkPassage(t, p)), impl.ErrType)
		// In a list, behind the bytes.
		p.A.Bytes += impl.PutFix(c.at, 4) + impl.PutFix(c.many, 4)
		p.Types = []impl.Type{{Kind: impl.TyList, Kids: []impl.Type{u}}}
		p.Flat = []int64{16, 1}
		checkPassage(t, p)
	}
}

func TestP16Texts(t *testing.T) {
	for _, c := range []struct {
		bytes          string
		from, at, many int64
		words          string // what comes of it in each of the encodings
	}{
		{"61c3a9", 1, 0, 3, "ok ok ok"}, {"61c3a9", 1, 1, 1, "text text text"}, {"e282ac", 1, 0, 3, "ok ok text"}, {"ac20", 2, 0, 1, "ok ok text"}, {"3dd800de", 2, 0, 2, "ok ok text"}, {"3dd800de", 2, 0, 1, "text text text"}, {"00dd", 2, 0, 1, "text text text"}, {"e9ff", 3, 0, 2, "ok ok ok"}, {"c080", 1, 0, 2, "text text text"}, {"c080", 3, 0, 2, "ok ok ok"}, {"", 1, 0, 0, "ok ok ok"}, {"", 1, 1, 0, "memory memory memory"}, {"6162", 2, 1, 0, "memory memory memory"}, {"6162", 2, 2, 0, "ok ok ok"}, {"6162", 2, 4, 0, "memory memory memory"}, {"6162", 1, 0, 3, "memory memory memory"}, {"6162", 1, 4294967295, 4294967295, "memory memory memory"}, {"6162", 2, 0, 2147483648, "memory memory memory"}, {"616263", 2, 1, 1, "memory memory memory"},
		{strings.Repeat("61", 25), 1, 1, 24, "ok ok ok"}, {strings.Repeat("61", 25), 1, 0, 25, "text text text"}, {strings.Repeat("e9", 13), 3, 1, 12, "ok ok ok"}, {strings.Repeat("e9", 13), 3, 0, 13, "text text text"},
	} {
		for i, to := range encodings {
			p := passage{Types: typedList(t, "text"), From: c.from, To: to, A: impl.Memory{Bytes: unhex(t, c.bytes)}, Flat: []int64{c.at, c.many}, B: fresh(t, 100)}
			is(t, c.bytes+" from "+shown(c.from, c.at, c.many, to), all(impl.CodeWord(checkPassage(t, p))), strings.Fields(c.words)[i])
			p.Types, p.Flat = typedList(t, "variant{a:tuple<text,u8>,b:tuple<s64,s64>} u8"), []int64{0, c.at, c.many, 7, 9}
			checkPassage(t, p)
			p.A.Bytes += strings.Repeat("\x00", (8-len(p.A.Bytes)%4)%4) + impl.PutFix(c.at, 4) + impl.PutFix(c.many, 4)
			p.Types, p.Flat = typedList(t, "list<text>"), []int64{int64(len(p.A.Bytes) - 8), 1}
			checkPassage(t, p)
			for size := range int64(70) {
				p.B = fresh(t, size)
				checkPassage(t, p)
			}
		}
	}
}

// TestP16Room transfers to the smallest memories that suffice, and to smaller ones.
func TestP16Room(t *testing.T) {
	for _, c := range []struct {
		kinds, values string
		from, to      int64
		sizes         string // those from which on one allocation more succeeds; the last one suffices
		handles       string
	}{
		{"text", `"ab"`, 1, 1, "10", ""}, {"text", `"ab"`, 1, 2, "12", ""}, {"text list<u16> text", `"ab"; [1]; "c"`, 1, 1, "10 12 13", ""}, {"text list<u16> text", `"ab"; [1]; "c"`, 1, 2, "12 14 16", ""}, {"list<text>", `["ab", "c"]`, 1, 3, "24 26 27", ""}, {"list<list<u8>>", "[[1], [2, 3]]", 1, 1, "24 25 27", ""}, {"list<own<r>> text", `[own#1]; "a"`, 1, 1, "12 13", "5"}, {"option<text> list<s64>", `some("a"); [1]`, 1, 1, "9 24", ""},
		{"text text text text u8", `"a"; ""; "bc"; "d"; 7`, 1, 1, "44 45 47 48", ""}, {"text text text text u8", `"a"; ""; "bc"; "d"; 7`, 1, 2, "44 46 50 52", ""}, {"tuple<s64,s64,s64,s64> tuple<s64,s64,s64,s64> list<own<r>>", "(1, 2, 3, 4); (5, 6, 7, 8); [own#1, own#2]", 1, 1, "80 88", "3 4"}, {"tuple<s64,s64,s64,s64> tuple<s64,s64,s64,s64> u8", "(1, 2, 3, 4); (5, 6, 7, 8); 9", 1, 1, "80", ""},
	} {
		p := passageOf(t, c.kinds, c.values, c.from, c.to, c.handles)
		sizes := numbersOf(c.sizes)
		enough := sizes[len(sizes)-1]
		for size := range enough + 20 {
			p.B = fresh(t, size)
			want := int64(impl.ErrMany)
			if size >= enough {
				want = impl.OK
			}
			is(t, c.values+" in "+shown(size), all(checkPassage(t, p)), want)
		}
		for _, size := range sizes {
			for _, b := range []impl.Memory{fresh(t, size-1), fresh(t, size), filled(400, 11, size-8), filled(400, 16, size-8, 300, 3), filled(400, 9, 2, 16, max(size-9, 1), 200, 1, 300, 7)} {
				p.B = b
				checkPairs(t, p)
			}
		}
	}
}

// TestP16Order has memories with free blocks that are taken in the order of the allocations.
func TestP16Order(t *testing.T) {
	for _, c := range []struct {
		kinds, values string
		to            int64
		free          []int64
		flat          string
	}{
		{"text list<text> text", `"ab"; ["c", "de"]; "f"`, 1, []int64{10, 2, 14, 1, 20, 30}, "10 2 20 2 38 1"}, {"text list<text> text", `"ab"; ["c", "de"]; "f"`, 2, []int64{10, 2, 14, 4, 20, 30}, "14 2 20 2 40 1"}, {"list<u8> list<s64> list<u8>", "[1]; [2]; [3, 4]", 1, []int64{9, 30}, "9 1 16 1 10 2"}, {"text text", `"a"; "b"`, 1, []int64{30, 1, 40, 1}, "30 1 40 1"}, {"text text text text u8", `"ab"; "c"; ""; "d"; 9`, 1, []int64{10, 3, 20, 36, 70, 2}, "20"}, {"list<list<u8>>", "[[1], [2]]", 1, []int64{10, 1, 12, 16, 40, 1}, "12 2"},
	} {
		p := passageOf(t, c.kinds, c.values, 1, c.to, "")
		p.B = filled(100, c.free...)
		_, flat, code := impl.RunPlan(p.plan(t), p.A, p.Flat, p.B, nil)
		is(t, c.values, all(code, alike(flat, numbersOf(c.flat))), impl.OK, true)
		checkPairs(t, p)
	}
	// Both memories can be the same one.
	p := passageOf(t, "text list<own<r>>", `"ab"; [own#1]`, 1, 2, "2")
	p.B = p.A
	is(t, "one memory", all(checkPassage(t, p)), impl.OK)
}

// TestP16FirstError checks which of two errors comes first.
func TestP16FirstError(t *testing.T) {
	// At 0 a text that EnLatin cannot represent, at 3 no text, at 4 a number that is no bool, at 8 two texts.
	source := impl.Memory{Bytes: "\xe2\x82\xac\xff\x02\x01\x00\x00" + "\x00\x00\x00\x00\x03\x00\x00\x00" + "\x63\x00\x00\x00\x01\x00\x00\x00" + strings.Repeat("\x00", 72)}
	for _, c := range []struct {
		kinds, flat string
		to, room    int64
		handles     string
		word        string
	}{
		// A move is done before the next one starts: lowering a part comes before lifting the next one.
		{"text bool", "0 3 2", 1, 0, "", "many"}, {"text bool", "0 3 2", 3, 0, "", "text"}, {"text bool", "0 3 2", 1, 3, "", "type"}, {"bool text", "2 0 3", 1, 0, "", "type"}, {"text text", "0 3 99 1", 1, 2, "", "many"}, {"text text", "99 1 0 3", 1, 0, "", "memory"}, {"text text", "3 1 99 1", 1, 0, "", "text"}, {"list<u8> bool", "0 1 2", 1, 0, "", "many"}, {"list<bool> text", "4 1 99 1", 1, 0, "", "many"}, {"list<bool> text", "4 1 99 1", 1, 8, "", "type"}, {"list<bool> list<u8>", "5 1 0 9", 1, 0, "", "many"}, {"list<bool> list<u8>", "5 1 0 9", 1, 8, "", "many"}, {"list<bool> list<u8>", "5 1 99 1", 1, 8, "", "memory"},
		// Within a list: its length, its bytes, its memory, its elements.
		{"list<u16>", "99 9", 1, 0, "", "many"}, {"list<u16>", "1 1", 1, 0, "", "memory"}, {"list<bool>", "4 1", 1, 0, "", "many"}, {"list<bool>", "4 1", 1, 1, "", "type"}, {"list<text>", "8 2", 1, 15, "", "many"}, {"list<text>", "8 2", 1, 18, "", "many"}, {"list<text>", "8 2", 1, 19, "", "memory"}, {"list<text>", "8 2", 3, 16, "", "text"}, {"list<text>", "8 2", 3, 15, "", "many"}, {"list<text>", "8 1", 1, 11, "", "ok"},
		// Within a text: its bytes, the encoding in a, the encoding in b, its memory.
		{"text", "99 1", 3, 0, "", "memory"}, {"text", "3 1", 3, 0, "", "text"}, {"text", "0 3", 3, 0, "", "text"}, {"text", "0 3", 1, 0, "", "many"}, {"text", "0 3", 1, 2, "", "many"},
		// Handles: the number in a, and then whether one is left; those that are too many come last.
		{"own<r> bool", "5 2", 1, 0, "", "range"}, {"own<r> bool", "5 2", 1, 0, "1", "type"}, {"own<r> bool", "5 2", 1, 0, "1 2", "type"}, {"bool own<r>", "2 5", 1, 0, "", "type"}, {"own<r> bool", "4294967295 2", 1, 0, "", "type"}, {"own<r> text", "5 0 3", 3, 0, "", "range"}, {"own<r> text", "5 0 3", 3, 0, "1", "text"}, {"text own<r>", "0 3 5", 3, 0, "", "text"}, {"text own<r>", "0 3 5", 1, 2, "", "many"}, {"text own<r>", "0 3 5", 1, 3, "", "range"}, {"text own<r>", "0 3 5", 1, 2, "1 2", "many"}, {"text own<r>", "0 3 5", 1, 3, "1 2", "range"}, {"list<own<r>> list<u8>", "16 1 0 9", 1, 4, "", "range"}, {"list<own<r>> list<u8>", "16 1 0 9", 1, 4, "1", "many"}, {"list<own<r>>", "16 1", 1, 3, "", "many"}, {"bool", "2", 1, 0, "1", "type"}, {"bool", "1", 1, 0, "1", "range"}, {"", "", 1, 0, "1", "range"}, {"option<own<r>> bool", "0 5 2", 1, 0, "1", "type"}, {"option<own<r>> bool", "0 5 1", 1, 0, "1", "range"},
		// Cases.
		{"option<text>", "2 99 1", 1, 0, "", "type"}, {"option<text> bool", "1 0 3 2", 1, 0, "", "many"}, {"variant{a:text,b:tuple<s64,s64>}", "0 -1 99", 1, 0, "", "type"}, {"variant{a:list<u8>,b:tuple<s64,s64>}", "0 99 -1", 1, 0, "", "type"}, {"option<own<r>>", "2 5", 1, 0, "", "type"}, {"result<own<r>,s64> bool", "0 5 2", 1, 0, "", "range"},
		// ErrForm comes first.
		{"own<r> u8", "4294967295 -1", 1, 0, "", "form"}, {"own<r>", "4294967295", 1, 0, "-1", "form"}, {"bool", "2", 1, 0, "2147483648", "form"}, {"text bool", "99 1", 1, 0, "", "form"}, {"bool", "2", 1, 0, "1 1 -1", "form"},
		// Spilled parameters: the tuple in a, the tuple in b, and then the parameters. The first text is at 8.
		{"text text text text u8", "98", 1, 0, "", "memory"}, {"text text text text u8", "100", 1, 36, "", "memory"}, {"text text text text u8", "64", 3, 0, "", "memory"}, {"text text text text u8", "8", 3, 35, "", "many"}, {"text text text text u8", "8", 3, 36, "", "text"}, {"text text text text u8", "8", 1, 36, "", "many"}, {"text text text text u8", "8", 1, 39, "", "memory"}, {"text text text text u8", "10", 1, 36, "", "memory"}, {"text text text text u8", "16", 1, 35, "", "many"}, {"text text text text u8", "16", 1, 36, "", "memory"}, {"text text text text u8", "24", 1, 36, "", "ok"}, {"text text text text u8", "24", 1, 36, "1", "range"}, {"text text text text u8", "24", 1, 35, "1", "many"}, {"text text text text u8", "4294967296", 1, 0, "", "form"}, {"own<r> tuple<text,text,text,text>", "4", 1, 36, "", "range"}, {"own<r> tuple<text,text,text,text>", "4", 1, 36, "1", "many"}, {"own<r> tuple<text,text,text,text>", "4", 1, 39, "1", "memory"}, {"own<r> tuple<text,text,text,text>", "0", 1, 36, "", "type"}, {"own<r> tuple<text,text,text,text>", "0", 1, 35, "", "many"},
	} {
		p := passage{typedList(t, c.kinds), 1, c.to, source, numbersOf(c.flat), fresh(t, 8+c.room), numbersOf(c.handles)}
		w, flat, code := impl.RunPlan(p.plan(t), p.A, p.Flat, p.B, p.Handles)
		is(t, c.kinds+" from "+c.flat+" with "+c.handles, all(impl.CodeWord(code), code == impl.OK || alike(w, impl.Memory{}) && len(flat) == 0), c.word, true)
		checkPairs(t, p)
	}
}

// fuseTypes are types that are made up, those of the tables, and types with handles in every place.
func fuseTypes(t *testing.T, seed int64, many int) []impl.Type {
	list := canonTypes(t, seed, many)
	for _, row := range runTable {
		list = append(list, typedList(t, row.kinds)...)
	}
	for range 4 {
		list = append(list, typedList(t, "own<r> borrow<s> list<own<r>> option<borrow<s>> list<option<own<r>>> list<variant{a:own<r>,b:list<borrow<s>>,c}> variant{a:list<variant{x:own<r>,y:borrow<s>}>,b:s64,c:own<t>} result<list<own<r>>,borrow<s>> record{a:u8,b:list<tuple<own<r>,text,u16>>,c:option<own<s>>} list<list<list<own<r>>>> option<result<own<r>,list<text>>> tuple<own<r>,list<result<borrow<s>,own<t>>>,u8> list<variant{a,b:option<own<r>>,c:text}>")...)
	}
	return list
}

// somePassage makes up a passage of valid types: mostly one of values, with something changed now and then.
func somePassage(r *rand.Rand, list []impl.Type, numbers []int64) passage {
	c := passage{From: encodings[r.Intn(3)], To: encodings[r.Intn(3)], B: someMemory(r)}
	if r.Intn(2) == 0 {
		c.B = filled(1000, 8, 9, 21, 900)
	}
	var vs []impl.Value
	for range r.Intn(impl.MaxParams + 1) {
		u := list[r.Intn(len(list))]
		v, _ := someValue(r, u)
		c.Types, vs = append(c.Types, u), append(vs, shortened(r, shortened(r, v, c.From), c.To))
	}
	a := filled(1000, 9, 20, 33, 940)
	if r.Intn(4) == 0 {
		a = someMemory(r)
	}
	var code int64
	c.A, c.Flat, code = impl.LowerParams(a, c.From, c.Types, vs)
	if code != impl.OK {
		c.A, c.Flat = a, make([]int64, len(passedModel(c.Types)))
	}
	for range []int{0, 0, 1}[r.Intn(3)] {
		c.A = spoilt(r, c.A)
		for i := range c.Flat {
			if r.Intn(3) == 0 {
				c.Flat[i] = []int64{c.Flat[i] + 1, c.Flat[i] - 1, c.Flat[i] + 1<<32, someNumberFrom(r, numbers), -1}[r.Intn(5)]
			}
		}
	}
	many := r.Intn(4)
	if handles, code := c.handlesModel(); code == impl.OK {
		many = len(handles) + []int{0, 0, 0, 0, 0, 0, 0, 0, 1, 2}[r.Intn(10)]
	}
	for range many {
		c.Handles = append(c.Handles, []int64{0, 1, 2147483647, int64(r.Intn(1000)), int64(r.Int31())}[r.Intn(5)])
	}
	switch r.Intn(20) {
	case 0:
		c.Handles = c.Handles[:r.Intn(len(c.Handles)+1)]
	case 1:
		c.Handles = append(c.Handles, []int64{-1, 2147483648, 5, math.MaxInt64, math.MinInt64}[r.Intn(5)])
	}
	return c
}

// passedModel are the kinds of the flat values that parameters are passed as.
func passedModel(us []impl.Type) string {
	kinds := flatModelOfAll(us)
	if len(kinds) > 8 {
		return "s"
	}
	return kinds
}

// TestP16Model transfers values that are made up.
func TestP16Model(t *testing.T) {
	t.Parallel()
	r := rand.New(rand.NewSource(143))
	list, numbers := fuseTypes(t, 144, 500), numbers()
	met := map[string]int{}
	for range 15000 {
		c := somePassage(r, list, numbers)
		word := impl.CodeWord(checkPassage(t, c))
		met[map[bool]string{true: "spilled ", false: "flat "}[impl.IsSpilled(c.Types)]+word]++
		met[shown(c.From, c.To)+word]++
		if handles, code := impl.PlanHandles(c.plan(t), c.A, c.Flat); code == impl.OK && len(handles) > 1 {
			met["handles "+word]++
		}
	}
	for _, word := range strings.Fields("ok form type memory many text range") {
		is(t, word, all(met["flat "+word] >= 20, met["spilled "+word] >= 20 || word == "form"), true, true)
	}
	is(t, "enough", all(met["flat ok"] > 1000, met["spilled ok"] > 500, met["handles ok"] > 300), true, true, true)
	for _, from := range encodings {
		for _, to := range encodings {
			is(t, "the encodings "+shown(from, to), all(met[shown(from, to)+"ok"] > 100), true)
		}
	}
}

// TestP16Form makes one argument invalid, whatever else is wrong.
func TestP16Form(t *testing.T) {
	high, low := int64(math.MaxInt64), int64(math.MinInt64)
	check := func(what string, c passage, handles bool) {
		t.Helper()
		p := c.plan(t)
		w, flat, code := impl.RunPlan(p, c.A, c.Flat, c.B, c.Handles)
		is(t, what, all(code, alike(w, impl.Memory{}), len(flat) == 0), impl.ErrForm, true, true)
		if list, code := impl.PlanHandles(p, c.A, c.Flat); handles {
			is(t, what, all(code, len(list) == 0), impl.ErrForm, true)
		}
	}
	for _, row := range runTable {
		good := passageOf(t, row.kinds, row.values, row.from, row.to, row.handles)
		is(t, row.values, all(checkPassage(t, good)), impl.OK)
		for _, m := range []impl.Memory{
			blank(4097), blank(4097, 8, 1), blank(64, 8, 0), blank(64, 8, -1), blank(64, 7, 4), blank(64, 0, 64), blank(64, 60, 5), blank(64, 64, 1), blank(64, 8, 4, 12, 4), blank(64, 8, 8, 10, 2), blank(64, 20, 4, 8, 4), blank(0, 8, 1), blank(8, 8, 1),
			blank(64, high, 1), blank(64, 8, high), blank(64, high, high), blank(64, low, high), blank(64, low, low), blank(64, high-7, 8), blank(64, 8, 2, high, 2),
		} {
			what := row.values + " with " + shown(len(m.Bytes), m.Free)
			c := good
			c.A = m
			check(what+" as a", c, true)
			c.Handles = nil
			check(what+" as a", c, true)
			c = good
			c.B = m
			check(what+" as b", c, false)
			list, code := impl.PlanHandles(c.plan(t), c.A, c.Flat)
			wantList, _ := c.handlesModel()
			is(t, what+" as b", all(code, alike(list, wantList)), impl.OK, true)
		}
		others := [][]int64{append(slices.Clone(good.Flat), 0), append(slices.Clone(good.Flat), 0, 0), make([]int64, 100000)}
		if len(good.Flat) > 0 {
			others = append(others, good.Flat[1:], nil)
		}
		kinds := passedModel(good.Types)
		for i := range good.Flat {
			for _, n := range []int64{-1, 1 << 32, high, low, high - 7, low + 7} {
				if kinds[i] == 's' {
					other := slices.Clone(good.Flat)
					other[i] = n
					others = append(others, other)
				}
			}
		}
		for _, flat := range others {
			c := good
			c.Flat = flat
			check(row.values+" from "+shown(len(flat)), c, true)
		}
		// Numbers near the ends of int64 that are valid, because their kinds are wide.
		for i := range good.Flat {
			for _, n := range []int64{high, low, high - 1, low + 1, 1<<32 - 1, 1 << 31} {
				c := good
				c.Flat = slices.Clone(good.Flat)
				c.Flat[i] = n
				checkPassage(t, c)
			}
		}
	}
}

func TestP16CopiedBytes(t *testing.T) {
	for _, c := range []struct {
		sizes string // those of copies
		want  int64
	}{
		{"", 0}, {"0", 0}, {"1", 1}, {"1 2 3", 6}, {"4096", 4096}, {"4096 4096", 8192}, {"4097", 0}, {"1 4097", 0}, {"4097 1", 0}, {"-1", 0}, {"5 -1", 0}, {"-1 5", 0}, {"9223372036854775807", 0}, {"-9223372036854775808", 0}, {"9223372036854775807 1", 0}, {"4294967297", 0},
	} {
		var moves []impl.Move
		for _, n := range numbersOf(c.sizes) {
			moves = append(moves, impl.Move{Kind: impl.MvCopy, Size: n, At: -7})
		}
		is(t, c.sizes, all(impl.CopiedBytes(moves)), c.want)
		// The order does not matter.
		slices.Reverse(moves)
		is(t, c.sizes, all(impl.CopiedBytes(moves)), c.want)
	}
	for _, kind := range []int64{0, -1, impl.MvCopy, impl.MvSmall, impl.MvWide, impl.MvText, impl.MvList, impl.MvCases, impl.MvHandle, 8, 1<<32 + impl.MvCopy, math.MaxInt64, math.MinInt64} {
		copied := int64(0)
		if kind == impl.MvCopy {
			copied = 1
		}
		for size, want := range map[int64]int64{-1: 0, 0: 5, 1: 5 + copied, 4095: 5 + copied*4095, 4096: 5 + copied*4096, 4097: 0, math.MaxInt64: 0, math.MinInt64: 0, 1 << 32: 0} {
			m, five := impl.Move{Kind: kind, Size: size, Type: impl.TyU8}, impl.Move{Kind: impl.MvCopy, Size: 5}
			is(t, shown(kind, size), all(impl.CopiedBytes([]impl.Move{m, five}), impl.CopiedBytes([]impl.Move{five, m})), want, want)
		}
		for many := 998; many < 1004; many++ {
			moves := slices.Repeat([]impl.Move{{Kind: kind, Size: 4096}}, many)
			want := copied * 4096 * int64(many)
			if many > 1000 {
				want = 0
			}
			is(t, shown(kind, many), all(impl.CopiedBytes(moves)), want)
		}
	}
	is(t, "very many moves", all(impl.CopiedBytes(make([]impl.Move, 1000000)), impl.CopiedBytes(nil)), 0, 0)
	// Nested lists do not count, whatever is in them.
	inner := [][]impl.Move{{{Kind: impl.MvCopy, Size: 3}, {Kind: impl.MvCopy, Size: -1}, {Kind: impl.MvCopy, Size: 5000}}, make([]impl.Move, 2000)}
	is(t, "nested lists", all(impl.CopiedBytes([]impl.Move{{Kind: impl.MvList, Size: 8, Kids: inner}, {Kind: impl.MvCopy, Size: 2, Kids: inner}}), impl.CopiedBytes(impl.MovesOf(typedList(t, "list<u8> option<s64> u16 bool u8")))), 2, 3)
}

// fuseCall are the arguments of the functions of chapter 14.
type fuseCall struct {
	Passage passage
	Plan    impl.Plan
	Other   impl.Plan
}

// results calls all functions of chapter 14, also those that make plans twice.
func (c fuseCall) results() []any {
	s := c.Passage
	p, code := impl.Fuse(s.Types, s.From, s.To)
	q, otherCode := impl.Fuse(s.Types, s.To, s.From)
	b, flat, runCode := impl.RunPlan(c.Plan, s.A, s.Flat, s.B, s.Handles)
	same, sameFlat, sameCode := impl.RunPlan(c.Plan, s.A, s.Flat, s.A, s.Handles)
	handles, handlesCode := impl.PlanHandles(c.Plan, s.A, s.Flat)
	return all(impl.MovesOf(s.Types), impl.FlatMovesOf(s.Types), p, code, q, otherCode, b, flat, runCode, same, sameFlat, sameCode, handles, handlesCode, impl.PlanOk(c.Plan), impl.PlanOk(c.Other), impl.SamePlan(c.Plan, c.Other), impl.SamePlan(c.Plan, c.Plan), impl.CopiedBytes(c.Plan.Flat), impl.CopiedBytes(c.Plan.Mem))
}

func TestP1Fuse(t *testing.T) {
	t.Parallel()
	r := rand.New(rand.NewSource(145))
	list, numbers := fuseTypes(t, 146, 300), numbers()
	for range 2500 {
		s := somePassage(r, list, numbers)
		p := s.plan(t)
		c := fuseCall{s, p, roomy(p)}
		pure(t, s.text(), c, fuseCall.results)
		for _, changes := range [][]impl.Move{c.Other.Flat, c.Other.Mem} {
			if len(changes) > 0 {
				changes[r.Intn(len(changes))].At++
			}
		}
		pure(t, s.text(), fuseCall{s, c.Other, p}, fuseCall.results)
	}
	for _, row := range runTable {
		s := passageOf(t, row.kinds, row.values, row.from, row.to, row.handles)
		pure(t, row.values, fuseCall{s, s.plan(t), impl.Plan{}}, fuseCall.results)
		for i := range s.Flat {
			for _, n := range []int64{math.MaxInt64, math.MinInt64, -1, 1 << 32, 1<<32 - 1} {
				c := fuseCall{roomy(s), s.plan(t), s.plan(t)}
				c.Passage.Flat[i] = n
				pure(t, row.values, c, fuseCall.results)
			}
		}
		for _, n := range numbers[:60] {
			c := fuseCall{s, s.plan(t), s.plan(t)}
			c.Passage.From, c.Passage.To, c.Plan.To, c.Other.From, c.Passage.Handles = n, n, n, n, []int64{n}
			pure(t, row.values, c, fuseCall.results)
		}
	}
	within, beyond := limitTypes()
	for _, u := range slices.Concat(within, beyond, []impl.Type{{}, {Kind: -1}}) {
		s := passage{Types: []impl.Type{u}, From: 1, To: 2, A: blank(64, 8, 56), Flat: []int64{0, 0}, B: blank(64, 8, 56), Handles: []int64{1}}
		p, _ := impl.Fuse([]impl.Type{u}, 1, 2)
		pure(t, shown(u), fuseCall{s, p, impl.Plan{Types: []impl.Type{u}, From: 1, To: 2}}, fuseCall.results)
		pure(t, shown(u), fuseCall{s, impl.Plan{Types: []impl.Type{u}, From: 1, To: 2}, p}, fuseCall.results)
	}
}

// TestP1DeepFuse has plans that are too deep, or whose types are, beside arguments that are wrong too.
func TestP1DeepFuse(t *testing.T) {
	for i, u := range deepTypes() {
		what := "deep type " + strconv.Itoa(i)
		p := impl.Plan{Types: []impl.Type{u}, From: 1, To: 1, Flat: []impl.Move{{Kind: impl.MvText}}}
		checkNoPlan(t, what, p)
		is(t, what, all(impl.SamePlan(p, p), impl.SamePlan(p, impl.Plan{}), impl.SamePlan(impl.Plan{}, p)), i >= 7, false, false)
		p.Types = slices.Repeat(p.Types, 1000)
		checkNoPlan(t, what+", often", p)
	}
	deep := nestedMoves(1000000, nil)
	for _, us := range [][]impl.Type{nil, typedList(t, "u8"), typedList(t, "text text text text u8")} {
		p := passage{Types: us, From: 1, To: 1}.plan(t)
		for _, other := range []impl.Plan{{Types: us, From: 1, To: 1, Flat: deep}, {Types: us, From: 1, To: 1, Mem: deep}, {Types: us, From: 1, To: 1, Flat: p.Flat, Mem: append(slices.Clone(p.Mem), deep...)}} {
			checkNoPlan(t, "deep moves", other)
			is(t, "deep moves", all(impl.SamePlan(other, other), impl.SamePlan(p, other), impl.SamePlan(other, p), impl.CopiedBytes(other.Flat)), false, false, false, 0)
		}
	}
}
