package tests

import (
	"fmt"
	"math"
	"math/rand"
	"slices"
	"strconv"
	"strings"
	"testing"

	"loop.example/g00901/impl"
)

const modelHeader = "\x00cor\x01"

// leb encodes an integer group by group, down to the first rest that the last group can hold.
func leb(n int64, signed bool) string {
	s := ""
	for {
		group := n & 0x7f
		n >>= 7
		if !signed && n == 0 || signed && (n == 0 && group < 0x40 || n == -1 && group >= 0x40) {
			return s + string([]byte{byte(group)})
		}
		s += string([]byte{byte(group | 0x80)})
	}
}

func prefixed(s string) string {
	return leb(int64(len(s)), false) + s
}

// insBinary encodes an instruction if it is valid.
func insBinary(i impl.Ins) (string, bool) {
	_, ok := insModel(i)
	o, _ := opcodeIn(i.Op)
	switch {
	case !ok:
		return "", false
	case o.operand:
		return string([]byte{byte(i.Op)}) + leb(i.A, o.word == "const"), true
	}
	return string([]byte{byte(i.Op)}), true
}

// bodyBinary encodes code, which is valid.
func bodyBinary(code []impl.Ins) string {
	s := leb(int64(len(code)), false)
	for _, i := range code {
		encoded, _ := insBinary(i)
		s += encoded
	}
	return s
}

// contents are the contents of the four sections of a well-formed module.
func contents(m impl.Module) [4]string {
	count := func(n int) string { return leb(int64(n), false) }
	imports, cores, bodies := count(len(m.Imports)), count(len(m.Cores)), count(len(m.Cores))
	for _, x := range m.Imports {
		imports += prefixed(x.Name) + leb(x.Params, false) + leb(one(x.Result), false)
	}
	for _, c := range m.Cores {
		cores += prefixed(c.Name) + leb(c.Params, false) + leb(c.Locals, false) + leb(one(c.Result), false)
		bodies += prefixed(bodyBinary(c.Code))
	}
	return [4]string{leb(m.Pages, false), imports, cores, bodies}
}

// binaryOf is a header with sections, each an Id and a content.
func binaryOf(sections ...any) string {
	s := modelHeader
	for pair := range slices.Chunk(sections, 2) {
		s += string([]byte{byte(pair[0].(int))}) + prefixed(pair[1].(string))
	}
	return s
}

// moduleBinary is the binary of a well-formed module.
func moduleBinary(m impl.Module) string {
	c := contents(m)
	return binaryOf(1, c[0], 2, c[1], 3, c[2], 4, c[3])
}

// scanner reads a binary from left to right. It stops at the first thing that is not as it has to be.
type scanner struct{ rest string }

func (c *scanner) take(many int64) string {
	need(many <= int64(len(c.rest)), impl.ErrRead)
	taken := c.rest[:many]
	c.rest = c.rest[many:]
	return taken
}

func (c *scanner) number(signed bool) int64 {
	// No encoding has more than ten bytes.
	n, many, ok := readLeb(c.rest[:min(len(c.rest), 11)], signed)
	need(ok, impl.ErrRead)
	c.take(many)
	return n
}

func (c *scanner) text() string {
	return c.take(c.number(false))
}

func (c *scanner) flag() bool {
	b := c.take(1)
	need(b == "\x00" || b == "\x01", impl.ErrRead)
	return b == "\x01"
}

func (c *scanner) ins() impl.Ins {
	i := impl.Ins{Op: int64(c.take(1)[0])}
	o, ok := opcodeIn(i.Op)
	need(ok, impl.ErrRead)
	if o.operand {
		i.A = c.number(o.word == "const")
	}
	need(o.low <= i.A && i.A <= o.high, impl.ErrRead)
	return i
}

func (c *scanner) body() []impl.Ins {
	many := c.number(false)
	need(many <= 120, impl.ErrRead)
	var code []impl.Ins
	for range many {
		code = append(code, c.ins())
	}
	c.end()
	return code
}

func (c *scanner) end() {
	need(c.rest == "", impl.ErrRead)
}

func isOwnName(s string) bool {
	for i := range len(s) {
		if s[i] < 33 || s[i] > 126 {
			return false
		}
	}
	return len(s) >= 1 && len(s) <= 40
}

// sectionsModel splits a binary into its sections.
func sectionsModel(s string) (list []impl.Section, code int64) {
	code = faultOf(func() {
		need(len(s) <= 30000, impl.ErrMany)
		c := scanner{s}
		need(c.take(5) == modelHeader, impl.ErrRead)
		for c.rest != "" {
			x := impl.Section{Id: int64(c.take(1)[0])}
			need(x.Id <= 4, impl.ErrRead)
			content := scanner{c.text()}
			if x.Id == 0 {
				x.Name = content.text()
				need(isOwnName(x.Name), impl.ErrRead)
			}
			x.Bytes = content.rest
			list = append(list, x)
		}
		need(len(list) <= 20, impl.ErrRead)
	})
	if code != impl.OK {
		list = nil
	}
	return list, code
}

// binaryModel reads the module of a binary.
func binaryModel(s string) (m impl.Module, code int64) {
	list, code := sectionsModel(s)
	if code != impl.OK {
		return m, code
	}
	list = slices.DeleteFunc(list, func(x impl.Section) bool { return x.Id == 0 })
	code = faultOf(func() {
		need(len(list) == 4, impl.ErrRead)
		for i, x := range list {
			need(x.Id == int64(i+1), impl.ErrRead)
		}
		pages, imports, cores, bodies := scanner{list[0].Bytes}, scanner{list[1].Bytes}, scanner{list[2].Bytes}, scanner{list[3].Bytes}
		m.Pages = pages.number(false)
		for range imports.number(false) {
			m.Imports = append(m.Imports, impl.Import{Name: imports.text(), Params: imports.number(false), Result: imports.flag()})
		}
		for range cores.number(false) {
			m.Cores = append(m.Cores, impl.Core{Name: cores.text(), Params: cores.number(false), Locals: cores.number(false), Result: cores.flag()})
		}
		need(bodies.number(false) == int64(len(m.Cores)), impl.ErrRead)
		for k := range m.Cores {
			body := scanner{bodies.text()}
			m.Cores[k].Code = body.body()
		}
		for _, c := range []scanner{pages, imports, cores, bodies} {
			c.end()
		}
		need(shapeModel(m), impl.ErrRead)
	})
	if code != impl.OK {
		return impl.Module{}, code
	}
	return m, code
}

// sectionsBinary is the binary with sections, if they are valid and within the limits.
func sectionsBinary(l []impl.Section) (string, bool) {
	s := modelHeader
	for _, x := range l {
		content := x.Bytes
		if x.Id == 0 {
			content = prefixed(x.Name) + content
		}
		if x.Id < 0 || x.Id > 4 || x.Id == 0 && !isOwnName(x.Name) || x.Id != 0 && x.Name != "" {
			return "", false
		}
		s += string([]byte{byte(x.Id)}) + prefixed(content)
	}
	if len(l) > 20 || len(s) > 30000 {
		return "", false
	}
	return s, true
}

// checkInsOf compares what the program decodes at the start of a text with the model.
func checkInsOf(t *testing.T, s string) {
	t.Helper()
	c, want := scanner{s}, impl.Ins{}
	wantOk := faultOf(func() { want = c.ins() }) == impl.OK
	wantMany := int64(len(s) - len(c.rest))
	if !wantOk {
		want, wantMany = impl.Ins{}, 0
	}
	i, many, ok := impl.InsOf(s)
	if i != want || many != wantMany || ok != wantOk {
		t.Errorf("InsOf(%q) returns %v, %d, %v, want %v, %d, %v", clipped(s), i, many, ok, want, wantMany, wantOk)
	}
}

// checkBody compares what the program says of a text as a body with the model, and returns whether it is one.
func checkBody(t *testing.T, s string) bool {
	t.Helper()
	var want []impl.Ins
	c := scanner{s}
	wantOk := faultOf(func() { want = c.body() }) == impl.OK
	code, ok := impl.BodyOf(s)
	if ok != wantOk || !alike(code, want) || !ok && code != nil {
		t.Errorf("BodyOf(%q) returns %v, %v, want %v, %v", clipped(s), code, ok, want, wantOk)
	}
	if ok && impl.BodyBytes(code) != s {
		t.Errorf("BodyBytes does not return %q", clipped(s))
	}
	return ok
}

// checkBinary compares what the program says of a text as a binary with the models, and returns the code of ModuleOf.
func checkBinary(t *testing.T, s string) int64 {
	t.Helper()
	what := strconv.Quote(clipped(s))
	list, code := impl.SectionsOf(s)
	wantList, wantCode := sectionsModel(s)
	is(t, "SectionsOf "+what, all(alike(list, wantList), code), true, wantCode)
	plain, plainCode := impl.StripOwn(s)
	want, _ := sectionsBinary(slices.DeleteFunc(wantList, func(x impl.Section) bool { return x.Id == 0 }))
	if wantCode != impl.OK {
		want = ""
	}
	is(t, "StripOwn "+what, all(plain, plainCode), want, wantCode)
	if code == impl.OK {
		is(t, "SectionBytes "+what, all(impl.SectionBytes(list) == s), true)
	}
	m, moduleCode := impl.ModuleOf(s)
	wantModule, wantModuleCode := binaryModel(s)
	is(t, "ModuleOf "+what, all(alike(m, wantModule), moduleCode), true, wantModuleCode)
	return moduleCode
}

// checkOwn inserts custom sections into a binary at a place, and compares the result with the model.
func checkOwn(t *testing.T, s string, at int64, name, bytes string) int64 {
	t.Helper()
	list, want := sectionsModel(s)
	longer, fits := "", false
	switch {
	case want != impl.OK:
	case at < 0 || at > int64(len(list)) || !isOwnName(name):
		want = impl.ErrRange
	default:
		longer, fits = sectionsBinary(slices.Insert(list, int(at), impl.Section{Name: name, Bytes: bytes}))
		if !fits {
			want = impl.ErrMany
		}
	}
	got, code := impl.WithOwn(s, at, name, bytes)
	if got != longer || code != want {
		t.Errorf("WithOwn(%q, %d, %q, %q) returns %q, %d, want %q, %d", clipped(s), at, clipped(name), clipped(bytes), clipped(got), code, clipped(longer), want)
	}
	return code
}

func TestP19BinaryConstants(t *testing.T) {
	is(t, "limits", all(int64(impl.MaxBinary), int64(impl.MaxSections)), 30000, 20)
	is(t, "sections", all(int64(impl.SeOwn), int64(impl.SePages), int64(impl.SeImports), int64(impl.SeCores), int64(impl.SeCode)), 0, 1, 2, 3, 4)
}

// TestP19Instructions has every opcode, and numbers that are none, with operands at and beside all limits, and bytes behind.
func TestP19Instructions(t *testing.T) {
	operands := edges()
	for _, o := range opcodes {
		operands = append(operands, o.low, o.low-1, o.high, o.high+1)
	}
	check := func(i impl.Ins) {
		want, ok := insBinary(i)
		if got := impl.InsBytes(i); got != want {
			t.Errorf("InsBytes(%v) returns %q, want %q", i, got, want)
		}
		if !ok {
			return
		}
		for _, behind := range []string{"", "\x00", "\x01", "\x7f", "\x80", "\xff", "z", want} {
			x, many, ok := impl.InsOf(want + behind)
			if x != i || many != int64(len(want)) || !ok {
				t.Errorf("InsOf(%q) returns %v, %d, %v, want %v", want+behind, x, many, ok, i)
			}
		}
		for end := range len(want) {
			zero(t, "an instruction that is cut", insParts(want[:end])...)
		}
	}
	for op := int64(-1); op <= 42; op++ {
		for _, a := range operands {
			check(impl.Ins{Op: op, A: a})
		}
	}
	for _, op := range append(edges(), 255, 257, 1<<32+6) {
		check(impl.Ins{Op: op})
		check(impl.Ins{Op: op, A: 1})
	}
	i, many, ok := impl.InsOf("\x01\x7ez")
	is(t, "the examples", all(i, many, ok, impl.InsBytes(impl.Ins{Op: impl.OpDrop, A: 1})), impl.Ins{Op: impl.OpConst, A: -2}, 2, true, "")
}

// insParts are the results of InsOf; the instruction is two numbers.
func insParts(s string) []any {
	i, many, ok := impl.InsOf(s)
	return all(i.Op, i.A, many, ok)
}

// TestP19InsOf has texts that start with no instruction.
func TestP19InsOf(t *testing.T) {
	long := strings.Repeat("\x80", 100)
	for _, s := range []string{
		"", "\x00", "\x00\x00", "\x29", "\x29\x00", "\xff", "\xff\x00", "\x80\x01", "\x81\x00\x00", "\x2a", "\x01", "\x02", "\x27", // no opcode, or no operand
		"\x01\x80\x00", "\x01\xff\x7f", "\x02\x80\x00", "\x02\x81\x00", "\x22\x80\x80\x00", "\x01\x80\x80\x80\x80\x80\x80\x80\x80\x80\x80\x00", // not the shortest encoding
		"\x01\x80", "\x01\xff\xff", "\x02\x80", "\x01" + long, "\x02" + long, // no end
		"\x01\x80\x80\x80\x80\x80\x80\x80\x80\x80\x01", "\x01\xff\xff\xff\xff\xff\xff\xff\xff\xff\x01", "\x02\x80\x80\x80\x80\x80\x80\x80\x80\x80\x01", "\x02\xff\xff\xff\xff\xff\xff\xff\xff\xff\x7f", // no int64
		"\x02\x10", "\x03\x10", "\x04\x7f", "\x18\x02", "\x1a\x02", "\x1d\x07", "\x1e\x07", "\x20\x08", "\x21\x0c", "\x22\x81\x20", "\x27\x81\x20", "\x02\xff\xff\xff\xff\xff\xff\xff\xff\x7f", // beyond the operands
	} {
		zero(t, strconv.Quote(clipped(s)), insParts(s)...)
		checkInsOf(t, s)
	}
	for _, c := range []struct {
		s    string
		i    impl.Ins
		many int
	}{
		{"\x06\x00", impl.Ins{Op: impl.OpAdd}, 1}, {"\x28", impl.Ins{Op: impl.OpTrap}, 1}, {"\x05\x01", impl.Ins{Op: impl.OpDrop}, 1}, {"\x02\x0f\x80", impl.Ins{Op: impl.OpGet, A: 15}, 2}, {"\x22\x80\x20", impl.Ins{Op: impl.OpLoad8, A: 4096}, 3}, {"\x01\x40", impl.Ins{Op: impl.OpConst, A: -64}, 2}, {"\x01\xc0\x00", impl.Ins{Op: impl.OpConst, A: 64}, 3}, {"\x1d\x06", impl.Ins{Op: impl.OpBr, A: 6}, 2},
		{"\x01\x80\x80\x80\x80\x80\x80\x80\x80\x80\x7f", impl.Ins{Op: impl.OpConst, A: math.MinInt64}, 11}, {"\x01\xff\xff\xff\xff\xff\xff\xff\xff\xff\x00", impl.Ins{Op: impl.OpConst, A: math.MaxInt64}, 11},
	} {
		i, many, ok := impl.InsOf(c.s)
		is(t, strconv.Quote(c.s), all(i, many, ok), c.i, c.many, true)
		checkInsOf(t, c.s)
	}
	for a := range 256 {
		checkInsOf(t, string([]byte{byte(a)}))
		for b := range 256 {
			checkInsOf(t, string([]byte{byte(a), byte(b)}))
			for _, c := range "\x00\x01\x20\x21\x7f" {
				checkInsOf(t, string([]byte{byte(a), byte(b), byte(c)}))
			}
		}
	}
	r := rand.New(rand.NewSource(171))
	for range 2000 {
		s, _ := insBinary(someIns(r))
		checkInsOf(t, changedBytes(r, s+"\x00"))
	}
	checkInsOf(t, "\x01"+strings.Repeat("\xff", 1000000))
	checkInsOf(t, "\x06"+strings.Repeat("\xff", 1000000))
}

// changedBytes changes, removes, repeats or adds a byte of a text that is not empty.
func changedBytes(r *rand.Rand, s string) string {
	at := r.Intn(len(s))
	b := string([]byte{[]byte{0, 1, 2, 4, 0x7f, 0x80, 0xff, byte(r.Intn(256)), s[r.Intn(len(s))], s[at] + 1, s[at] - 1}[r.Intn(11)]})
	switch r.Intn(5) {
	case 0:
		return s[:at] + s[at+1:]
	case 1:
		return s[:at] + b + s[at:]
	case 2:
		return s[:at]
	}
	return s[:at] + b + s[at+1:]
}

func TestP19Bodies(t *testing.T) {
	add, least := impl.Ins{Op: impl.OpAdd}, impl.Ins{Op: impl.OpConst, A: math.MinInt64}
	for _, many := range []int{0, 1, 2, 3, 119, 120, 121, 127, 128, 3000} {
		for _, i := range []impl.Ins{add, least, {Op: impl.OpLoad64, A: 4096}} {
			code := slices.Repeat([]impl.Ins{i}, many)
			s := bodyBinary(code)
			ok := many <= 120
			is(t, strconv.Itoa(many)+" instructions", all(checkBody(t, s), checkBody(t, s+"\x00"), checkBody(t, s+"\x06"), checkBody(t, s[:len(s)-1])), ok, false, false, false)
			if !ok {
				s = ""
			}
			is(t, strconv.Itoa(many)+" instructions", all(impl.BodyBytes(code) == s), true)
		}
	}
	is(t, "the longest body", all(int64(len(impl.BodyBytes(slices.Repeat([]impl.Ins{least}, 120))))), 1321)
	for _, c := range [][]impl.Ins{{{}}, {{Op: 41}}, {add, {Op: impl.OpAdd, A: 1}}, {{Op: impl.OpGet, A: 16}, add}, {add, add, {Op: -1}}, slices.Repeat([]impl.Ins{{}}, 100000)} {
		is(t, "an invalid instruction", all(impl.BodyBytes(c)), "")
	}
	three := []impl.Ins{{Op: impl.OpGet}, {Op: impl.OpConst, A: -2}, add}
	code, ok := impl.BodyOf(impl.BodyBytes(three))
	is(t, "the example", all(slices.Equal(code, three), ok, impl.BodyBytes(three)), true, true, "\x03\x02\x00\x01\x7e\x06")
	empty, ok := impl.BodyOf("\x00")
	is(t, "no instructions", all(len(empty) == 0, ok, impl.BodyBytes(nil), impl.BodyBytes([]impl.Ins{})), true, true, "\x00", "\x00")
	for _, s := range []string{"", "\x01", "\x00\x06", "\x02\x06", "\x01\x06\x06", "\x00\x00", "\x80\x00", "\x81\x00\x06", "\x80\x01\x06", "\x01\x00", "\x01\x29", "\x01\x06\x00", "\x79", "\xff\xff\xff\xff\xff\xff\xff\xff\x7f", "\xff\xff\xff\xff\xff\xff\xff\xff\xff\x01", "\xff\xff\xff\xff\xff\xff\xff\xff\x7f\x06", "\x80", "\x02\x06\x01", "\x02\x02\x10\x06", "\x01\x01\x80\x00"} {
		code, ok := impl.BodyOf(s)
		is(t, strconv.Quote(s), all(code == nil, ok, checkBody(t, s)), true, false, false)
	}
	r := rand.New(rand.NewSource(172))
	met := map[bool]int{}
	for range 300 {
		var code []impl.Ins
		for range r.Intn([]int{2, 6, 121}[r.Intn(3)]) {
			code = append(code, someIns(r))
		}
		s := impl.BodyBytes(code)
		is(t, "a body", all(s, checkBody(t, s)), bodyBinary(code), true)
		for range 10 {
			met[checkBody(t, changedBytes(r, s))]++
		}
	}
	is(t, "enough of both", all(met[true] > 300, met[false] > 1000), true, true)
}

// exampleModule is the module of the example of ModuleBytes.
func exampleModule() impl.Module {
	code := []impl.Ins{{Op: impl.OpGet}, {Op: impl.OpConst, A: -2}, {Op: impl.OpAdd}}
	return impl.Module{Pages: 1, Imports: []impl.Import{{Name: "log", Params: 1}}, Cores: []impl.Core{{Name: "run", Params: 1, Result: true, Code: code}}}
}

func TestP19ModuleExamples(t *testing.T) {
	m := exampleModule()
	s := impl.ModuleBytes(m)
	is(t, "the example of ModuleBytes", all(fmt.Sprintf("%x", s)), "00636f7201"+"010101"+"0207"+"01036c6f670100"+"0308"+"010372756e010001"+"0408"+"0106030200017e06")
	list, code := impl.SectionsOf(s)
	want := []impl.Section{{Id: 1, Bytes: "\x01"}, {Id: 2, Bytes: "\x01\x03log\x01\x00"}, {Id: 3, Bytes: "\x01\x03run\x01\x00\x01"}, {Id: 4, Bytes: "\x01\x06\x03\x02\x00\x01\x7e\x06"}}
	is(t, "the example of SectionsOf", all(alike(list, want), code, impl.SectionBytes(list)), true, impl.OK, s)
	found, code := impl.ModuleOf(s)
	is(t, "ModuleOf", all(alike(found, m), code), true, impl.OK)
	found, code = impl.ModuleOf(s[:len(s)-1])
	is(t, "the example of ModuleOf", all(alike(found, impl.Module{}), code), true, impl.ErrRead)
	longer, code := impl.WithOwn(s, 5, "note", "hello")
	is(t, "the example of WithOwn", all(longer, code), "", impl.ErrRange)
	longer, code = impl.WithOwn(s, 0, "", "hello")
	is(t, "the example of WithOwn", all(longer, code), "", impl.ErrRange)
	longer, code = impl.WithOwn(s, 4, "note", "hello")
	is(t, "WithOwn", all(longer, code), s+"\x00\x0a\x04notehello", impl.OK)
	found, code = impl.ModuleOf(longer)
	is(t, "ModuleOf", all(alike(found, m), code), true, impl.OK)
	plain, code := impl.StripOwn(longer)
	is(t, "the example of StripOwn", all(plain, code), s, impl.OK)
}

// checkModuleBinary checks everything that chapter 17 says of a module, which need not be well-formed.
func checkModuleBinary(t *testing.T, what string, m impl.Module) {
	t.Helper()
	s := impl.ModuleBytes(m)
	if !shapeModel(m) {
		is(t, what, all(s), "")
		return
	}
	is(t, what, all(s == moduleBinary(m), checkBinary(t, s)), true, impl.OK)
	found, code := impl.ModuleOf(s)
	plain, plainCode := impl.StripOwn(s)
	is(t, what, all(alike(found, m), impl.SameModule(found, m), code, plain == s, plainCode), true, true, impl.OK, true, impl.OK)
	for at := range int64(5) {
		longer, code := impl.WithOwn(s, at, "Own!~", "\x00\xff")
		found, moduleCode := impl.ModuleOf(longer)
		plain, plainCode := impl.StripOwn(longer)
		is(t, what, all(code, len(longer) == len(s)+10, alike(found, m), moduleCode, plain == s, plainCode), impl.OK, true, true, impl.OK, true, impl.OK)
		checkOwn(t, s, at, "x", "")
	}
	checkOwn(t, s, -1, "x", "")
	checkOwn(t, s, 5, "x", "")
}

func TestP19Modules(t *testing.T) {
	for i, m := range []impl.Module{{Pages: 1}, {Pages: 16}, {Pages: 1, Imports: []impl.Import{}, Cores: []impl.Core{{Name: "a", Code: []impl.Ins{}}}}, plainModule(), greatestModule(), exampleModule()} {
		is(t, strconv.Itoa(i), all(impl.ModuleBytes(m) != ""), true)
		checkModuleBinary(t, "module "+strconv.Itoa(i), m)
	}
	is(t, "the longest binary", all(int64(len(impl.ModuleBytes(greatestModule())))), 11472)
	checkModuleBinary(t, "the zero module", impl.Module{})
	for i, do := range moduleChanges {
		m := plainModule()
		do(&m)
		is(t, "change "+strconv.Itoa(i), all(impl.ModuleBytes(m)), "")
	}
	for i, do := range moduleDifferences {
		m := plainModule()
		do(&m)
		checkModuleBinary(t, "difference "+strconv.Itoa(i), m)
	}
	r := rand.New(rand.NewSource(173))
	for i := range 400 {
		checkModuleBinary(t, "made-up module "+strconv.Itoa(i), someModule(r))
	}
}

// TestP19CustomSections puts more and more custom sections into the binaries of modules, and takes them out again.
func TestP19CustomSections(t *testing.T) {
	r := rand.New(rand.NewSource(174))
	for range 200 {
		m := someModule(r)
		plain := impl.ModuleBytes(m)
		s := plain
		for many := int64(4); many < impl.MaxSections; many++ {
			name := strings.Repeat(string([]byte{byte(33 + r.Intn(94))}), 1+r.Intn(impl.MaxWord))
			bytes := pick(r, []string{"", "x", "\x00", modelHeader, plain, strings.Repeat("\xff", r.Intn(300)), "\x01\x01\x01"})
			at := r.Int63n(many + 1)
			if checkOwn(t, s, at, name, bytes) != impl.OK {
				break
			}
			s, _ = impl.WithOwn(s, at, name, bytes)
			list, _ := impl.SectionsOf(s)
			is(t, "the section", all(int64(len(list)), list[at]), many+1, impl.Section{Name: name, Bytes: bytes})
			found, code := impl.ModuleOf(s)
			stripped, stripCode := impl.StripOwn(s)
			is(t, "with custom sections", all(alike(found, m), code, stripped == plain, stripCode), true, impl.OK, true, impl.OK)
		}
		checkBinary(t, s)
	}
}

// TestP19Binaries has texts that are no binary, and binaries that are not those of a module.
func TestP19Binaries(t *testing.T) {
	m := exampleModule()
	good, c := impl.ModuleBytes(m), contents(m)
	for _, s := range []string{
		"", "\x00", "\x00cor", "\x00cor\x02", "\x00cor\x00", "\x01cor\x01", "\x00Cor\x01", "core\x01", "cor\x01", " " + modelHeader, "\x00\x00cor\x01", "\x00cor\x81\x00", modelHeader[:4], modelHeader[1:], good[:4], good[5:], "\x00cor\x02" + good[5:], // the header
		modelHeader + "\x01", modelHeader + "\x05\x00", modelHeader + "\xff\x00", modelHeader + "\x80\x00\x00", modelHeader + "\x01\x80\x00", modelHeader + "\x01\x01", modelHeader + "\x01\x02\x01", modelHeader + "\x01\xff\xff\xff\xff\xff\xff\xff\xff\x7f", modelHeader + "\x01\xff\xff\xff\xff\xff\xff\xff\xff\xff\x01", modelHeader + "\x01\x80", // a section
		modelHeader + "\x00\x00", modelHeader + "\x00\x01\x00", modelHeader + "\x00\x02\x00x", modelHeader + "\x00\x02\x02x", modelHeader + "\x00\x02\x01 ", modelHeader + "\x00\x02\x01\x7f", modelHeader + "\x00\x02\x01\x80", modelHeader + "\x00\x03\x81\x00x", modelHeader + "\x00\x01\x01", modelHeader + "\x00\x01\x01x", modelHeader + "\x00\x02\x01\x00", modelHeader + "\x00\x03\x02\xc3\xa9", // a custom section
		good + "\x00", good + "\x01", good + "x", good + good, good[:len(good)-1], good + "\x05\x00", good + "\x00\x00",
	} {
		is(t, strconv.Quote(s), all(checkBinary(t, s)), impl.ErrRead)
		list, code := impl.SectionsOf(s)
		plain, plainCode := impl.StripOwn(s)
		longer, longerCode := impl.WithOwn(s, -1, "", "")
		is(t, strconv.Quote(s), all(int64(len(list)), code, plain, plainCode, longer, longerCode), 0, impl.ErrRead, "", impl.ErrRead, "", impl.ErrRead)
	}
	for _, s := range []string{
		modelHeader, binaryOf(1, c[0]), binaryOf(1, c[0], 2, c[1], 3, c[2]), binaryOf(2, c[1], 3, c[2], 4, c[3]), binaryOf(1, c[0], 3, c[2], 4, c[3]), binaryOf(1, c[0], 2, c[1], 4, c[3]), // missing
		binaryOf(1, c[0], 1, c[0], 2, c[1], 3, c[2], 4, c[3]), binaryOf(1, c[0], 2, c[1], 2, c[1], 3, c[2], 4, c[3]), binaryOf(1, c[0], 2, c[1], 3, c[2], 3, c[2], 4, c[3]), binaryOf(1, c[0], 2, c[1], 3, c[2], 4, c[3], 4, c[3]), binaryOf(1, c[0], 2, c[1], 3, c[2], 4, c[3], 1, c[0]), good + good[5:], binaryOf(1, c[0], 2, "\x00", 2, c[1], 3, c[2], 4, c[3]), binaryOf(1, c[0], 2, c[1], 3, "\x00", 3, c[2], 4, c[3]), // twice
		binaryOf(1, ""), binaryOf(1, "", 2, "", 3, "", 4, ""), binaryOf(1, "", 2, c[1], 3, c[2], 4, c[3]), binaryOf(1, c[0], 2, "", 3, c[2], 4, c[3]), binaryOf(1, c[0], 2, c[1], 3, "", 4, c[3]), binaryOf(1, c[0], 2, c[1], 3, c[2], 4, ""), binaryOf(0, "\x01x", 1, c[0]), binaryOf(0, "\x01x"), // empty
	} {
		list, code := impl.SectionsOf(s)
		m, moduleCode := impl.ModuleOf(s)
		is(t, strconv.Quote(s), all(code, impl.SectionBytes(list) == s, alike(m, impl.Module{}), moduleCode, checkBinary(t, s)), impl.OK, true, true, impl.ErrRead, impl.ErrRead)
	}
	for i := range 24 {
		order := []int{1, 2, 3, 4}
		for k, n := 0, i; k < 4; k++ {
			j := k + n%(4-k)
			n /= 4 - k
			order[k], order[j] = order[j], order[k]
		}
		s := binaryOf(order[0], c[order[0]-1], order[1], c[order[1]-1], order[2], c[order[2]-1], order[3], c[order[3]-1])
		want := int64(impl.ErrRead)
		if slices.IsSorted(order) {
			want = impl.OK
		}
		is(t, fmt.Sprint(order), all(checkBinary(t, s)), want)
	}
}

// TestP19Contents has contents that are not those of a module.
func TestP19Contents(t *testing.T) {
	m := exampleModule()
	c := contents(m)
	lists := [4][]string{
		{"\x00", "\x11", "\x81\x00", "\x80\x01", "\x01\x00", "\x01\x01", "\xff", "\xff\xff\xff\xff\xff\xff\xff\xff\x7f", "\xff\xff\xff\xff\xff\xff\xff\xff\xff\x01"},
		{"\x01\x03log\x01\x02", "\x01\x03log\x01\xff", "\x01\x03log\x09\x00", "\x01\x03log\x81\x00\x00", "\x01\x03log\x01", "\x01\x03log", "\x01\x03lo", "\x01", "\x02\x03log\x01\x00", "\x00\x03log\x01\x00", "\x01\x03log\x01\x00\x00", "\x81\x00\x03log\x01\x00", "\x01\x00\x01\x00", "\x01\x03LOG\x01\x00", "\x01\x03l g\x01\x00", "\x01\x29" + strings.Repeat("a", 41) + "\x01\x00", "\x02\x03log\x01\x00\x03log\x01\x00", "\x01\x83\x00log\x01\x00", "\x0d" + strings.Repeat("\x01a\x00\x00", 13), "\xff\xff\xff\xff\xff\xff\xff\xff\x7f", "\x00\x00", "\x01\x03log\x01\x01\x00", "\x01\x7flog\x01\x00", "\x01\x03log\x01\x81\x00"},
		{"\x01\x03run\x01\x00\x02", "\x01\x03run\x01\x00\xff", "\x01\x03run\x09\x00\x01", "\x01\x03run\x01\x09\x01", "\x01\x03run\x81\x00\x00\x01", "\x01\x03run\x01\x80\x00\x01", "\x01\x03run\x01\x00", "\x01\x03run\x01", "\x01\x03run", "\x01", "\x02\x03run\x01\x00\x01", "\x00\x03run\x01\x00\x01", "\x00", "\x01\x03run\x01\x00\x01\x00", "\x81\x00\x03run\x01\x00\x01", "\x01\x00\x01\x00\x01", "\x01\x03Run\x01\x00\x01", "\x01\x03run\x01\x00\x81\x00", "\x02\x03run\x01\x00\x01\x03run\x01\x00\x01", "\x02\x01a\x01\x00\x01\x01b\x01\x00\x01", "\x09" + strings.Repeat("\x01a\x00\x00\x00", 9), "\xff\xff\xff\xff\xff\xff\xff\xff\x7f"},
		{"\x00", "\x01", "\x02\x06\x03\x02\x00\x01\x7e\x06", "\x00\x06\x03\x02\x00\x01\x7e\x06", "\x01\x06\x03\x02\x00\x01\x7e\x06\x00", "\x01\x07\x03\x02\x00\x01\x7e\x06", "\x01\x07\x03\x02\x00\x01\x7e\x06\x06", "\x01\x05\x03\x02\x00\x01\x7e", "\x01\x06\x02\x02\x00\x01\x7e\x06", "\x01\x06\x04\x02\x00\x01\x7e\x06", "\x81\x00\x06\x03\x02\x00\x01\x7e\x06", "\x01\x86\x00\x03\x02\x00\x01\x7e\x06", "\x01\x07\x83\x00\x02\x00\x01\x7e\x06", "\x01\x06\x03\x02\x10\x01\x7e\x06", "\x01\x06\x03\x02\x00\x01\x7e\x29", "\x01\x06\x03\x02\x00\x01\x7e\x00", "\x01\x00", "\x02\x00\x00", "\x01" + prefixed("\x79"+strings.Repeat("\x06", 121)), "\x01" + prefixed("\xff\xff\xff\xff\xff\xff\xff\xff\x7f\x06"), "\xff\xff\xff\xff\xff\xff\xff\xff\x7f"},
	}
	for i, list := range lists {
		for _, s := range list {
			changed := c
			changed[i] = s
			is(t, strconv.Quote(s), all(checkBinary(t, binaryOf(1, changed[0], 2, changed[1], 3, changed[2], 4, changed[3]))), impl.ErrRead)
		}
	}
	for i, list := range [4][]string{
		{"\x02", "\x10"}, {"\x00", "\x01\x03log\x01\x01", "\x01\x03log\x08\x00", "\x0c" + strings.Join(strings.SplitAfter("\x01a\x00\x00\x01b\x00\x00\x01c\x00\x00\x01d\x00\x00\x01e\x00\x00\x01f\x00\x00\x01g\x00\x00\x01h\x00\x00\x01i\x00\x00\x01j\x00\x00\x01k\x00\x00\x01l\x00\x00", "x"), "")}, {"\x01\x03run\x08\x08\x00", "\x01\x01/\x00\x00\x00"}, {"\x01\x01\x00", "\x01" + prefixed("\x78"+strings.Repeat("\x06", 120))},
	} {
		for _, s := range list {
			changed := c
			changed[i] = s
			is(t, strconv.Quote(s), all(checkBinary(t, binaryOf(1, changed[0], 2, changed[1], 3, changed[2], 4, changed[3]))), impl.OK)
		}
	}
}

// TestP19SectionBytes has sections of every kind, alone and among others.
func TestP19SectionBytes(t *testing.T) {
	check := func(what string, l []impl.Section) bool {
		want, ok := sectionsBinary(l)
		s := impl.SectionBytes(l)
		is(t, what, all(s == want, (s != "") == ok), true, true)
		if ok {
			list, code := impl.SectionsOf(s)
			is(t, what, all(alike(list, l), code), true, impl.OK)
			checkBinary(t, s)
		}
		return ok
	}
	is(t, "no sections", all(check("no sections", nil), check("no sections", []impl.Section{}), impl.SectionBytes(nil)), true, true, modelHeader)
	for _, id := range append(edges(), 3, 4, 5, 255, 256, 257) {
		for _, name := range []string{"", "x"} {
			x := impl.Section{Id: id, Name: name, Bytes: "b"}
			want := id == 0 && name == "x" || id >= 1 && id <= 4 && name == ""
			is(t, shown(x), all(check(shown(x), []impl.Section{x}), check(shown(x), []impl.Section{{Id: 1}, x, {Id: 1}})), want, want)
		}
	}
	for size := range 44 {
		name := strings.Repeat("~!aZ09.", 7)[:size]
		is(t, name, all(check(name, []impl.Section{{Name: name}})), size >= 1 && size <= 40)
		for at := range size {
			for _, b := range []byte{0, 9, 10, 31, 32, 33, 34, 64, 125, 126, 127, 128, 0xa1, 0xc3, 255} {
				changed := name[:at] + string([]byte{b}) + name[at+1:]
				is(t, strconv.Quote(changed), all(check(changed, []impl.Section{{Name: changed, Bytes: "\x00"}}), impl.SectionBytes([]impl.Section{{Name: changed}}) != ""), size <= 40 && b >= 33 && b <= 126, size <= 40 && b >= 33 && b <= 126)
			}
		}
	}
	for b := range 256 {
		name := string([]byte{byte(b)})
		is(t, strconv.Quote(name), all(check(name, []impl.Section{{Name: name}})), b >= 33 && b <= 126)
	}
	for _, name := range []string{"\u00e9", "a\u00e9", "\xc3", "\ufffd", "\u20ac", "a b", strings.Repeat("a", 1000000)} {
		is(t, strconv.Quote(clipped(name)), all(check("a name", []impl.Section{{Name: name}})), false)
	}
	for many := range 25 {
		is(t, strconv.Itoa(many), all(check("many", slices.Repeat([]impl.Section{{Id: 3, Bytes: "x"}}, many)), check("many", slices.Repeat([]impl.Section{{Name: "own"}}, many))), many <= 20, many <= 20)
	}
	is(t, "very many", all(check("very many", slices.Repeat([]impl.Section{{Id: 1}}, 3000))), false)
	s := binaryOf(slices.Repeat([]any{1, "\x01"}, 21)...)
	list, code := impl.SectionsOf(s)
	is(t, "21 sections", all(int64(len(list)), code, checkBinary(t, s)), 0, impl.ErrRead, impl.ErrRead)
}

// TestP19Limits has binaries of MaxBinary bytes and of one more.
func TestP19Limits(t *testing.T) {
	plain := impl.ModuleBytes(plainModule())
	// The section has an Id, a length of three bytes, and a name of five.
	room := impl.MaxBinary - len(plain) - 1 - 3 - 6
	s, code := impl.WithOwn(plain, 2, "large", strings.Repeat("x", room))
	is(t, "the greatest binary", all(int64(len(s)), code, checkBinary(t, s)), impl.MaxBinary, impl.OK, impl.OK)
	for _, at := range []int64{0, 2, 4} {
		is(t, "one byte more", all(checkOwn(t, plain, at, "large", strings.Repeat("x", room)), checkOwn(t, plain, at, "large", strings.Repeat("x", room+1)), checkOwn(t, plain, at, "larger", strings.Repeat("x", room)), checkOwn(t, plain, at, "larg", strings.Repeat("x", room+1)), checkOwn(t, plain, at, "x", strings.Repeat("x", 1000000))), impl.OK, impl.ErrMany, impl.ErrMany, impl.OK, impl.ErrMany)
	}
	is(t, "a full binary", all(checkOwn(t, s, 0, "x", ""), checkOwn(t, s, 5, "x", ""), checkOwn(t, s, 6, "x", ""), checkOwn(t, s, 0, "", "")), impl.ErrMany, impl.ErrMany, impl.ErrRange, impl.ErrRange)
	for _, more := range []string{"\x00", "\x01", s} {
		long := s + more
		found, code := impl.ModuleOf(long)
		stripped, stripCode := impl.StripOwn(long)
		list, listCode := impl.SectionsOf(long)
		is(t, "a binary that is too long", all(alike(found, impl.Module{}), code, stripped, stripCode, list == nil, listCode, checkOwn(t, long, -1, "", ""), checkBinary(t, long)), true, impl.ErrMany, "", impl.ErrMany, true, impl.ErrMany, impl.ErrMany, impl.ErrMany)
	}
	for _, text := range []string{strings.Repeat("x", impl.MaxBinary), strings.Repeat("\x00", impl.MaxBinary), modelHeader + strings.Repeat("\x01\x00", impl.MaxBinary)[:impl.MaxBinary-5], modelHeader + strings.Repeat("\xff", impl.MaxBinary-5)} {
		is(t, strconv.Quote(clipped(text)), all(checkBinary(t, text), checkBinary(t, text+"x"), checkBinary(t, strings.Repeat(text, 20))), impl.ErrRead, impl.ErrMany, impl.ErrMany)
	}
	for _, x := range []impl.Section{{Id: 2}, {Name: "large"}} {
		for size := impl.MaxBinary - 20; size < impl.MaxBinary+5; size++ {
			x.Bytes = strings.Repeat("x", size)
			want, _ := sectionsBinary([]impl.Section{x})
			is(t, shown(x.Id, size), all(impl.SectionBytes([]impl.Section{x}) == want), true)
			half := impl.Section{Id: 1, Bytes: strings.Repeat("y", size/2)}
			list := []impl.Section{half, {Id: 3, Bytes: strings.Repeat("y", size-size/2-6)}}
			want, _ = sectionsBinary(list)
			is(t, shown(x.Id, size), all(impl.SectionBytes(list) == want), true)
		}
	}
	many := plain
	for i := range int64(16) {
		many, _ = impl.WithOwn(many, i, "x", "")
	}
	is(t, "one section more", all(checkBinary(t, many), checkOwn(t, many, 0, "x", ""), checkOwn(t, many, 20, "x", ""), checkOwn(t, many, 21, "x", ""), checkOwn(t, many, 0, " ", "")), impl.OK, impl.ErrMany, impl.ErrMany, impl.ErrRange, impl.ErrRange)
}

// TestP19WithOwn has names and places at and beside the limits, and the order of the errors.
func TestP19WithOwn(t *testing.T) {
	s := impl.ModuleBytes(exampleModule())
	for at := int64(-2); at < 8; at++ {
		for _, binary := range []string{s, modelHeader, binaryOf(1, "\x01"), "", "x", s + "\x00", strings.Repeat("x", impl.MaxBinary+1)} {
			for _, name := range []string{"x", "", " ", "\x21", "\x7e", "\x7f", "note!", strings.Repeat("a", 40), strings.Repeat("a", 41), "a b", "\xff", "A", "\u00e9"} {
				for _, bytes := range []string{"", "\x00", "hello", strings.Repeat("x", 40000)} {
					checkOwn(t, binary, at, name, bytes)
				}
			}
		}
	}
	for _, n := range edges() {
		want := int64(impl.ErrRange)
		if n >= 0 && n <= 4 {
			want = impl.OK
		}
		is(t, shown(n), all(checkOwn(t, s, n, "x", "y")), want)
	}
	is(t, "the order of the errors", all(checkOwn(t, strings.Repeat("x", 30001), 9, "", ""), checkOwn(t, s[1:], 9, "", ""), checkOwn(t, s, 9, "x", strings.Repeat("x", 30000)), checkOwn(t, s, 0, "", strings.Repeat("x", 30000)), checkOwn(t, s, 0, "x", strings.Repeat("x", 30000))), impl.ErrMany, impl.ErrRead, impl.ErrRange, impl.ErrRange, impl.ErrMany)
}

// TestP19Model has binaries that are changed a little.
func TestP19Model(t *testing.T) {
	r := rand.New(rand.NewSource(175))
	met := map[int64]int{}
	for range 400 {
		s := impl.ModuleBytes(someModule(r))
		for range r.Intn(4) {
			list, _ := impl.SectionsOf(s)
			s, _ = impl.WithOwn(s, r.Int63n(int64(len(list)+1)), pick(r, []string{"x", "note", "~"}), pick(r, []string{"", "\x00", "abc"}))
		}
		for range 15 {
			met[checkBinary(t, changedBytes(r, s))]++
		}
	}
	is(t, "enough of both", all(met[impl.OK] > 500, met[impl.ErrRead] > 500), true, true)
	small, _ := impl.WithOwn(impl.ModuleBytes(exampleModule()), 1, "x", "y")
	for at := range len(small) {
		for b := range 256 {
			checkBinary(t, small[:at]+string([]byte{byte(b)})+small[at+1:])
		}
	}
	for _, s := range changes(small, "\x00\x01\x02\x03\x04\x05 x\x7f") {
		checkBinary(t, s)
	}
}

// binaryCall are the arguments of the functions of chapter 17.
type binaryCall struct {
	I           impl.Ins
	Code        []impl.Ins
	M           impl.Module
	List        []impl.Section
	S           string
	At          int64
	Name, Bytes string
}

func TestP1Binary(t *testing.T) {
	call := func(c binaryCall) []any {
		i, many, insOk := impl.InsOf(c.S)
		body, bodyOk := impl.BodyOf(c.S)
		list, code := impl.SectionsOf(c.S)
		m, moduleCode := impl.ModuleOf(c.S)
		longer, longerCode := impl.WithOwn(c.S, c.At, c.Name, c.Bytes)
		plain, plainCode := impl.StripOwn(c.S)
		return all(i, many, insOk, body, bodyOk, list, code, m, moduleCode, longer, longerCode, plain, plainCode, impl.InsBytes(c.I), impl.BodyBytes(c.Code), impl.ModuleBytes(c.M), impl.SectionBytes(c.List))
	}
	r := rand.New(rand.NewSource(176))
	s := impl.ModuleBytes(plainModule())
	modules := []impl.Module{{}, {Pages: 1}, plainModule(), exampleModule(), {Pages: 1, Cores: make([]impl.Core, 9)}}
	for range 20 {
		modules = append(modules, someModule(r))
	}
	texts := []string{"", "\x00", "\x06", "\x01\x7e", impl.BodyBytes(plainModule().Cores[0].Code), modelHeader, s, s + "x", s[:20], strings.Repeat("\x00", impl.MaxBinary+1), impl.ModuleBytes(greatestModule())}
	numbers := edges()
	for i, m := range modules {
		for j, text := range texts {
			list, _ := impl.SectionsOf(impl.ModuleBytes(m))
			list = append(list, impl.Section{Id: int64(j - 3), Name: pick(r, []string{"", "x", " "})})
			var code []impl.Ins
			if len(m.Cores) > 0 {
				code = m.Cores[0].Code
			}
			at := numbers[(i+j)%len(numbers)]
			pure(t, shown(i, j), binaryCall{impl.Ins{Op: int64(i + j), A: at}, code, m, list, text, at, pick(r, []string{"", "x", "note"}), pick(r, texts)}, call)
			pure(t, shown(i, j), binaryCall{impl.Ins{Op: int64(j), A: 1}, nil, m, nil, impl.ModuleBytes(m), int64(j % 6), "x", text}, call)
		}
	}
	var all []any
	for range 20 {
		list, _ := impl.SectionsOf(s)
		m, _ := impl.ModuleOf(s)
		body, _ := impl.BodyOf("\x02\x06\x06")
		all = append(all, list, m, body)
	}
	apart(t, "answers of the same calls", all...)
}
