package tests

import (
	"fmt"
	"math"
	"math/big"
	"math/rand"
	"regexp"
	"slices"
	"strconv"
	"strings"
	"testing"

	"loop.example/g00901/impl"
)

// opcodeTable has a row for each opcode, in numeric order: its mnemonic, and its least and greatest operand if it has one.
const opcodeTable = "const -9223372036854775808 9223372036854775807;get 0 15;set 0 15;tee 0 15;drop;add;sub;mul;div;rem;and;or;xor;shl;shr;eq;ne;lt;gt;le;ge;eqz;select;" +
	"block 0 1;loop 0 1;if 0 1;else;end;br 0 6;brif 0 6;return;call 0 7;host 0 11;load8 0 4096;load32 0 4096;load64 0 4096;store8 0 4096;store32 0 4096;store64 0 4096;trap"

// opcode is a row of the table.
type opcode struct {
	word      string
	operand   bool
	low, high int64
}

var opcodes = func() []opcode {
	var list []opcode
	for _, row := range strings.Split(opcodeTable, ";") {
		fields := strings.Fields(row)
		o := opcode{word: fields[0], operand: len(fields) > 1}
		if o.operand {
			o.low, _ = strconv.ParseInt(fields[1], 10, 64)
			o.high, _ = strconv.ParseInt(fields[2], 10, 64)
		}
		list = append(list, o)
	}
	return list
}()

// opcodeIn returns the row of an opcode.
func opcodeIn(op int64) (opcode, bool) {
	if op < 1 || op > 40 {
		return opcode{}, false
	}
	return opcodes[op-1], true
}

// insModel returns the text of an instruction if it is valid.
func insModel(i impl.Ins) (string, bool) {
	o, ok := opcodeIn(i.Op)
	switch {
	case !ok || i.A < o.low || i.A > o.high:
		return "", false
	case o.operand:
		return fmt.Sprintf("%s %d", o.word, i.A), true
	}
	return o.word, true
}

var modelIns = regexp.MustCompile(`^([a-z0-9]+)(?: (0|-?[1-9][0-9]*))?$`)

// readInsModel reads the text of an instruction.
func readInsModel(s string) (impl.Ins, bool) {
	found := modelIns.FindStringSubmatch(s)
	if found == nil {
		return impl.Ins{}, false
	}
	op := slices.IndexFunc(opcodes, func(o opcode) bool { return o.word == found[1] })
	if op < 0 || opcodes[op].operand != (found[2] != "") {
		return impl.Ins{}, false
	}
	a := new(big.Int)
	if found[2] != "" {
		a.SetString(found[2], 10)
	}
	if a.Cmp(big.NewInt(opcodes[op].low)) < 0 || a.Cmp(big.NewInt(opcodes[op].high)) > 0 {
		return impl.Ins{}, false
	}
	return impl.Ins{Op: int64(op + 1), A: a.Int64()}, true
}

// clipped is the start of a text that can be long.
func clipped(s string) string {
	return s[:min(len(s), 300)]
}

// checkIns compares what the program says of an instruction with the model.
func checkIns(t *testing.T, i impl.Ins) {
	t.Helper()
	text, ok := insModel(i)
	is(t, shown(i), all(impl.InsOk(i), impl.InsText(i)), ok, text)
	if ok {
		x, ok := impl.ReadIns(text)
		is(t, "ReadIns of "+text, all(x, ok), i, true)
	}
}

// checkReadIns compares what the program reads in a text with the model.
func checkReadIns(t *testing.T, s string) {
	t.Helper()
	x, ok := impl.ReadIns(s)
	want, wantOk := readInsModel(s)
	is(t, "ReadIns of "+strconv.Quote(clipped(s)), all(x, ok), want, wantOk)
	if ok {
		is(t, "InsText of "+shown(x), all(impl.InsText(x)), s)
	}
}

var modelWord = regexp.MustCompile(`^[a-z0-9./-]{1,40}$`)

// areWords reports whether all names are valid and different.
func areWords(names []string) bool {
	for i, s := range names {
		if !modelWord.MatchString(s) || slices.Contains(names[:i], s) {
			return false
		}
	}
	return true
}

// shapeModel reports whether a module is well-formed.
func shapeModel(m impl.Module) bool {
	between := func(n, low, high int64) bool { return low <= n && n <= high }
	ok := between(m.Pages, 1, 16) && len(m.Imports) <= 12 && len(m.Cores) <= 8
	var imports, cores []string
	for _, x := range m.Imports {
		imports = append(imports, x.Name)
		ok = ok && between(x.Params, 0, 8)
	}
	for _, c := range m.Cores {
		cores = append(cores, c.Name)
		ok = ok && between(c.Params, 0, 8) && between(c.Locals, 0, 8) && len(c.Code) <= 120
		for _, i := range c.Code {
			_, fine := insModel(i)
			ok = ok && fine
		}
	}
	return ok && areWords(imports) && areWords(cores)
}

// moduleSource is the text of a well-formed module.
func moduleSource(m impl.Module) string {
	bit := map[bool]int{true: 1}
	text := fmt.Sprintf("module %d\n", m.Pages)
	for _, x := range m.Imports {
		text += fmt.Sprintf("import %s %d %d\n", x.Name, x.Params, bit[x.Result])
	}
	for _, c := range m.Cores {
		text += fmt.Sprintf("core %s %d %d %d\n", c.Name, c.Params, c.Locals, bit[c.Result])
		for _, i := range c.Code {
			line, _ := insModel(i)
			text += line + "\n"
		}
	}
	return text
}

var (
	modelPages  = regexp.MustCompile(`^module ([1-9][0-9]?)$`)
	modelImport = regexp.MustCompile(`^import ([a-z0-9./-]+) ([0-8]) ([01])$`)
	modelCore   = regexp.MustCompile(`^core ([a-z0-9./-]+) ([0-8]) ([0-8]) ([01])$`)
)

// readModuleModel reads the text of a module.
func readModuleModel(s string) (impl.Module, int64) {
	if len(s) > 30000 {
		return impl.Module{}, impl.ErrMany
	}
	number := func(s string) int64 { n, _ := strconv.Atoi(s); return int64(n) }
	lines := strings.Split(s, "\n")
	head := modelPages.FindStringSubmatch(lines[0])
	if head == nil || lines[len(lines)-1] != "" {
		return impl.Module{}, impl.ErrParse
	}
	m := impl.Module{Pages: number(head[1])}
	for _, line := range lines[1 : len(lines)-1] {
		last := len(m.Cores) - 1
		i, isIns := readInsModel(line)
		x, c := modelImport.FindStringSubmatch(line), modelCore.FindStringSubmatch(line)
		switch {
		case x != nil && last < 0:
			m.Imports = append(m.Imports, impl.Import{Name: x[1], Params: number(x[2]), Result: x[3] == "1"})
		case c != nil:
			m.Cores = append(m.Cores, impl.Core{Name: c[1], Params: number(c[2]), Locals: number(c[3]), Result: c[4] == "1"})
		case isIns && last >= 0:
			m.Cores[last].Code = append(m.Cores[last].Code, i)
		default:
			return impl.Module{}, impl.ErrParse
		}
	}
	if !shapeModel(m) {
		return impl.Module{}, impl.ErrParse
	}
	return m, impl.OK
}

// checkReadModule compares what the program reads in a text with the model, and returns the code.
func checkReadModule(t *testing.T, s string) int64 {
	t.Helper()
	what := "ReadModule of " + strconv.Quote(clipped(s))
	m, code := impl.ReadModule(s)
	want, wantCode := readModuleModel(s)
	is(t, what, all(alike(m, want), impl.SameModule(m, want), code), true, true, wantCode)
	if code == impl.OK {
		is(t, what, all(impl.ModuleShape(m), impl.ModuleText(m) == s), true, true)
	}
	return code
}

// checkModule checks everything that chapter 15 says of a module, which need not be well-formed.
func checkModule(t *testing.T, what string, m impl.Module) {
	t.Helper()
	ok, source := shapeModel(m), ""
	is(t, what, all(impl.ModuleShape(m)), ok)
	if ok {
		source = moduleSource(m)
	}
	is(t, what, all(impl.ModuleText(m), impl.SameModule(m, roomy(m))), source, true)
	if ok {
		found, code := impl.ReadModule(source)
		is(t, what, all(alike(found, m), impl.SameModule(found, m), impl.SameModule(m, found), code), true, true, true, impl.OK)
	}
	seen := map[string]bool{}
	for i, c := range m.Cores {
		if !seen[c.Name] && len(seen) < 20 {
			k, found := impl.CoreOf(m, c.Name)
			is(t, what+", core "+c.Name, all(k, found), meantIndex(i, ok), ok)
		}
		seen[c.Name] = true
	}
	seen = map[string]bool{}
	for i, x := range m.Imports {
		if !seen[x.Name] && len(seen) < 20 {
			k, found := impl.ImportOf(m, x.Name)
			is(t, what+", import "+x.Name, all(k, found), meantIndex(i, ok), ok)
		}
		seen[x.Name] = true
	}
}

// meantIndex is the index that is found, which is 0 if nothing is.
func meantIndex(i int, ok bool) int64 {
	if !ok {
		return 0
	}
	return int64(i)
}

// someWord makes up a name of a core or import.
func someWord(r *rand.Rand) string {
	size := 1 + r.Intn(4)
	if r.Intn(4) == 0 {
		size = 1 + r.Intn(impl.MaxWord)
	}
	word := ""
	for range size {
		i := r.Intn(39)
		word += "abcdefghijklmnopqrstuvwxyz0123456789-./"[i : i+1]
	}
	return word
}

// someWords makes up different names, at most so many.
func someWords(r *rand.Rand, most int) []string {
	var list []string
	for range r.Intn(most + 1) {
		if word := someWord(r); !slices.Contains(list, word) {
			list = append(list, word)
		}
	}
	return list
}

// someIns makes up a valid instruction.
func someIns(r *rand.Rand) impl.Ins {
	op := 1 + r.Int63n(40)
	o, _ := opcodeIn(op)
	switch {
	case !o.operand:
		return impl.Ins{Op: op}
	case r.Intn(4) == 0:
		return impl.Ins{Op: op, A: []int64{o.low, o.high}[r.Intn(2)]}
	case op == impl.OpConst && r.Intn(2) == 0:
		return impl.Ins{Op: op, A: r.Int63n(200) - 100}
	case op == impl.OpConst:
		return impl.Ins{Op: op, A: int64(r.Uint64())}
	}
	return impl.Ins{Op: op, A: r.Int63n(o.high + 1)}
}

// someModule makes up a well-formed module.
func someModule(r *rand.Rand) impl.Module {
	m := impl.Module{Pages: 1 + r.Int63n(impl.MaxPages)}
	for _, name := range someWords(r, impl.MaxImports) {
		m.Imports = append(m.Imports, impl.Import{Name: name, Params: r.Int63n(impl.MaxCoreArg + 1), Result: r.Intn(2) == 0})
	}
	for _, name := range someWords(r, impl.MaxCores) {
		c := impl.Core{Name: name, Params: r.Int63n(impl.MaxCoreArg + 1), Locals: r.Int63n(impl.MaxLocals + 1), Result: r.Intn(2) == 0}
		for range r.Intn([]int{1, 6, impl.MaxCode + 1}[r.Intn(3)]) {
			c.Code = append(c.Code, someIns(r))
		}
		m.Cores = append(m.Cores, c)
	}
	return m
}

// greatestModule has as much of everything as a module can have, and the longest text.
func greatestModule() impl.Module {
	long := func(i int) string { return strings.Repeat("z", impl.MaxWord-2) + strconv.Itoa(10+i) }
	m := impl.Module{Pages: impl.MaxPages}
	for i := range impl.MaxImports {
		m.Imports = append(m.Imports, impl.Import{Name: long(i), Params: impl.MaxCoreArg, Result: true})
	}
	for i := range impl.MaxCores {
		code := slices.Repeat([]impl.Ins{{Op: impl.OpConst, A: math.MinInt64}}, impl.MaxCode)
		m.Cores = append(m.Cores, impl.Core{Name: long(i), Params: impl.MaxCoreArg, Locals: impl.MaxLocals, Result: true, Code: code})
	}
	return m
}

// plainModule is a small well-formed module, in which every field can be changed.
func plainModule() impl.Module {
	code := []impl.Ins{{Op: impl.OpGet, A: 1}, {Op: impl.OpConst, A: -5}, {Op: impl.OpAdd}}
	return impl.Module{Pages: 2, Imports: []impl.Import{{Name: "host/log", Params: 1}, {Name: "host/get", Result: true}}, Cores: []impl.Core{{Name: "run", Params: 2, Locals: 1, Result: true, Code: code}, {Name: "two"}}}
}

func TestP17CodeConstants(t *testing.T) {
	is(t, "limits", all(int64(impl.MaxCode), int64(impl.MaxLocals), int64(impl.MaxCores), int64(impl.MaxPages), int64(impl.PageSize), int64(impl.MaxCoreArg), int64(impl.MaxImports), int64(impl.MaxWord), int64(impl.MaxSource)), 120, 8, 8, 16, 256, 8, 12, 40, 30000)
	for i, op := range []int64{
		impl.OpConst, impl.OpGet, impl.OpSet, impl.OpTee, impl.OpDrop, impl.OpAdd, impl.OpSub, impl.OpMul, impl.OpDiv, impl.OpRem, impl.OpAnd, impl.OpOr, impl.OpXor, impl.OpShl, impl.OpShr, impl.OpEq, impl.OpNe, impl.OpLt, impl.OpGt, impl.OpLe,
		impl.OpGe, impl.OpEqz, impl.OpSelect, impl.OpBlock, impl.OpLoop, impl.OpIf, impl.OpElse, impl.OpEnd, impl.OpBr, impl.OpBrIf, impl.OpReturn, impl.OpCall, impl.OpHost, impl.OpLoad8, impl.OpLoad32, impl.OpLoad64, impl.OpStore8, impl.OpStore32, impl.OpStore64, impl.OpTrap,
	} {
		is(t, opcodes[i].word, all(op, impl.OpWord(op)), i+1, opcodes[i].word)
	}
	is(t, "rows of the table", all(int64(len(opcodes))), 40)
}

func TestP17OpWord(t *testing.T) {
	for _, op := range append(edges(), 39, 40, 41, 42, 1<<32+1, math.MinInt64+1) {
		o, _ := opcodeIn(op)
		is(t, "OpWord of "+strconv.FormatInt(op, 10), all(impl.OpWord(op)), o.word)
	}
}

// TestP17Instructions has every opcode, and numbers that are none, with operands at and beside all limits.
func TestP17Instructions(t *testing.T) {
	operands := edges()
	for _, o := range opcodes {
		operands = append(operands, o.low, o.low-1, o.high, o.high+1)
	}
	for op := int64(-1); op <= 42; op++ {
		for _, a := range operands {
			checkIns(t, impl.Ins{Op: op, A: a})
		}
	}
	for _, op := range edges() {
		for _, a := range []int64{0, 1, -1, math.MaxInt64, math.MinInt64} {
			checkIns(t, impl.Ins{Op: op, A: a})
		}
	}
	for op := int64(1); op <= 40; op++ {
		o, _ := opcodeIn(op)
		is(t, o.word, all(impl.InsOk(impl.Ins{Op: op, A: o.low}), impl.InsOk(impl.Ins{Op: op, A: o.high})), true, true)
		if op != impl.OpConst {
			is(t, o.word, all(impl.InsOk(impl.Ins{Op: op, A: o.low - 1}), impl.InsOk(impl.Ins{Op: op, A: o.high + 1})), false, false)
		}
	}
	zero(t, "no opcode", impl.InsOk(impl.Ins{}), impl.InsOk(impl.Ins{Op: 41}), impl.InsText(impl.Ins{}), impl.InsText(impl.Ins{Op: 41}))
	is(t, "the example", all(impl.InsText(impl.Ins{Op: impl.OpConst, A: math.MinInt64})), "const -9223372036854775808")
}

func TestP17ReadIns(t *testing.T) {
	t.Parallel()
	for _, s := range []string{"const 01", "add 0", "", " ", "const", "const ", "add ", " add", "ADD", "Add", "addd", "ad", "add\n", "add\r", "const 1\n", "const\t1", "const  1", "const 1 ", " const 1", "const 1 1", "const 1 x", "const x", "const 0x1", "const 1e1", "const 1_0", "const --1", "const 1-", "const -", "const +", "const +0", "const -0", "const +1", "const -01", "const 00", "const 9223372036854775808", "const -9223372036854775809", "const 18446744073709551615", "const 18446744073709551616", "const 99999999999999999999999999", "const -99999999999999999999999999", "const 1.0", "const \xff", "const \u0661", "get", "get -1", "get 16", "get 00", "block", "block 2", "br 7", "call 8", "host 12", "load8 4097", "store64 4097", "store64 -1", "load16 1", "brif", "br if 1", "module 1", "import a 0 0", "core a 0 0 0", "0", "1 1", "unit"} {
		x, ok := impl.ReadIns(s)
		is(t, "ReadIns of "+strconv.Quote(s), all(x, ok), impl.Ins{}, false)
		checkReadIns(t, s)
	}
	for _, o := range opcodes {
		for _, rest := range []string{"", " ", "  ", " 0", "  0", " 0 ", " 1", " 2", "1", " -0", " +0", " -1", " 00", " 01", " 6", " 7", " 8", " 9", " 11", " 12", " 15", " 16", " 4096", " 4097", " 9223372036854775807", " 9223372036854775808", " -9223372036854775808", " -9223372036854775809", " 4294967296", " 1 1", " x", "\n", " 0\n", "\x00", " 0\x00"} {
			checkReadIns(t, o.word+rest)
			checkReadIns(t, " "+o.word+rest)
			checkReadIns(t, strings.ToUpper(o.word)+rest)
		}
	}
	r := rand.New(rand.NewSource(151))
	for range 300 {
		text, _ := insModel(someIns(r))
		for _, s := range changes(text, " -+0159azbx8\n\x00") {
			checkReadIns(t, s)
		}
	}
	for _, s := range []string{strings.Repeat("9", 1000000), strings.Repeat(" ", 1000000), "const " + strings.Repeat("0", 1000000), "const -" + strings.Repeat("1", 1000000), "add" + strings.Repeat("d", 1000000)} {
		checkReadIns(t, s)
	}
}

// TestP17WordOk has every byte at every place of names of many lengths.
func TestP17WordOk(t *testing.T) {
	for size := range 44 {
		good := strings.Repeat("a.b/c-9z0", 5)[:size]
		is(t, strconv.Itoa(size)+" bytes", all(impl.WordOk(good)), size >= 1 && size <= 40)
		for at := range size {
			for b := range 256 {
				s := good[:at] + string([]byte{byte(b)}) + good[at+1:]
				if impl.WordOk(s) != modelWord.MatchString(s) {
					t.Errorf("WordOk(%q) is %v", s, impl.WordOk(s))
				}
			}
		}
	}
	for _, s := range []string{"", ",", ":", "`", "{", "A", "Z", "_", "@", " ", "a ", " a", "a,b", "a:b", "a`", "{a", "\x00", "\xe9", "\u00e9", "a\n", strings.Repeat("a", 41), strings.Repeat("a", 1000000)} {
		is(t, strconv.Quote(clipped(s)), all(impl.WordOk(s)), false)
	}
	for _, s := range []string{"a", "z", "0", "9", "-", ".", "/", "--", "..", "//", "-a-", "1a", strings.Repeat("/", 40), "host/log"} {
		is(t, s, all(impl.WordOk(s)), true)
	}
}

// moduleChanges change a plain module so that it is not well-formed.
var moduleChanges = []func(m *impl.Module){
	func(m *impl.Module) { m.Pages = 0 }, func(m *impl.Module) { m.Pages = 17 }, func(m *impl.Module) { m.Pages = -1 }, func(m *impl.Module) { m.Pages = math.MaxInt64 }, func(m *impl.Module) { m.Pages = math.MinInt64 }, func(m *impl.Module) { m.Pages += 1 << 32 },
	func(m *impl.Module) { m.Imports[0].Name = "" }, func(m *impl.Module) { m.Imports[1].Name = "A" }, func(m *impl.Module) { m.Imports[0].Name = strings.Repeat("a", 41) }, func(m *impl.Module) { m.Imports[1].Name = m.Imports[0].Name },
	func(m *impl.Module) { m.Imports[1].Params = 9 }, func(m *impl.Module) { m.Imports[0].Params = -1 }, func(m *impl.Module) { m.Imports[0].Params = math.MaxInt64 }, func(m *impl.Module) { m.Imports[1].Params = math.MinInt64 }, func(m *impl.Module) { m.Imports[1].Params = 1 << 32 },
	func(m *impl.Module) { m.Cores[1].Name = "" }, func(m *impl.Module) { m.Cores[0].Name = "a b" }, func(m *impl.Module) { m.Cores[1].Name = strings.Repeat("a", 41) }, func(m *impl.Module) { m.Cores[1].Name = m.Cores[0].Name },
	func(m *impl.Module) { m.Cores[1].Params = 9 }, func(m *impl.Module) { m.Cores[0].Params = -1 }, func(m *impl.Module) { m.Cores[0].Params = math.MaxInt64 }, func(m *impl.Module) { m.Cores[1].Params = math.MinInt64 },
	func(m *impl.Module) { m.Cores[1].Locals = 9 }, func(m *impl.Module) { m.Cores[0].Locals = -1 }, func(m *impl.Module) { m.Cores[0].Locals = math.MaxInt64 }, func(m *impl.Module) { m.Cores[1].Locals = math.MinInt64 }, func(m *impl.Module) { m.Cores[1].Locals = 1 << 32 },
	func(m *impl.Module) { m.Cores[0].Code[0] = impl.Ins{} }, func(m *impl.Module) { m.Cores[0].Code[2] = impl.Ins{Op: 41} }, func(m *impl.Module) { m.Cores[0].Code[2].A = 1 }, func(m *impl.Module) { m.Cores[0].Code[0].A = 16 }, func(m *impl.Module) { m.Cores[0].Code[0].A = math.MinInt64 }, func(m *impl.Module) { m.Cores[1].Code = []impl.Ins{{Op: math.MaxInt64}} },
	func(m *impl.Module) { m.Cores[1].Code = slices.Repeat([]impl.Ins{{Op: impl.OpAdd}}, 121) }, func(m *impl.Module) { m.Cores[0].Code = slices.Repeat([]impl.Ins{{Op: impl.OpAdd}}, 100000) },
	func(m *impl.Module) { m.Imports = slices.Repeat([]impl.Import{{Name: "a"}}, 100000) }, func(m *impl.Module) { m.Cores = slices.Repeat([]impl.Core{{Name: "a"}}, 100000) },
}

func TestP17ModuleShape(t *testing.T) {
	for _, m := range []impl.Module{{Pages: 1}, {Pages: 16}, {Pages: 1, Imports: []impl.Import{}, Cores: []impl.Core{}}, plainModule(), greatestModule()} {
		is(t, shown(len(impl.ModuleText(m))), all(impl.ModuleShape(m)), true)
		checkModule(t, "a well-formed module", m)
	}
	for i, do := range moduleChanges {
		m := plainModule()
		do(&m)
		is(t, "change "+strconv.Itoa(i), all(impl.ModuleShape(m), impl.ModuleText(m)), false, "")
		checkModule(t, "change "+strconv.Itoa(i), m)
	}
	checkModule(t, "the zero module", impl.Module{})
	one := greatestModule()
	one.Imports = append(one.Imports, impl.Import{Name: "one"})
	checkModule(t, "one import more", one)
	one = greatestModule()
	one.Cores = append(one.Cores, impl.Core{Name: "one"})
	checkModule(t, "one core more", one)
	for k := range impl.MaxCores {
		one = greatestModule()
		one.Cores[k].Code = append(one.Cores[k].Code, impl.Ins{Op: impl.OpAdd})
		checkModule(t, "one instruction more", one)
	}
	for pages := int64(-1); pages <= 18; pages++ {
		is(t, strconv.FormatInt(pages, 10)+" pages", all(impl.ModuleShape(impl.Module{Pages: pages})), pages >= 1 && pages <= 16)
	}
}

// TestP17Counts has all small numbers of parameters and locals.
func TestP17Counts(t *testing.T) {
	for params := int64(-2); params < 12; params++ {
		checkModule(t, "import parameters", impl.Module{Pages: 1, Imports: []impl.Import{{Name: "a", Params: params}}})
		for locals := int64(-2); locals < 12; locals++ {
			m := impl.Module{Pages: 1, Cores: []impl.Core{{Name: "a", Params: params, Locals: locals}}}
			is(t, shown(params, locals), all(impl.ModuleShape(m)), 0 <= params && params <= 8 && 0 <= locals && locals <= 8)
			checkModule(t, "parameters and locals", m)
		}
	}
}

// TestP17SameNames has names that occur twice, which they may among imports and cores together.
func TestP17SameNames(t *testing.T) {
	m := impl.Module{Pages: 1, Imports: []impl.Import{{Name: "a"}, {Name: "b"}}, Cores: []impl.Core{{Name: "b"}, {Name: "a"}}}
	checkModule(t, "an import and a core", m)
	core, ok := impl.CoreOf(m, "a")
	x, found := impl.ImportOf(m, "a")
	is(t, "an import and a core of one name", all(impl.ModuleShape(m), core, ok, x, found), true, 1, true, 0, true)
	for i := range impl.MaxImports {
		for j := range i {
			m := greatestModule()
			m.Imports[i].Name = m.Imports[j].Name
			is(t, "two imports", all(impl.ModuleShape(m), impl.ModuleText(m)), false, "")
			m = greatestModule()
			if i < impl.MaxCores {
				m.Cores[i].Name = m.Cores[j].Name
				is(t, "two cores", all(impl.ModuleShape(m), impl.ModuleText(m)), false, "")
			}
		}
	}
}

func TestP17CoreOf(t *testing.T) {
	m := plainModule()
	for _, c := range []struct {
		name           string
		core, imported int64
		isCore, isIt   bool
	}{{"run", 0, 0, true, false}, {"two", 1, 0, true, false}, {"host/log", 0, 0, false, true}, {"host/get", 0, 1, false, true}, {"", 0, 0, false, false}, {"ru", 0, 0, false, false}, {"run ", 0, 0, false, false}, {"RUN", 0, 0, false, false}, {strings.Repeat("a", 100), 0, 0, false, false}} {
		core, ok := impl.CoreOf(m, c.name)
		imported, isIt := impl.ImportOf(m, c.name)
		is(t, c.name, all(core, ok, imported, isIt), c.core, c.isCore, c.imported, c.isIt)
	}
	for i, do := range moduleChanges {
		m := plainModule()
		do(&m)
		for _, name := range []string{"run", "two", "host/log", "host/get", "", "a", "A"} {
			core, ok := impl.CoreOf(m, name)
			imported, isIt := impl.ImportOf(m, name)
			zero(t, "change "+strconv.Itoa(i)+", "+name, core, ok, imported, isIt)
		}
	}
	m = impl.Module{Pages: 1, Imports: []impl.Import{{Name: ""}}, Cores: []impl.Core{{Name: ""}}}
	core, ok := impl.CoreOf(m, "")
	imported, isIt := impl.ImportOf(m, "")
	zero(t, "an empty name", core, ok, imported, isIt)
}

// moduleDifferences change one field of a plain module.
var moduleDifferences = []func(m *impl.Module){
	func(m *impl.Module) { m.Pages++ }, func(m *impl.Module) { m.Pages += 1 << 32 },
	func(m *impl.Module) { m.Imports = nil }, func(m *impl.Module) { m.Imports = m.Imports[:1] }, func(m *impl.Module) { m.Imports = m.Imports[1:] }, func(m *impl.Module) { m.Imports = append(m.Imports, impl.Import{}) }, func(m *impl.Module) { m.Imports[0], m.Imports[1] = m.Imports[1], m.Imports[0] },
	func(m *impl.Module) { m.Imports[0].Name = "host/lo" }, func(m *impl.Module) { m.Imports[1].Params = 1 }, func(m *impl.Module) { m.Imports[0].Params = 1<<32 + 1 }, func(m *impl.Module) { m.Imports[1].Result = false },
	func(m *impl.Module) { m.Cores = nil }, func(m *impl.Module) { m.Cores = m.Cores[:1] }, func(m *impl.Module) { m.Cores = m.Cores[1:] }, func(m *impl.Module) { m.Cores = append(m.Cores, impl.Core{}) }, func(m *impl.Module) { m.Cores[0], m.Cores[1] = m.Cores[1], m.Cores[0] },
	func(m *impl.Module) { m.Cores[1].Name = "tow" }, func(m *impl.Module) { m.Cores[0].Params++ }, func(m *impl.Module) { m.Cores[1].Locals-- }, func(m *impl.Module) { m.Cores[1].Result = true },
	func(m *impl.Module) { m.Cores[0].Code = nil }, func(m *impl.Module) { m.Cores[0].Code = m.Cores[0].Code[:2] }, func(m *impl.Module) { m.Cores[0].Code = m.Cores[0].Code[1:] }, func(m *impl.Module) { m.Cores[1].Code = []impl.Ins{{}} }, func(m *impl.Module) { m.Cores[0].Code[0].Op = impl.OpSet }, func(m *impl.Module) { m.Cores[0].Code[1].A = 5 }, func(m *impl.Module) { m.Cores[0].Code[2].A += 1 << 32 },
}

func TestP17SameModule(t *testing.T) {
	for i, do := range moduleDifferences {
		m := plainModule()
		do(&m)
		is(t, "difference "+strconv.Itoa(i), all(impl.SameModule(m, plainModule()), impl.SameModule(plainModule(), m), impl.SameModule(m, roomy(m))), false, false, true)
	}
	for i, do := range moduleChanges {
		m, other := plainModule(), plainModule()
		do(&m)
		do(&other)
		is(t, "change "+strconv.Itoa(i), all(impl.SameModule(m, other), impl.SameModule(m, plainModule()), impl.SameModule(plainModule(), m)), true, false, false)
	}
	empty := impl.Module{Imports: []impl.Import{}, Cores: []impl.Core{}}
	bare := impl.Module{Cores: []impl.Core{{Code: []impl.Ins{}}}}
	is(t, "nil and empty", all(impl.SameModule(impl.Module{}, empty), impl.SameModule(empty, impl.Module{}), impl.SameModule(bare, impl.Module{Cores: []impl.Core{{}}}), impl.SameModule(bare, empty)), true, true, true, false)
}

func TestP17ModuleExample(t *testing.T) {
	text := "module 2\nimport host/log 1 0\nimport host/get 0 1\ncore run 2 1 1\nget 0\nget 1\nadd\ncore two 0 0 0\n"
	m, code := impl.ReadModule(text)
	want := impl.Module{Pages: 2, Imports: []impl.Import{{Name: "host/log", Params: 1}, {Name: "host/get", Result: true}}, Cores: []impl.Core{{Name: "run", Params: 2, Locals: 1, Result: true, Code: []impl.Ins{{Op: impl.OpGet}, {Op: impl.OpGet, A: 1}, {Op: impl.OpAdd}}}, {Name: "two"}}}
	is(t, "the example", all(alike(m, want), code, impl.ModuleText(m)), true, impl.OK, text)
}

func TestP17ReadModule(t *testing.T) {
	for _, s := range []string{
		"", "\n", "module", "module\n", "module 2", "module 0\n", "module 17\n", "module -1\n", "module 01\n", "module +1\n", "module -0\n", "module 1 \n", " module 1\n", "module  1\n", "module 1\n\n", "\nmodule 1\n", "module 1\r\n", "Module 1\n", "module 1 1\n", "module x\n", "module 9223372036854775809\n", "module 18446744073709551617\n", "modul 1\n", "module1\n", "module\t1\n", "module 1\nmodule 1\n", "module 1\x00\n", // the first line
		"import a 0 0\n", "import a 0 0\nmodule 1\n", "module 1\nimport a 0\n", "module 1\nimport a 0 0 0\n", "module 1\nimport a 0 2\n", "module 1\nimport a 0 -1\n", "module 1\nimport a 0 01\n", "module 1\nimport a 0 +1\n", "module 1\nimport a 0 true\n", "module 1\nimport a 0 -0\n", "module 1\nimport a 9 0\n", "module 1\nimport a -1 0\n", "module 1\nimport a 00 0\n", "module 1\nimport a -0 0\n", "module 1\nimport a +0 0\n", "module 1\nimport a 18446744073709551616 0\n", "module 1\nimport  0 0\n", "module 1\nimport 0 0\n", "module 1\nimport a  0 0\n", "module 1\nimport a 0  0\n", "module 1\nimport a 0 0 \n", "module 1\n import a 0 0\n", "module 1\nimport a 0 0", "module 1\nimport a 0 0\n\n", "module 1\n\nimport a 0 0\n", "module 1\nimport A 0 0\n", "module 1\nimport a,b 0 0\n", "module 1\nimport " + strings.Repeat("a", 41) + " 0 0\n", "module 1\nimport a 0 0\nimport a 1 0\n", "module 1\nimport\n", "module 1\nimport a\n", "module 1\nimports a 0 0\n", "module 1\nimport a 0 0\nadd\n", // imports
		"core a 0 0 0\n", "module 1\ncore a 0 0\n", "module 1\ncore a 0 0 0 0\n", "module 1\ncore a 0 0 2\n", "module 1\ncore a 0 0 00\n", "module 1\ncore a 0 0 -1\n", "module 1\ncore a 9 0 0\n", "module 1\ncore a 0 9 0\n", "module 1\ncore a -1 0 0\n", "module 1\ncore a 0 -1 0\n", "module 1\ncore a 00 0 0\n", "module 1\ncore a 0 08 0\n", "module 1\ncore a +0 0 0\n", "module 1\ncore a -0 0 0\n", "module 1\ncore a 0 -0 0\n", "module 1\ncore a 0 0 -0\n", "module 1\ncore a 0 18446744073709551616 0\n", "module 1\ncore  0 0 0\n", "module 1\ncore a 0  0 0\n", "module 1\ncore a 0 0 0 \n", "module 1\n core a 0 0 0\n", "module 1\ncore a 0 0 0", "module 1\ncore a 0 0 0\n\n", "module 1\ncore a_b 0 0 0\n", "module 1\ncore " + strings.Repeat("a", 41) + " 0 0 0\n", "module 1\ncore a 0 0 0\ncore a 0 0 0\n", "module 1\ncore a 0 0 0\nimport b 0 0\n", "module 1\ncore a 0 0 0\nadd\nimport b 0 0\n", "module 1\ncore\n", "module 1\ncore a\n", "module 1\ncore a 0 0 0 add\n", // cores
		"module 1\nadd\n", "module 1\nadd\ncore a 0 0 0\n", "module 1\ncore a 0 0 0\nadd", "module 1\ncore a 0 0 0\n add\n", "module 1\ncore a 0 0 0\nadd \n", "module 1\ncore a 0 0 0\nadd\n\n", "module 1\ncore a 0 0 0\n\nadd\n", "module 1\ncore a 0 0 0\nadd\n\nadd\n", "module 1\ncore a 0 0 0\nadd add\n", "module 1\ncore a 0 0 0\nadd 0\n", "module 1\ncore a 0 0 0\nget\n", "module 1\ncore a 0 0 0\nget 16\n", "module 1\ncore a 0 0 0\nget 00\n", "module 1\ncore a 0 0 0\nget  0\n", "module 1\ncore a 0 0 0\nconst 9223372036854775808\n", "module 1\ncore a 0 0 0\nconst +1\n", "module 1\ncore a 0 0 0\nconst -0\n", "module 1\ncore a 0 0 0\nnop\n", "module 1\ncore a 0 0 0\nadd\r\n", "module 1\ncore a 0 0 0\nadd\nmodule 1\n", "module 1\ncore a 0 0 0\n" + strings.Repeat("add\n", 121), // instructions
	} {
		m, code := impl.ReadModule(s)
		is(t, strconv.Quote(clipped(s)), all(alike(m, impl.Module{}), code), true, impl.ErrParse)
		checkReadModule(t, s)
	}
	for _, s := range []string{"module 1\n", "module 16\n", "module 10\nimport a 8 1\n", "module 1\ncore a 8 8 1\n", "module 1\ncore core 0 0 0\ncore module 0 0 0\ncore import 0 0 0\n", "module 1\nimport import 0 0\nimport core 0 0\n", "module 1\nimport 1 2 0\nimport - 0 0\ncore 0 0 0 0\ncore -1 0 0 1\n", "module 1\ncore a 0 0 0\n" + strings.Repeat("add\n", 120), "module 1\ncore a 0 0 0\nconst 0\nconst -1\ncore b 0 0 0\ntrap\n", "module 1\nimport " + strings.Repeat("a", 40) + " 0 0\n"} {
		is(t, strconv.Quote(clipped(s)), all(checkReadModule(t, s)), impl.OK)
	}
}

// TestP17SourceLimit has texts of MaxSource bytes and of one more.
func TestP17SourceLimit(t *testing.T) {
	text := impl.ModuleText(greatestModule())
	is(t, "the longest text", all(checkReadModule(t, text), len(text) > 26000 && len(text) < impl.MaxSource), impl.OK, true)
	for _, s := range []string{text + strings.Repeat("add\n", impl.MaxSource), text + strings.Repeat("\n", impl.MaxSource), strings.Repeat("module 1\n", impl.MaxSource), "module 1\n" + strings.Repeat(" ", impl.MaxSource), strings.Repeat("\x00", impl.MaxSource+1), "module 1\ncore a 0 0 0\n" + strings.Repeat("add\n", impl.MaxSource)} {
		for many, want := range map[int]int64{impl.MaxSource - 1: impl.ErrParse, impl.MaxSource: impl.ErrParse, impl.MaxSource + 1: impl.ErrMany} {
			m, code := impl.ReadModule(s[:many])
			is(t, strconv.Itoa(many)+" bytes", all(alike(m, impl.Module{}), code), true, want)
		}
		m, code := impl.ReadModule(strings.Repeat(s, 10))
		is(t, "a very long text", all(alike(m, impl.Module{}), code), true, impl.ErrMany)
	}
}

// TestP17Model has modules that are made up, and texts that are changed a little.
func TestP17Model(t *testing.T) {
	r := rand.New(rand.NewSource(152))
	met := map[int64]int{}
	for i := range 600 {
		m := someModule(r)
		checkModule(t, "module "+strconv.Itoa(i), m)
		text := impl.ModuleText(m)
		for range 12 {
			met[checkReadModule(t, changedText(r, text))]++
		}
	}
	is(t, "enough of both", all(met[impl.OK] > 300, met[impl.ErrParse] > 300), true, true)
	small := "module 1\nimport a 0 0\ncore b 1 0 1\nget 0\ndrop\n"
	for _, s := range changes(small, " \n0189-+ab.\x00") {
		checkReadModule(t, s)
	}
}

// changedText changes a byte, a line or the order of two lines of a text.
func changedText(r *rand.Rand, text string) string {
	lines := strings.SplitAfter(text, "\n")
	i, j, at := r.Intn(len(lines)), r.Intn(len(lines)), r.Intn(len(text))
	switch r.Intn(6) {
	case 0:
		return text[:at] + pick(r, strings.Split(" \n0189-ab.x", "")) + text[at+1:]
	case 1:
		return text[:at] + pick(r, strings.Split(" \n0189-ab.x", "")) + text[at:]
	case 2:
		return text[:at] + text[at+1:]
	case 3:
		return strings.Join(slices.Delete(lines, i, i+1), "")
	case 4:
		return strings.Join(slices.Insert(lines, i, lines[j]), "")
	}
	lines[i], lines[j] = lines[j], lines[i]
	return strings.Join(lines, "")
}

// codeCall are the arguments of the functions of chapter 15.
type codeCall struct {
	M, Other impl.Module
	I        impl.Ins
	Text     string
}

func TestP1Code(t *testing.T) {
	call := func(c codeCall) []any {
		i, insOk := impl.ReadIns(c.Text)
		m, code := impl.ReadModule(c.Text)
		core, isCore := impl.CoreOf(c.M, c.Text)
		imported, isImport := impl.ImportOf(c.M, c.Text)
		return all(i, insOk, m, code, core, isCore, imported, isImport, impl.WordOk(c.Text), impl.OpWord(c.I.Op), impl.InsOk(c.I), impl.InsText(c.I), impl.ModuleShape(c.M), impl.SameModule(c.M, c.M), impl.SameModule(c.M, c.Other), impl.ModuleText(c.M))
	}
	list := []impl.Module{{}, {Pages: 1}, plainModule(), greatestModule()}
	for _, do := range append(slices.Clone(moduleChanges), moduleDifferences...) {
		m := plainModule()
		do(&m)
		if len(m.Imports)+len(m.Cores) < 100 && (len(m.Cores) == 0 || len(m.Cores[0].Code) < 1000) {
			list = append(list, m)
		}
	}
	texts := []string{"", "run", "two", "host/get", "const 5", "add", "const 01", "module 1\n", impl.ModuleText(plainModule()), impl.ModuleText(greatestModule()), "module 2\ncore a 0 0 0\ncore b 0 0 0\n", strings.Repeat("a", impl.MaxSource+1), "\xff"}
	numbers := edges()
	for i, m := range list {
		for j, s := range texts {
			x := impl.Ins{Op: int64(3*i+j) % 43, A: numbers[(i+j)%len(numbers)]}
			pure(t, shown(i, j), codeCall{m, list[(i+j)%len(list)], x, s}, call)
		}
	}
}
