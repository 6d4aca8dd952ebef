package tests

import (
	"fmt"
	"maps"
	"math"
	"math/rand"
	"slices"
	"strconv"
	"strings"
	"testing"

	"loop.example/g00901/impl"
)

// wordAt is the mnemonic of the instruction at an index.
func wordAt(code []impl.Ins, at int) string {
	return opcodes[code[at].Op-1].word
}

func opensBlock(word string) bool {
	return word == "block" || word == "loop" || word == "if"
}

// effectTable says how many values instructions pop and push; call and host are missing, and all others pop 2 and push 1.
var effectTable = map[string][2]int64{
	"const": {0, 1}, "get": {0, 1}, "set": {1, 0}, "drop": {1, 0}, "if": {1, 0}, "brif": {1, 0}, "tee": {1, 1}, "eqz": {1, 1}, "load8": {1, 1}, "load32": {1, 1}, "load64": {1, 1}, "select": {3, 1},
	"store8": {2, 0}, "store32": {2, 0}, "store64": {2, 0}, "block": {0, 0}, "loop": {0, 0}, "br": {0, 0}, "return": {0, 0}, "trap": {0, 0},
}

// one is 1 if there is a result.
func one(result bool) int64 {
	return map[bool]int64{true: 1}[result]
}

// codeModel knows the code of a core. What it says of a position it finds out anew from the positions before it.
type codeModel struct {
	module  impl.Module
	core    impl.Core
	code    []impl.Ins
	heights map[int]int64
}

func modelOfCore(m impl.Module, k int) *codeModel {
	return &codeModel{m, m.Cores[k], m.Cores[k].Code, map[int]int64{}}
}

// open returns the indices of the instructions before a position whose blocks are open there.
func (c *codeModel) open(at int) []int {
	var list []int
	for i := range at {
		word := wordAt(c.code, i)
		if opensBlock(word) {
			list = append(list, i)
		}
		if word == "end" && len(list) > 0 {
			list = list[:len(list)-1]
		}
	}
	return list
}

// belongsTo returns the index of the first word behind an opening instruction that belongs to its block, or -1.
func (c *codeModel) belongsTo(opener int, word string) int {
	for i := opener + 1; i < len(c.code); i++ {
		list := c.open(i)
		if wordAt(c.code, i) == word && len(list) > 0 && list[len(list)-1] == opener {
			return i
		}
	}
	return -1
}

// blocks are the blocks of a core of a well-formed module, the index of an error, and a code.
func (c *codeModel) blocks() ([]impl.CodeBlock, int64, int64) {
	var list []impl.CodeBlock
	for i, x := range c.code {
		open := c.open(i)
		word, inner := wordAt(c.code, i), len(open)-1
		code := int64(impl.OK)
		switch {
		case opensBlock(word):
			list = append(list, impl.CodeBlock{At: int64(i), Else: int64(c.belongsTo(i, "else")), End: int64(c.belongsTo(i, "end")), Result: x.A == 1})
			if len(open) == 6 {
				code = impl.ErrMany
			}
		case word == "else" && (inner < 0 || wordAt(c.code, open[inner]) != "if" || c.belongsTo(open[inner], "else") < i):
			code = impl.ErrState
		case word == "end" && inner < 0:
			code = impl.ErrState
		case word == "end" && wordAt(c.code, open[inner]) == "if" && c.code[open[inner]].A == 1 && c.belongsTo(open[inner], "else") < 0:
			code = impl.ErrType
		}
		if code != impl.OK {
			return nil, int64(i), code
		}
	}
	if len(c.open(len(c.code))) > 0 {
		return nil, int64(len(c.code)), impl.ErrState
	}
	return list, 0, impl.OK
}

// unreachable stands for the height of a position that is not reachable.
const unreachable = -1

// height returns the height at a position before which there is no error.
func (c *codeModel) height(at int) int64 {
	if at == 0 {
		return 0
	}
	h, ok := c.heights[at]
	if !ok {
		h = c.heightBehind(at - 1)
		c.heights[at] = h
	}
	return h
}

// heightBehind returns the height behind an instruction.
func (c *codeModel) heightBehind(at int) int64 {
	open := c.open(at)
	switch wordAt(c.code, at) {
	case "br", "return", "trap":
		return unreachable
	case "else":
		return c.base(open)
	case "end":
		return c.base(open) + c.code[open[len(open)-1]].A
	}
	pops, pushes := c.effect(at)
	return c.height(at) - pops + pushes
}

// base returns the height with which the last of some blocks was entered.
func (c *codeModel) base(open []int) int64 {
	if len(open) == 0 {
		return 0
	}
	opener := open[len(open)-1]
	if wordAt(c.code, opener) == "if" {
		return c.height(opener) - 1
	}
	return c.height(opener)
}

func (c *codeModel) effect(at int) (int64, int64) {
	word, a := wordAt(c.code, at), c.code[at].A
	pair, ok := effectTable[word]
	switch {
	case word == "call":
		return c.module.Cores[a].Params, one(c.module.Cores[a].Result)
	case word == "host":
		return c.module.Imports[a].Params, one(c.module.Imports[a].Result)
	case ok:
		return pair[0], pair[1]
	}
	return 2, 1
}

// carried returns how many values an instruction carries, if its branch depth is small enough.
func (c *codeModel) carried(at int, open []int) int64 {
	switch wordAt(c.code, at) {
	case "return":
		return one(c.core.Result)
	case "br", "brif":
		i := len(open) - 1 - int(c.code[at].A)
		switch {
		case i < 0:
			return one(c.core.Result)
		case wordAt(c.code, open[i]) != "loop":
			return c.code[open[i]].A
		}
	}
	return 0
}

// faultAt returns the error code of an instruction before which there is no error.
func (c *codeModel) faultAt(at int) int64 {
	word, a, h, open := wordAt(c.code, at), c.code[at].A, c.height(at), c.open(at)
	if word == "else" || word == "end" {
		switch {
		case h != unreachable && h != c.base(open)+c.code[open[len(open)-1]].A:
			return impl.ErrType
		case c.heightBehind(at) > 24:
			return impl.ErrMany
		}
		return impl.OK
	}
	locals := c.core.Params + c.core.Locals
	switch {
	case h == unreachable:
		return impl.ErrState
	case (word == "get" || word == "set" || word == "tee") && a >= locals, word == "call" && a >= int64(len(c.module.Cores)), word == "host" && a >= int64(len(c.module.Imports)), (word == "br" || word == "brif") && a > int64(len(open)):
		return impl.ErrRange
	}
	pops, pushes := c.effect(at)
	switch {
	case h-c.base(open) < pops:
		return impl.ErrType
	case h-pops+pushes > 24:
		return impl.ErrMany
	case h-pops+pushes-c.base(open) < c.carried(at, open):
		return impl.ErrType
	}
	return impl.OK
}

// places are the states of a core of a well-formed module, the index of an error, and a code.
func (c *codeModel) places() ([]impl.CodePlace, int64, int64) {
	blocks, at, code := c.blocks()
	if code != impl.OK {
		return nil, at, code
	}
	var list []impl.CodePlace
	for i := range c.code {
		code := c.faultAt(i)
		if code != impl.OK {
			return nil, int64(i), code
		}
		p := impl.CodePlace{}
		if h := c.height(i); h != unreachable {
			p = impl.CodePlace{Known: true, Height: h}
			for _, opener := range c.open(i) {
				p.Blocks = append(p.Blocks, int64(slices.IndexFunc(blocks, func(b impl.CodeBlock) bool { return b.At == int64(opener) })))
			}
		}
		list = append(list, p)
	}
	h := c.height(len(c.code))
	if h != unreachable && h != one(c.core.Result) {
		return nil, int64(len(c.code)), impl.ErrType
	}
	return append(list, impl.CodePlace{Known: true, Height: one(c.core.Result)}), 0, impl.OK
}

// target is where a branch leads from a position of a core without errors.
func (c *codeModel) target(at, depth int64) (int64, int64, int64) {
	if at < 0 || at > int64(len(c.code)) || depth < 0 {
		return 0, 0, impl.ErrRange
	}
	var open []int
	known := at == int64(len(c.code)) || c.height(int(at)) != unreachable
	if known {
		open = c.open(int(at))
	}
	i := int64(len(open)) - 1 - depth
	switch {
	case depth > int64(len(open)):
		return 0, 0, impl.ErrRange
	case !known:
		return 0, 0, impl.ErrNone
	case i < 0:
		return int64(len(c.code)), one(c.core.Result), impl.OK
	case wordAt(c.code, open[i]) == "loop":
		return int64(open[i] + 1), c.base(open[:i+1]), impl.OK
	}
	return int64(c.belongsTo(open[i], "end") + 1), c.base(open[:i+1]) + c.code[open[i]].A, impl.OK
}

// checkCode compares everything that chapter 16 says of a core of a well-formed module with the model, and returns the code.
func checkCode(t *testing.T, m impl.Module, k int) int64 {
	t.Helper()
	model := modelOfCore(m, k)
	what := codeText(m.Cores[k])
	blocks, at, code := impl.BlocksOf(m.Cores[k])
	wantBlocks, wantAt, wantCode := model.blocks()
	if !alike(blocks, wantBlocks) || at != wantAt || code != wantCode {
		t.Errorf("BlocksOf(%s) returns %v, %d, %d, want %v, %d, %d", what, blocks, at, code, wantBlocks, wantAt, wantCode)
	}
	places, at, code := impl.CheckCore(m, int64(k))
	wantPlaces, wantAt, wantCode := model.places()
	if !alike(places, wantPlaces) || at != wantAt || code != wantCode {
		t.Errorf("CheckCore(%s) returns %v, %d, %d, want %v, %d, %d", what, places, at, code, wantPlaces, wantAt, wantCode)
		return code
	}
	var most int64
	for _, p := range wantPlaces {
		most = max(most, p.Height)
	}
	highest, code := impl.HighestOf(m, int64(k))
	to, height, targetCode := impl.TargetOf(m, int64(k), 0, 0)
	if wantCode != impl.OK {
		is(t, what, all(highest, code, to, height, targetCode), 0, wantCode, 0, 0, wantCode)
		return wantCode
	}
	is(t, what, all(highest, code, highest <= 24), most, impl.OK, true)
	return impl.OK
}

// checkTargets compares where the branches of a valid core lead with the model.
func checkTargets(t *testing.T, m impl.Module, k int) {
	t.Helper()
	model := modelOfCore(m, k)
	for at := int64(-2); at <= int64(len(model.code)+2); at++ {
		for depth := int64(-1); depth <= impl.MaxBlocks+2; depth++ {
			to, height, code := impl.TargetOf(m, int64(k), at, depth)
			wantTo, wantHeight, wantCode := model.target(at, depth)
			if to != wantTo || height != wantHeight || code != wantCode {
				t.Errorf("TargetOf(%s, %d, %d) returns %d, %d, %d, want %d, %d, %d", codeText(m.Cores[k]), at, depth, to, height, code, wantTo, wantHeight, wantCode)
			}
		}
	}
}

// codeText is a text of a core.
func codeText(c impl.Core) string {
	var list []string
	for _, i := range c.Code {
		text, _ := insModel(i)
		list = append(list, text)
	}
	return fmt.Sprintf("%d %d %v: %s", c.Params, c.Locals, c.Result, strings.Join(list, "; "))
}

// entered is a block that a run has entered: the index of its opening instruction, and the height then.
type entered struct {
	opener int
	height int64
}

// station is where a run is.
type station struct {
	at     int
	height int64
	blocks []entered
}

// runner executes every path of a core, without the help of the program. It follows values only by their number.
type runner struct {
	t       *testing.T
	what    string
	model   *codeModel
	waiting []station
	seen    map[string]bool
	// met are the heights with which each position was reached, and nests the blocks.
	met   map[int]map[int64]bool
	nests map[int]map[string]bool
}

// runAll executes every path of core k, and returns the runner.
func runAll(t *testing.T, m impl.Module, k int) *runner {
	r := &runner{t: t, what: codeText(m.Cores[k]), model: modelOfCore(m, k), seen: map[string]bool{}, met: map[int]map[int64]bool{}, nests: map[int]map[string]bool{}}
	r.visit(station{})
	for len(r.waiting) > 0 {
		s := r.waiting[len(r.waiting)-1]
		r.waiting = r.waiting[:len(r.waiting)-1]
		if s.at < len(r.model.code) {
			r.execute(s)
		}
	}
	return r
}

// visit takes a station into account, unless it was met before.
func (r *runner) visit(s station) {
	key := fmt.Sprint(s)
	if r.seen[key] || len(r.seen) > 10000 {
		return
	}
	r.seen[key] = true
	if r.met[s.at] == nil {
		r.met[s.at], r.nests[s.at] = map[int64]bool{}, map[string]bool{}
	}
	r.met[s.at][s.height] = true
	openers := []int64{}
	for _, e := range s.blocks {
		openers = append(openers, int64(e.opener))
	}
	r.nests[s.at][fmt.Sprint(openers)] = true
	r.waiting = append(r.waiting, s)
}

// arms returns the index of the OpElse (or -1) and of the OpEnd of the block that opens at an index.
func (r *runner) arms(opener int) (int, int) {
	other, deep := -1, 0
	for i := opener + 1; i < len(r.model.code); i++ {
		switch word := wordAt(r.model.code, i); {
		case opensBlock(word):
			deep++
		case word == "else" && deep == 0:
			other = i
		case word == "end" && deep == 0:
			return other, i
		case word == "end":
			deep--
		}
	}
	r.t.Fatalf("%s: no end for %d", r.what, opener)
	return 0, 0
}

// bottom is the height below which the innermost block may not go.
func (s station) bottom() int64 {
	if len(s.blocks) == 0 {
		return 0
	}
	return s.blocks[len(s.blocks)-1].height
}

// branch visits the target of a branch, which must have the values that it carries, and compares it with TargetOf.
func (r *runner) branch(s station, depth int) {
	c := r.model
	to := station{at: len(c.code), height: one(c.core.Result)}
	carried := to.height
	if depth < len(s.blocks) {
		i := len(s.blocks) - 1 - depth
		b := s.blocks[i]
		carried = c.code[b.opener].A
		_, end := r.arms(b.opener)
		to = station{end + 1, b.height + carried, s.blocks[:i]}
		if wordAt(c.code, b.opener) == "loop" {
			carried, to = 0, station{b.opener + 1, b.height, s.blocks[:i+1]}
		}
	}
	if s.height-carried < s.bottom() {
		r.t.Errorf("%s: a branch at %d carries values from below its block", r.what, s.at)
	}
	r.visit(to)
}

// execute visits where a run can be behind the instruction of a station.
func (r *runner) execute(s station) {
	c := r.model
	word, next := wordAt(c.code, s.at), station{s.at + 1, s.height, s.blocks}
	if word == "else" || word == "end" {
		_, end := r.arms(s.blocks[len(s.blocks)-1].opener)
		r.visit(station{end + 1, s.height, s.blocks[:len(s.blocks)-1]})
		return
	}
	pops, pushes := c.effect(s.at)
	if s.height-pops < s.bottom() {
		r.t.Errorf("%s: the instruction at %d pops values from below its block", r.what, s.at)
	}
	next.height += pushes - pops
	inner := append(slices.Clone(s.blocks), entered{s.at, next.height})
	switch word {
	case "block", "loop":
		r.visit(station{next.at, next.height, inner})
	case "if":
		r.visit(station{next.at, next.height, inner})
		other, end := r.arms(s.at)
		if other < 0 {
			r.visit(station{end + 1, next.height, s.blocks})
		} else {
			r.visit(station{other + 1, next.height, inner})
		}
	case "br":
		r.branch(next.from(s), int(c.code[s.at].A))
	case "brif":
		r.branch(next.from(s), int(c.code[s.at].A))
		r.visit(next)
	case "return":
		r.branch(next.from(s), len(s.blocks))
	case "trap":
	default:
		r.visit(next)
	}
}

// from is a station that has the height of s, but is still at the index of another one.
func (s station) from(other station) station {
	return station{other.at, s.height, s.blocks}
}

// checkPaths executes every path of a valid core and compares the heights that are met with the places, and returns how many
// positions were met.
func checkPaths(t *testing.T, m impl.Module, k int) int {
	t.Helper()
	places, _, code := impl.CheckCore(m, int64(k))
	blocks, _, _ := impl.BlocksOf(m.Cores[k])
	r := runAll(t, m, k)
	is(t, r.what, all(code, len(r.seen) < 10000, len(places) == len(r.model.code)+1), impl.OK, true, true)
	for at, heights := range r.met {
		p := places[at]
		var openers []int64
		for _, b := range p.Blocks {
			openers = append(openers, blocks[b].At)
		}
		if len(heights) != 1 || !heights[p.Height] || !p.Known || p.Height > impl.MaxStack {
			t.Errorf("%s: position %d is met with %v, but is %v", r.what, at, slices.Sorted(maps.Keys(heights)), p)
		}
		if nests := r.nests[at]; len(nests) != 1 || !nests[fmt.Sprint(openers)] {
			t.Errorf("%s: position %d is met in %v, but is in %v", r.what, at, nests, openers)
		}
	}
	for at, p := range places {
		if !p.Known && (r.met[at] != nil || p.Height != 0 || len(p.Blocks) != 0) {
			t.Errorf("%s: position %d is met, but is %v", r.what, at, p)
		}
	}
	return len(r.met)
}

// codeIn are instructions, separated by semicolons.
func codeIn(t *testing.T, text string) []impl.Ins {
	t.Helper()
	var code []impl.Ins
	for _, s := range strings.Split(text, ";") {
		s = strings.TrimSpace(s)
		if s == "" {
			continue
		}
		many := 1
		if rest, found := strings.CutPrefix(s, "24 of "); found {
			s, many = rest, 24
		}
		i, ok := readInsModel(s)
		if !ok {
			t.Fatalf("no instruction: %q", s)
		}
		code = append(code, slices.Repeat([]impl.Ins{i}, many)...)
	}
	return code
}

// coreIn is a well-formed module whose core 1 has this code, between two others, with two imports.
func coreIn(t *testing.T, params, locals int64, result bool, text string) impl.Module {
	t.Helper()
	code := codeIn(t, text)
	return impl.Module{Pages: 1, Imports: []impl.Import{{Name: "ask", Params: 2, Result: true}, {Name: "tell", Params: 1}}, Cores: []impl.Core{{Name: "none"}, {Name: "it", Params: params, Locals: locals, Result: result, Code: code}, {Name: "three", Params: 3, Result: true, Code: []impl.Ins{{Op: impl.OpTrap}}}}}
}

// fault is code of a core with two parameters and a further local, with or without a result, and its first error.
type fault struct {
	result bool
	text   string
	at     int64
	code   int64
}

// checkFaults checks the first errors, and everything else that can be said of the cores.
func checkFaults(t *testing.T, list []fault) {
	t.Helper()
	for _, f := range list {
		m := coreIn(t, 2, 1, f.result, f.text)
		places, at, code := impl.CheckCore(m, 1)
		is(t, f.text, all(at, code, len(places) > 0), f.at, f.code, f.code == impl.OK)
		k, at, code := impl.CheckModule(m)
		is(t, f.text, all(k, at, code, impl.ModuleOk(m)), one(f.code != impl.OK), f.at, f.code, f.code == impl.OK)
		checkCode(t, m, 1)
		if f.code == impl.OK {
			checkTargets(t, m, 1)
			checkPaths(t, m, 1)
		}
	}
}

func TestP18CheckConstants(t *testing.T) {
	is(t, "limits", all(int64(impl.MaxBlocks), int64(impl.MaxStack)), 6, 24)
}

const chapterExample = "const 5; block 1; get 0; if 0; const 7; br 1; end; loop 0; get 0; brif 0; end; const 9; end; add"

func TestP18Example(t *testing.T) {
	m := coreIn(t, 1, 0, true, chapterExample)
	blocks, at, code := impl.BlocksOf(m.Cores[1])
	want := []impl.CodeBlock{{At: 1, Else: -1, End: 12, Result: true}, {At: 3, Else: -1, End: 6}, {At: 7, Else: -1, End: 10}}
	is(t, "BlocksOf", all(alike(blocks, want), at, code), true, 0, impl.OK)
	places, at, code := impl.CheckCore(m, 1)
	list := []impl.CodePlace{
		{Known: true}, {Known: true, Height: 1}, {Known: true, Height: 1, Blocks: []int64{0}}, {Known: true, Height: 2, Blocks: []int64{0}}, {Known: true, Height: 1, Blocks: []int64{0, 1}}, {Known: true, Height: 2, Blocks: []int64{0, 1}}, {},
		{Known: true, Height: 1, Blocks: []int64{0}}, {Known: true, Height: 1, Blocks: []int64{0, 2}}, {Known: true, Height: 2, Blocks: []int64{0, 2}}, {Known: true, Height: 1, Blocks: []int64{0, 2}}, {Known: true, Height: 1, Blocks: []int64{0}}, {Known: true, Height: 2, Blocks: []int64{0}}, {Known: true, Height: 2}, {Known: true, Height: 1},
	}
	is(t, "CheckCore", all(alike(places, list), at, code), true, 0, impl.OK)
	highest, code := impl.HighestOf(m, 1)
	is(t, "HighestOf", all(highest, code, impl.ModuleOk(m)), 2, impl.OK, true)
	for _, c := range []struct{ at, depth, to, height, code int64 }{
		{5, 0, 7, 1, impl.OK}, {5, 1, 13, 2, impl.OK}, {5, 2, 14, 1, impl.OK}, {9, 0, 8, 1, impl.OK}, {9, 1, 13, 2, impl.OK}, {9, 2, 14, 1, impl.OK}, {0, 0, 14, 1, impl.OK}, {13, 0, 14, 1, impl.OK}, {14, 0, 14, 1, impl.OK}, {12, 0, 13, 2, impl.OK}, {10, 0, 8, 1, impl.OK}, {7, 0, 13, 2, impl.OK},
		{6, 0, 0, 0, impl.ErrNone}, {6, 1, 0, 0, impl.ErrRange}, {6, -1, 0, 0, impl.ErrRange}, {0, 1, 0, 0, impl.ErrRange}, {14, 1, 0, 0, impl.ErrRange}, {5, 3, 0, 0, impl.ErrRange}, {5, -1, 0, 0, impl.ErrRange}, {15, 0, 0, 0, impl.ErrRange}, {-1, 0, 0, 0, impl.ErrRange}, {-1, -1, 0, 0, impl.ErrRange}, {math.MaxInt64, 0, 0, 0, impl.ErrRange}, {math.MinInt64, 0, 0, 0, impl.ErrRange}, {5, math.MaxInt64, 0, 0, impl.ErrRange}, {5, math.MinInt64, 0, 0, impl.ErrRange}, {6, math.MaxInt64, 0, 0, impl.ErrRange}, {1 << 32, 0, 0, 0, impl.ErrRange},
	} {
		to, height, code := impl.TargetOf(m, 1, c.at, c.depth)
		is(t, "TargetOf at "+shown(c.at, c.depth), all(to, height, code), c.to, c.height, c.code)
	}
	checkCode(t, m, 1)
	checkTargets(t, m, 1)
	is(t, "positions that are met", all(int64(checkPaths(t, m, 1))), 14)
}

// TestP18Blocks has each row of the table of errors of BlocksOf, with its index.
func TestP18Blocks(t *testing.T) {
	five, six := strings.Repeat("block 0;", 5), strings.Repeat("loop 1;", 6)
	for _, c := range []struct {
		text     string
		at, code int64
		many     int
	}{
		{"", 0, impl.OK, 0}, {"add; drop; select; get 15; br 6", 0, impl.OK, 0}, {"block 0; end", 0, impl.OK, 1}, {"loop 1; end", 0, impl.OK, 1}, {"if 0; end", 0, impl.OK, 1}, {"if 0; else; end", 0, impl.OK, 1}, {"if 1; else; end", 0, impl.OK, 1}, {"if 1; if 0; end; else; if 1; else; end; end", 0, impl.OK, 3}, {"block 0; end; block 1; end", 0, impl.OK, 2}, {"trap; block 0; trap; end; trap", 0, impl.OK, 1},
		{six + strings.Repeat("end;", 6), 0, impl.OK, 6}, {five + "if 1; else; end;" + "if 1; else; end;" + strings.Repeat("end;", 5), 0, impl.OK, 7}, {strings.Repeat("block 0; end;", 60), 0, impl.OK, 60}, // MaxBlocks open blocks
		{six + "block 0", 6, impl.ErrMany, 0}, {six + "loop 0", 6, impl.ErrMany, 0}, {six + "if 1", 6, impl.ErrMany, 0}, {"drop;" + six + "add; if 0; end", 8, impl.ErrMany, 0}, {five + "block 0; end; block 0; block 0", 8, impl.ErrMany, 0}, {six + "else", 6, impl.ErrState, 0}, // one more
		{"else", 0, impl.ErrState, 0}, {"drop; else; end", 1, impl.ErrState, 0}, {"block 0; else; end", 1, impl.ErrState, 0}, {"loop 0; else; end", 1, impl.ErrState, 0}, {"if 0; block 0; else", 2, impl.ErrState, 0}, {"if 0; end; else", 2, impl.ErrState, 0}, {"if 0; else; else; end", 2, impl.ErrState, 0}, {"if 1; else; drop; else; end", 3, impl.ErrState, 0}, {"if 0; else; block 0; else", 3, impl.ErrState, 0}, {"block 0; end; else", 2, impl.ErrState, 0}, // OpElse
		{"end", 0, impl.ErrState, 0}, {"block 0; end; end", 2, impl.ErrState, 0}, {"if 0; else; end; end; block 0", 3, impl.ErrState, 0}, {"drop; end", 1, impl.ErrState, 0}, // OpEnd
		{"if 1; end", 1, impl.ErrType, 0}, {"if 1; drop; end", 2, impl.ErrType, 0}, {"if 0; if 1; end; else; end", 2, impl.ErrType, 0}, {"if 1; if 0; else; end; end", 4, impl.ErrType, 0}, {"if 1; trap; end; end", 2, impl.ErrType, 0}, // OpIf with a result
		{"block 0", 1, impl.ErrState, 0}, {"loop 0; end; if 0", 3, impl.ErrState, 0}, {"if 1; else", 2, impl.ErrState, 0}, {"if 1", 1, impl.ErrState, 0}, {six + "end", 7, impl.ErrState, 0}, {strings.Repeat("block 0; end;", 59) + "add; block 0", 120, impl.ErrState, 0}, // still open
	} {
		core := impl.Core{Name: "a", Code: codeIn(t, c.text)}
		blocks, at, code := impl.BlocksOf(core)
		is(t, c.text, all(int64(len(blocks)), at, code), c.many, c.at, c.code)
		m := impl.Module{Pages: 1, Cores: []impl.Core{core}}
		checkCode(t, m, 0)
		if c.code != impl.OK {
			_, at, code := impl.CheckCore(m, 0)
			is(t, c.text, all(at, code), c.at, c.code)
		}
	}
}

// TestP18BlocksForm has cores that no well-formed module has.
func TestP18BlocksForm(t *testing.T) {
	add := impl.Ins{Op: impl.OpAdd}
	for i, c := range []impl.Core{
		{}, {Name: "A"}, {Name: strings.Repeat("a", 41)}, {Name: "a", Params: -1}, {Name: "a", Params: 9}, {Name: "a", Locals: -1}, {Name: "a", Locals: 9}, {Name: "a", Params: math.MaxInt64}, {Name: "a", Locals: math.MinInt64}, {Name: "a", Params: math.MinInt64, Locals: math.MaxInt64}, {Name: "a", Code: []impl.Ins{{}}}, {Name: "a", Code: []impl.Ins{add, {Op: 41}}}, {Name: "a", Code: []impl.Ins{{Op: impl.OpAdd, A: 1}}},
		{Name: "a", Code: []impl.Ins{{Op: impl.OpEnd}, {Op: impl.OpBr, A: 7}}}, {Name: "a", Code: []impl.Ins{{Op: impl.OpBlock, A: 2}}}, {Name: "a", Code: slices.Repeat([]impl.Ins{add}, 121)}, {Name: "a", Code: slices.Repeat([]impl.Ins{{Op: impl.OpBlock}}, 100000)}, {Code: []impl.Ins{{Op: impl.OpEnd}}}, {Name: "a", Code: []impl.Ins{{Op: math.MinInt64, A: math.MaxInt64}}},
	} {
		blocks, at, code := impl.BlocksOf(c)
		is(t, "core "+strconv.Itoa(i), all(int64(len(blocks)), at, code), 0, 0, impl.ErrForm)
		checkNoModule(t, "core "+strconv.Itoa(i), impl.Module{Pages: 1, Cores: []impl.Core{c}})
		checkNoModule(t, "the last core "+strconv.Itoa(i), impl.Module{Pages: 1, Cores: []impl.Core{{Name: "b"}, c}})
	}
	blocks, at, code := impl.BlocksOf(impl.Core{Name: strings.Repeat("a", 40), Params: 8, Locals: 8, Code: slices.Repeat([]impl.Ins{add}, 120)})
	is(t, "the limits", all(int64(len(blocks)), at, code), 0, 0, impl.OK)
}

// checkNoModule checks that everything says that a module is not well-formed, whatever else is wrong.
func checkNoModule(t *testing.T, what string, m impl.Module) {
	t.Helper()
	k, at, code := impl.CheckModule(m)
	is(t, what, all(k, at, code, impl.ModuleOk(m)), 0, 0, impl.ErrForm, false)
	for _, k := range []int64{0, 1, -1, int64(len(m.Cores)), math.MaxInt64, math.MinInt64} {
		places, at, code := impl.CheckCore(m, k)
		highest, highestCode := impl.HighestOf(m, k)
		is(t, what, all(int64(len(places)), at, code, highest, highestCode), 0, 0, impl.ErrForm, 0, impl.ErrForm)
		for _, n := range []int64{0, 1, -1, math.MaxInt64, math.MinInt64} {
			to, height, code := impl.TargetOf(m, k, n, -n)
			is(t, what, all(to, height, code), 0, 0, impl.ErrForm)
		}
	}
}

func TestP18NoModule(t *testing.T) {
	checkNoModule(t, "the zero module", impl.Module{})
	for i, do := range moduleChanges {
		m := plainModule()
		do(&m)
		checkNoModule(t, "change "+strconv.Itoa(i), m)
	}
	m := plainModule()
	is(t, "the module without changes", all(impl.ModuleOk(m), impl.ModuleOk(impl.Module{Pages: 1})), true, true)
	for _, k := range append(edges(), 2, 3) {
		if 0 <= k && k < 2 {
			continue
		}
		places, at, code := impl.CheckCore(m, k)
		highest, highestCode := impl.HighestOf(m, k)
		to, height, targetCode := impl.TargetOf(m, k, 0, 0)
		is(t, "core "+strconv.FormatInt(k, 10), all(int64(len(places)), at, code, highest, highestCode, to, height, targetCode), 0, 0, impl.ErrForm, 0, impl.ErrForm, 0, 0, impl.ErrForm)
	}
}

// TestP18Unreachable has every instruction behind OpBr, OpReturn and OpTrap.
func TestP18Unreachable(t *testing.T) {
	for _, stop := range []string{"br 0", "br 1", "return", "trap"} {
		for i, o := range opcodes {
			if o.word == "else" || o.word == "end" {
				continue
			}
			for _, a := range []int64{o.low, o.high} {
				x, _ := insModel(impl.Ins{Op: int64(i + 1), A: a})
				closing := "end; end"
				if opensBlock(o.word) {
					closing = "else; end; end; end"
					if o.word != "if" {
						closing = "end; end; end"
					}
				}
				checkFaults(t, []fault{{false, "block 0; get 0; if 0; get 1; drop; " + stop + "; " + x + ";" + closing, 6, impl.ErrState}})
			}
		}
		checkFaults(t, []fault{
			{false, "get 0; if 0; " + stop + "; else; end", 0, impl.OK}, {false, "get 0; if 0; else; " + stop + "; end", 0, impl.OK}, {false, "get 0; if 0; " + stop + "; else; " + stop + "; end", 0, impl.OK}, {false, "get 0; if 0; " + stop + "; end", 0, impl.OK}, {false, "block 0; " + stop + "; end", 0, impl.OK}, {false, "loop 0; " + stop + "; end", 0, impl.OK},
			{false, "get 0; if 0; " + stop + "; else; " + stop + "; end; get 0; drop", 0, impl.OK}, {false, "get 0; if 0; " + stop + "; else; " + stop + "; end; get 0", 7, impl.ErrType}, {false, "block 0; block 0; " + stop + "; end; " + stop + "; end", 0, impl.OK}, {false, "block 0; block 0; " + stop + "; end; " + stop + "; drop; end", 5, impl.ErrState},
			{false, "get 0; if 1; get 0; trap; else; get 1; trap; end; drop", 0, impl.OK}, {false, "get 0; if 1; trap; else; trap; end", 6, impl.ErrType}, {true, "get 0; if 1; trap; else; trap; end", 0, impl.OK}, {true, "loop 1; trap; end", 0, impl.OK}, {true, "block 1; trap; end", 0, impl.OK}, {true, "block 0; trap; end", 3, impl.ErrType}, {true, "block 0; trap; end; trap", 0, impl.OK},
		})
	}
	m := coreIn(t, 1, 0, true, "get 0; if 1; trap; else; return; end")
	_, at, code := impl.CheckCore(m, 1)
	is(t, "a return without the value that it carries", all(at, code), 4, impl.ErrType)
	m = coreIn(t, 1, 0, false, "get 0; if 1; trap; else; return; end; drop")
	places, at, code := impl.CheckCore(m, 1)
	want := []impl.CodePlace{{Known: true}, {Known: true, Height: 1}, {Known: true, Blocks: []int64{0}}, {}, {Known: true, Blocks: []int64{0}}, {}, {Known: true, Height: 1}, {Known: true}}
	is(t, "arms that are both unreachable", all(alike(places, want), at, code, int64(checkPaths(t, m, 1))), true, 0, impl.OK, 5)
	m = coreIn(t, 0, 0, true, "trap")
	places, _, _ = impl.CheckCore(m, 1)
	highest, code := impl.HighestOf(m, 1)
	is(t, "an unreachable end", all(alike(places, []impl.CodePlace{{Known: true}, {Known: true, Height: 1}}), highest, code), true, 1, impl.OK)
}

// TestP18Branches has branches that carry values and others, to all kinds of blocks.
func TestP18Branches(t *testing.T) {
	checkFaults(t, []fault{
		{false, "block 0; br 0; end", 0, impl.OK}, {true, "block 1; const 1; br 0; end", 0, impl.OK}, {true, "block 1; br 0; end", 1, impl.ErrType}, {true, "const 1; block 1; br 0; end; drop", 2, impl.ErrType}, {true, "block 1; const 1; const 2; br 0; end", 0, impl.OK}, {false, "block 0; const 1; br 0; end", 0, impl.OK}, // OpBr to a block
		{false, "loop 0; br 0; end", 0, impl.OK}, {true, "loop 1; br 0; end", 0, impl.OK}, {true, "loop 1; const 1; br 0; end", 0, impl.OK}, {true, "const 1; loop 1; br 0; end; drop", 0, impl.OK}, {true, "loop 1; const 1; const 2; brif 0; end", 0, impl.OK}, {true, "loop 1; const 2; brif 0; const 1; end", 0, impl.OK}, // to a loop, which carries none
		{false, "br 0", 0, impl.OK}, {false, "const 1; br 0", 0, impl.OK}, {true, "br 0", 0, impl.ErrType}, {true, "const 1; br 0", 0, impl.OK}, {true, "const 1; const 2; br 0", 0, impl.OK}, {true, "const 1; block 0; br 1; end", 2, impl.ErrType}, {true, "block 0; const 1; br 1; end; const 1", 0, impl.OK}, {true, "loop 0; const 1; br 1; end; const 1", 0, impl.OK}, {false, "loop 0; br 1; end", 0, impl.OK}, // to the core itself
		{true, "const 1; const 2; brif 0", 0, impl.OK}, {true, "const 1; brif 0", 1, impl.ErrType}, {false, "const 1; brif 0", 0, impl.OK}, {false, "brif 0", 0, impl.ErrType}, {true, "block 1; const 1; const 2; brif 0; end", 0, impl.OK}, {true, "block 1; const 1; brif 0; const 2; end", 2, impl.ErrType}, {true, "const 3; block 1; const 1; brif 0; const 2; end; add", 3, impl.ErrType}, {false, "block 0; const 1; brif 0; end", 0, impl.OK}, {false, "const 1; block 0; brif 0; end; drop", 2, impl.ErrType}, // OpBrIf
		{true, "return", 0, impl.ErrType}, {false, "return", 0, impl.OK}, {true, "const 1; return", 0, impl.OK}, {false, "const 1; const 2; return", 0, impl.OK}, {true, "const 1; block 0; return; end", 2, impl.ErrType}, {true, "block 0; const 1; return; end; const 1", 0, impl.OK}, {true, "const 1; loop 0; const 2; return; end", 0, impl.OK}, {false, "const 1; block 0; return; end; drop", 0, impl.OK}, // OpReturn
		{true, "const 1; if 1; const 2; br 0; else; const 3; end", 0, impl.OK}, {true, "const 1; if 1; br 0; else; const 3; end", 2, impl.ErrType}, {true, "const 1; if 1; const 1; else; br 0; end", 4, impl.ErrType}, {false, "const 1; if 0; br 0; end", 0, impl.OK}, {true, "const 0; const 1; if 1; br 0; else; const 3; end; add", 3, impl.ErrType}, {true, "block 1; const 1; if 0; const 2; br 1; end; const 3; end", 0, impl.OK}, {true, "block 1; const 1; if 0; br 1; end; const 3; end", 3, impl.ErrType}, {true, "block 1; const 5; const 1; if 0; br 1; end; end", 4, impl.ErrType}, // out of the arms of OpIf
		{true, "block 1; loop 0; const 1; br 1; end; const 2; end", 0, impl.OK}, {true, "block 1; loop 0; br 1; end; const 2; end", 2, impl.ErrType}, {true, "block 1; const 1; loop 0; br 1; end; end", 3, impl.ErrType}, {true, "loop 1; block 0; br 1; end; const 1; end", 0, impl.OK}, {true, "loop 1; block 1; br 1; end; end", 0, impl.OK}, {true, "block 1; block 0; const 7; const 1; brif 1; drop; end; const 1; end", 0, impl.OK}, // out of two blocks
	})
}

// TestP18Ends has ends of arms, blocks and codes with one value too many and one too few, and such that are not reachable.
func TestP18Ends(t *testing.T) {
	checkFaults(t, []fault{
		{false, "", 0, impl.OK}, {true, "", 0, impl.ErrType}, {false, "const 1", 1, impl.ErrType}, {true, "const 1", 0, impl.OK}, {true, "const 1; const 2", 2, impl.ErrType}, {true, "const 1; drop", 2, impl.ErrType}, {true, "trap", 0, impl.OK}, {false, "const 1; trap", 0, impl.OK}, {true, "const 1; return", 0, impl.OK}, {false, "br 0", 0, impl.OK}, {true, "const 1; const 2; return", 0, impl.OK},
		{false, "block 0; end", 0, impl.OK}, {false, "block 0; const 1; end; drop", 2, impl.ErrType}, {true, "block 1; end", 1, impl.ErrType}, {true, "block 1; const 1; end", 0, impl.OK}, {true, "block 1; const 1; const 1; end", 3, impl.ErrType}, {true, "const 1; block 1; end", 2, impl.ErrType}, {true, "const 1; block 1; const 2; end; add", 0, impl.OK}, {true, "const 1; block 0; drop; end", 2, impl.ErrType}, {true, "const 1; block 0; drop; const 2; end", 2, impl.ErrType}, {true, "const 1; block 1; eqz; end", 2, impl.ErrType},
		{false, "loop 0; end", 0, impl.OK}, {true, "loop 1; const 1; end", 0, impl.OK}, {true, "loop 1; end", 1, impl.ErrType}, {false, "loop 0; const 1; end; drop", 2, impl.ErrType},
		{false, "get 0; if 0; end", 0, impl.OK}, {false, "get 0; if 0; const 1; end; drop", 3, impl.ErrType}, {false, "get 0; if 0; else; end", 0, impl.OK}, {false, "get 0; if 0; const 1; else; end", 3, impl.ErrType}, {false, "get 0; if 0; else; const 1; end", 4, impl.ErrType}, {true, "get 0; if 1; const 1; else; const 2; end", 0, impl.OK}, {true, "get 0; if 1; else; const 2; end", 2, impl.ErrType}, {true, "get 0; if 1; const 1; else; end", 4, impl.ErrType}, {true, "get 0; if 1; const 1; const 1; else; const 1; end", 4, impl.ErrType}, {true, "get 0; if 1; const 1; else; const 1; const 1; end", 6, impl.ErrType}, {false, "get 0; if 0; end; drop", 3, impl.ErrType}, {true, "get 0; get 1; if 0; drop; else; drop; end; get 0", 3, impl.ErrType},
		{true, "const 1; get 0; if 0; trap; else; end", 0, impl.OK}, {true, "get 0; if 1; trap; else; const 1; end", 0, impl.OK}, {true, "get 0; if 1; const 1; else; trap; end", 0, impl.OK}, {true, "get 0; if 1; const 1; const 2; trap; else; const 1; end", 0, impl.OK}, {false, "const 1; block 0; trap; end; drop", 0, impl.OK}, {false, "const 1; block 0; const 2; const 3; trap; end; drop", 0, impl.OK},
	})
}

// TestP18Effects has every instruction with just as many values above the base as it needs, and with others.
func TestP18Effects(t *testing.T) {
	failed := map[string]int{}
	for i, o := range opcodes {
		for a := range int64(3) {
			x := impl.Ins{Op: int64(i + 1), A: a}
			if text, ok := insModel(x); ok && o.word != "else" && o.word != "end" {
				for _, around := range []string{"", "block 0;", "block 1;", "get 0; loop 1;", "get 0; get 1; block 0; get 0; get 0; block 1;", "get 0; get 1; if 0;"} {
					for many := range 6 {
						if checkEffect(t, around+strings.Repeat("get 0;", many), text) {
							failed[text]++
						}
					}
				}
			}
		}
	}
	for text, many := range map[string]int{"const 1": 0, "get 0": 0, "block 1": 0, "loop 0": 0, "trap": 0, "call 0": 0, "br 0": 3, "return": 6, "drop": 6, "set 1": 6, "if 0": 6, "brif 0": 9, "tee 1": 6, "eqz": 6, "load8 0": 6, "load32 0": 6, "load64 0": 6, "host 1": 6, "add": 12, "shr": 12, "eq": 12, "ge": 12, "store8 0": 12, "store32 0": 12, "store64 0": 12, "host 0": 12, "call 1": 12, "select": 18, "call 2": 18} {
		is(t, "failures of "+text, all(int64(failed[text])), many)
	}
}

// checkEffect has an instruction behind others, which have no error, and reports whether it finds too few values above the base.
func checkEffect(t *testing.T, before, text string) bool {
	t.Helper()
	m := coreIn(t, 2, 1, true, before+text)
	c := modelOfCore(m, 1)
	at := len(c.code) - 1
	open := c.open(at)
	word := c.word(at)
	if a := c.code[at].A; (word == "br" || word == "brif") && a > int64(len(open)) || word == "host" && a > 1 {
		return false
	}
	pops, _ := c.effect(at)
	above := c.height(at) - c.base(open)
	// What comes behind the instruction may be wrong, but it must close all blocks.
	closing := map[string]string{"block": "; end", "loop": "; end", "if": "; else; end"}[word]
	for i := len(open) - 1; i >= 0; i-- {
		closing += "; end"
	}
	m = coreIn(t, 2, 1, true, before+text+closing)
	_, index, code := impl.CheckCore(m, 1)
	failed := index == int64(at) && code == impl.ErrType
	is(t, codeText(m.Cores[1]), all(failed, code == impl.OK || index >= int64(at)), above < pops+c.carried(at, open), true)
	checkCode(t, m, 1)
	return failed
}

func (c *codeModel) word(at int) string {
	return wordAt(c.code, at)
}

// TestP18Heights has stacks of MaxStack values and of one more.
func TestP18Heights(t *testing.T) {
	full := "24 of get 0;"
	checkFaults(t, []fault{
		{true, full + "return", 0, impl.OK}, {true, full + "get 0; return", 24, impl.ErrMany}, {true, full + "const 1; return", 24, impl.ErrMany}, {true, full + "tee 0; eqz; add; get 0; load8 0; return", 0, impl.OK}, {true, full + "add; get 0; get 0; return", 26, impl.ErrMany},
		{true, full + "call 0; return", 0, impl.OK}, {true, full + "call 2; return", 0, impl.OK}, {true, full + "host 0; return", 0, impl.OK}, {true, full + "block 0; end; return", 0, impl.OK}, {true, full + "loop 0; end; return", 0, impl.OK},
		{true, full + "block 1; trap; end; return", 26, impl.ErrMany}, {true, full + "loop 1; trap; end; return", 26, impl.ErrMany}, {true, full + "block 0; trap; end; return", 0, impl.OK}, {true, full + "drop; block 1; trap; end; return", 0, impl.OK}, {true, full + "block 1; const 1; end; return", 25, impl.ErrMany}, {true, full + "block 0; block 1; return; end; return; end; return", 26, impl.ErrType}, {true, full + "block 0; block 1; trap; end; return; end; return", 27, impl.ErrMany}, // behind OpEnd
		{true, full + "if 1; get 0; else; get 0; end; return", 0, impl.OK}, {true, full + "if 1; trap; else; trap; end; return", 0, impl.OK}, {true, full + "drop; block 0; get 0; if 1; trap; else; trap; end; return; end; return", 0, impl.OK}, {true, full + "block 0; block 1; br 1; end; drop; end; return", 27, impl.ErrMany}, {true, full + "block 1; br 0; end; return", 25, impl.ErrType},
	})
	for many := range int64(30) {
		text := strings.Repeat("get 0;", int(many)) + "br 0"
		m := coreIn(t, 1, 0, false, text)
		highest, code := impl.HighestOf(m, 1)
		if many > 24 {
			is(t, text, all(highest, code), 0, impl.ErrMany)
		} else {
			is(t, text, all(highest, code), many, impl.OK)
		}
	}
	for _, text := range []string{"host 0", "call 0"} {
		m := impl.Module{Pages: 1, Imports: []impl.Import{{Name: "a", Result: true}}, Cores: []impl.Core{{Name: "a", Result: true, Code: codeIn(t, "24 of const 1;"+text+"; trap")}}}
		_, at, code := impl.CheckCore(m, 0)
		is(t, "a result above MaxStack: "+text, all(at, code), 24, impl.ErrMany)
		m.Cores[0].Code = m.Cores[0].Code[1:]
		is(t, "a result at MaxStack: "+text, all(checkCode(t, m, 0)), impl.OK)
	}
}

// TestP18References has callees, locals and depths at and beyond what there is.
func TestP18References(t *testing.T) {
	checkFaults(t, []fault{
		{true, "get 0", 0, impl.OK}, {true, "get 2", 0, impl.OK}, {true, "get 3", 0, impl.ErrRange}, {true, "get 15", 0, impl.ErrRange}, {false, "get 0; set 2", 0, impl.OK}, {false, "get 0; set 3", 1, impl.ErrRange}, {true, "get 0; tee 2", 0, impl.OK}, {true, "get 0; tee 3", 1, impl.ErrRange},
		{false, "call 0", 0, impl.OK}, {false, "call 1", 0, impl.ErrType}, {false, "get 0; get 0; call 1", 0, impl.OK}, {true, "get 0; get 0; get 0; call 2", 0, impl.OK}, {true, "call 3", 0, impl.ErrRange}, {true, "call 7", 0, impl.ErrRange}, {true, "get 0; get 0; host 0", 0, impl.OK}, {false, "get 0; host 1", 0, impl.OK}, {true, "host 2", 0, impl.ErrRange}, {true, "host 11", 0, impl.ErrRange},
		{false, "br 0", 0, impl.OK}, {false, "br 1", 0, impl.ErrRange}, {false, "br 6", 0, impl.ErrRange}, {false, "get 0; brif 1", 1, impl.ErrRange}, {false, "block 0; br 1; end", 0, impl.OK}, {false, "block 0; br 2; end", 1, impl.ErrRange}, {false, "block 0; get 0; brif 1; end", 0, impl.OK}, {false, "block 0; get 0; brif 2; end", 2, impl.ErrRange}, {false, "block 0; end; br 1", 2, impl.ErrRange},
		{false, strings.Repeat("block 0;", 6) + "br 6;" + strings.Repeat("end;", 6), 0, impl.OK}, {false, strings.Repeat("loop 0;", 5) + "br 5;" + strings.Repeat("end;", 5), 0, impl.OK}, {false, strings.Repeat("block 0;", 5) + "br 6;" + strings.Repeat("end;", 5), 5, impl.ErrRange}, {false, strings.Repeat("block 0;", 6) + "get 0; brif 5; br 0;" + strings.Repeat("end;", 6), 0, impl.OK},
		{true, "const 9223372036854775807", 0, impl.OK}, {true, "const -9223372036854775808", 0, impl.OK}, {true, "const 9223372036854775807; load64 4096", 0, impl.OK}, {false, "const 1; const 2; store8 4096", 0, impl.OK},
	})
	for params := int64(0); params <= 8; params++ {
		for locals := int64(0); locals <= 8; locals++ {
			for a := int64(0); a < 16; a++ {
				m := coreIn(t, params, locals, false, "const 1; set "+strconv.FormatInt(a, 10))
				is(t, shown(params, locals, a), all(impl.ModuleOk(m), checkCode(t, m, 1) == impl.OK), a < params+locals, a < params+locals)
			}
		}
	}
	full := greatestModule()
	for k := range full.Cores {
		full.Cores[k].Code = codeIn(t, "get 15; get 15; get 15; get 15; get 15; get 15; get 15; get 15; call 7; get 14; get 13; get 12; get 11; get 10; get 9; get 8; host 11")
	}
	is(t, "the greatest operands", all(impl.ModuleOk(full)), true)
	full.Cores = full.Cores[:7]
	_, at, code := impl.CheckModule(full)
	is(t, "a core fewer", all(at, code), 8, impl.ErrRange)
	full = greatestModule()
	full.Cores, full.Imports = full.Cores[:1], full.Imports[:11]
	full.Cores[0].Code = codeIn(t, "get 0; get 0; get 0; get 0; get 0; get 0; get 0; get 0; host 11")
	_, at, code = impl.CheckModule(full)
	is(t, "an import fewer", all(at, code), 8, impl.ErrRange)
}

// TestP18Order has code with two errors, of which one comes first.
func TestP18Order(t *testing.T) {
	full := "24 of get 0;"
	checkFaults(t, []fault{
		{false, "drop; block 0", 2, impl.ErrState}, {false, "get 9; end", 1, impl.ErrState}, {false, "trap; drop; else", 2, impl.ErrState}, {true, "add; get 0; if 1; end", 3, impl.ErrType}, {false, "drop;" + strings.Repeat("block 0;", 7), 7, impl.ErrMany}, {false, full + "get 0; end", 25, impl.ErrState}, // BlocksOf before the scan
		{false, "trap; get 9", 1, impl.ErrState}, {false, "trap; call 7", 1, impl.ErrState}, {false, "trap; host 7", 1, impl.ErrState}, {false, "trap; br 5", 1, impl.ErrState}, {false, "trap; drop", 1, impl.ErrState}, {false, "return; add", 1, impl.ErrState}, {true, "trap; return", 1, impl.ErrState}, {false, full + "br 0; get 0", 25, impl.ErrState}, // ErrState before the others
		{false, "set 9", 0, impl.ErrRange}, {false, "tee 9", 0, impl.ErrRange}, {false, "brif 1", 0, impl.ErrRange}, {true, "br 1", 0, impl.ErrRange}, {false, full + "get 9", 24, impl.ErrRange}, {false, full + "call 3", 24, impl.ErrRange}, {true, "brif 6", 0, impl.ErrRange}, // ErrRange before the others
		{false, full + "block 0; tee 0; end", 25, impl.ErrType}, {false, full + "block 0; call 2; end", 25, impl.ErrType}, {false, full + "block 0; host 0; end", 25, impl.ErrType}, {true, "brif 0", 0, impl.ErrType}, {false, "drop; trap; drop", 0, impl.ErrType}, // too few values
		{true, "get 0; drop; return; get 0", 2, impl.ErrType}, {false, full + "get 0; drop", 24, impl.ErrMany}, {false, "add; get 9", 0, impl.ErrType}, {false, "get 9; add", 0, impl.ErrRange}, {false, "drop; get 0", 0, impl.ErrType}, // the first instruction
		{false, full + "block 1; get 0; end", 25, impl.ErrMany}, {false, full + "block 1; end", 25, impl.ErrType}, {false, "block 1; end; drop; drop", 1, impl.ErrType}, // at OpEnd
	})
}

func TestP18CheckModule(t *testing.T) {
	bad, good := codeIn(t, "block 0; add; end"), codeIn(t, "block 0; end")
	worse := codeIn(t, "trap; end")
	for _, c := range []struct {
		codes       [][]impl.Ins
		k, at, code int64
	}{
		{nil, 0, 0, impl.OK}, {[][]impl.Ins{good}, 0, 0, impl.OK}, {[][]impl.Ins{bad}, 0, 1, impl.ErrType}, {[][]impl.Ins{bad, good, good}, 0, 1, impl.ErrType}, {[][]impl.Ins{good, good, bad}, 2, 1, impl.ErrType}, {[][]impl.Ins{good, bad, worse}, 1, 1, impl.ErrType}, {[][]impl.Ins{good, worse, bad}, 1, 1, impl.ErrState}, {[][]impl.Ins{nil, nil, nil, nil, nil, nil, nil, worse}, 7, 1, impl.ErrState}, {[][]impl.Ins{good, good, good, good, good, good, good, good}, 0, 0, impl.OK},
	} {
		m := impl.Module{Pages: 1}
		for i, code := range c.codes {
			m.Cores = append(m.Cores, impl.Core{Name: strconv.Itoa(i), Code: code})
		}
		k, at, code := impl.CheckModule(m)
		is(t, shown(c.codes), all(k, at, code, impl.ModuleOk(m)), c.k, c.at, c.code, c.code == impl.OK)
		if len(m.Cores) > 0 {
			m.Cores[len(m.Cores)-1].Name = "A"
			checkNoModule(t, "a bad name", m)
		}
	}
}

// TestP18Targets has every position and depth of code with all kinds of blocks.
func TestP18Targets(t *testing.T) {
	m := coreIn(t, 1, 0, false, "get 0; get 0; loop 0; block 1; get 0; if 1; get 0; brif 2; get 0; else; br 2; end; end; drop; end; drop; drop")
	for _, c := range []struct{ at, depth, to, height, code int64 }{
		{0, 0, 17, 0, impl.OK}, {17, 0, 17, 0, impl.OK}, {17, 1, 0, 0, impl.ErrRange}, {17, -1, 0, 0, impl.ErrRange}, {18, 0, 0, 0, impl.ErrRange}, {2, 0, 17, 0, impl.OK}, {3, 0, 3, 2, impl.OK}, {3, 1, 17, 0, impl.OK}, {4, 0, 13, 3, impl.OK}, {5, 0, 13, 3, impl.OK}, {5, 1, 3, 2, impl.OK}, {5, 2, 17, 0, impl.OK}, {5, 3, 0, 0, impl.ErrRange},
		{6, 0, 12, 3, impl.OK}, {6, 1, 13, 3, impl.OK}, {6, 2, 3, 2, impl.OK}, {6, 3, 17, 0, impl.OK}, {6, 4, 0, 0, impl.ErrRange}, {9, 0, 12, 3, impl.OK}, {10, 0, 12, 3, impl.OK}, {10, 2, 3, 2, impl.OK}, {12, 0, 13, 3, impl.OK}, {12, 2, 17, 0, impl.OK}, {12, 3, 0, 0, impl.ErrRange}, {14, 0, 3, 2, impl.OK}, {15, 0, 17, 0, impl.OK}, {15, 1, 0, 0, impl.ErrRange},
		{11, 0, 0, 0, impl.ErrNone}, {11, 1, 0, 0, impl.ErrRange}, {11, -1, 0, 0, impl.ErrRange}, {-1, 0, 0, 0, impl.ErrRange}, {11, 6, 0, 0, impl.ErrRange},
	} {
		to, height, code := impl.TargetOf(m, 1, c.at, c.depth)
		is(t, "TargetOf at "+shown(c.at, c.depth), all(to, height, code), c.to, c.height, c.code)
	}
	checkTargets(t, m, 1)
	checkPaths(t, m, 1)
	bad := coreIn(t, 1, 0, false, "add")
	for _, n := range append(edges(), 3) {
		to, height, code := impl.TargetOf(bad, 1, n, n)
		is(t, "TargetOf in a core with an error", all(to, height, code), 0, 0, impl.ErrType)
		to, height, code = impl.TargetOf(bad, 3, n, n)
		is(t, "TargetOf in no core", all(to, height, code), 0, 0, impl.ErrForm)
		if n < 0 || n > 17 {
			to, height, code = impl.TargetOf(m, 1, n, 0)
			is(t, "TargetOf at no position", all(to, height, code), 0, 0, impl.ErrRange)
			to, height, code = impl.TargetOf(m, 1, 6, n)
			is(t, "TargetOf with no depth", all(to, height, code), 0, 0, impl.ErrRange)
		}
	}
}

// TestP18EveryCode has all codes of up to so many of a few instructions.
func TestP18EveryCode(t *testing.T) {
	t.Parallel()
	met := map[int64]int{}
	m := coreIn(t, 1, 0, false, "")
	m.Cores = m.Cores[1:2]
	var visit func(code, words []impl.Ins, left int)
	visit = func(code, words []impl.Ins, left int) {
		for _, result := range []bool{false, true} {
			m.Cores[0].Result, m.Cores[0].Code = result, code
			found := checkCode(t, m, 0)
			met[found]++
			if found == impl.OK {
				checkPaths(t, m, 0)
			}
		}
		if left == 0 {
			return
		}
		for _, x := range words {
			visit(append(slices.Clone(code), x), words, left-1)
		}
	}
	visit(nil, codeIn(t, "const 1; drop; add; block 0; block 1; loop 1; if 0; if 1; else; end; br 0; br 1; brif 0; return; trap"), 4)
	visit(codeIn(t, "get 0; get 0"), codeIn(t, "if 0; if 1; else; end; br 0; drop"), 6)
	visit(codeIn(t, "block 1; get 0"), codeIn(t, "loop 0; end; brif 1; get 0; trap"), 6)
	is(t, "enough of all", all(met[impl.OK] > 200, met[impl.ErrState] > 1000, met[impl.ErrType] > 1000, met[impl.ErrRange] > 100), true, true, true, true)
}

// someCode makes up code of core k that has no error. It tries instructions until the model finds no fault in one.
func someCode(r *rand.Rand, m impl.Module, k int, size int) {
	for range 4 * size {
		c := modelOfCore(m, k)
		if len(c.code) > size {
			break
		}
		i := someIns(r)
		switch r.Intn(6) {
		case 0:
			i = impl.Ins{Op: []int64{impl.OpGet, impl.OpConst, impl.OpEnd, impl.OpElse}[r.Intn(4)]}
		case 1:
			i.Op = []int64{impl.OpBlock, impl.OpLoop, impl.OpIf, impl.OpBrIf}[r.Intn(4)]
			i.A = r.Int63n(2)
		}
		m.Cores[k].Code = append(m.Cores[k].Code, i)
		if _, ok := insModel(i); !ok || !isSound(m, k) {
			m.Cores[k].Code = m.Cores[k].Code[:len(m.Cores[k].Code)-1]
		}
	}
	finish(m, k)
}

// isSound reports whether the last instruction of a core has no error, if those before it have none.
func isSound(m impl.Module, k int) bool {
	c := modelOfCore(m, k)
	at := len(c.code) - 1
	_, place, code := c.blocks()
	return (code == impl.OK || place > int64(at)) && c.faultAt(at) == impl.OK
}

// finish appends to code what closes its blocks and makes the heights right.
func finish(m impl.Module, k int) {
	for range 100 {
		c := modelOfCore(m, k)
		at := len(c.code)
		h, open := c.height(at), c.open(at)
		want := one(c.core.Result)
		if len(open) > 0 {
			want = c.base(open) + c.code[open[len(open)-1]].A
		}
		next := impl.Ins{Op: impl.OpEnd}
		switch {
		case h != unreachable && h < want:
			next.Op = impl.OpConst
		case h != unreachable && h > want:
			next.Op = impl.OpDrop
		case len(open) == 0:
			return
		case c.word(open[len(open)-1]) == "if" && c.code[open[len(open)-1]].A == 1 && c.belongsTo(open[len(open)-1], "else") < 0:
			next.Op = impl.OpElse
		}
		m.Cores[k].Code = append(m.Cores[k].Code, next)
	}
}

// TestP18Model has codes that are made up so that they have no error, and then changed a little.
func TestP18Model(t *testing.T) {
	t.Parallel()
	r := rand.New(rand.NewSource(161))
	met, valid, positions := map[int64]int{}, 0, 0
	words := map[string]int{}
	for range 1200 {
		m := someModule(r)
		m.Cores = append(m.Cores, impl.Core{Name: "it"})[:min(len(m.Cores)+1, impl.MaxCores)]
		k := r.Intn(len(m.Cores))
		m.Cores[k].Code = nil
		if !shapeModel(m) {
			continue
		}
		someCode(r, m, k, r.Intn([]int{8, 30, 70}[r.Intn(3)]))
		code := checkCode(t, m, k)
		if code == impl.OK {
			valid++
			for i := range m.Cores[k].Code {
				words[wordAt(m.Cores[k].Code, i)]++
			}
			positions += checkPaths(t, m, k)
			if len(m.Cores[k].Code) < 40 {
				checkTargets(t, m, k)
			}
		}
		for range 6 {
			changed := roomy(m)
			changeCode(r, &changed.Cores[k])
			code := checkCode(t, changed, k)
			met[code]++
			if code == impl.OK {
				checkPaths(t, changed, k)
			}
		}
	}
	is(t, "enough that is valid", all(valid > 900, positions > 10000, int64(len(words))), true, true, 40)
	is(t, "enough of all errors", all(met[impl.OK] > 300, met[impl.ErrState] > 300, met[impl.ErrType] > 300, met[impl.ErrRange] > 100, met[impl.ErrMany] > 20), true, true, true, true, true)
}

// changeCode changes some instructions of a core.
func changeCode(r *rand.Rand, c *impl.Core) {
	for range 1 + r.Intn(3) {
		if len(c.Code) == 0 || len(c.Code) >= impl.MaxCode {
			return
		}
		i := r.Intn(len(c.Code))
		switch r.Intn(4) {
		case 0:
			c.Code = slices.Delete(c.Code, i, i+1)
		case 1:
			c.Code = slices.Insert(c.Code, i, someIns(r))
		case 2:
			c.Code[i] = someIns(r)
		default:
			j := r.Intn(len(c.Code))
			c.Code[i], c.Code[j] = c.Code[j], c.Code[i]
		}
	}
}

// checkCall are the arguments of the functions of chapter 16.
type checkCall struct {
	M            impl.Module
	K, At, Depth int64
}

func TestP1Check(t *testing.T) {
	call := func(c checkCall) []any {
		places, at, code := impl.CheckCore(c.M, c.K)
		core, place, moduleCode := impl.CheckModule(c.M)
		highest, highestCode := impl.HighestOf(c.M, c.K)
		to, height, targetCode := impl.TargetOf(c.M, c.K, c.At, c.Depth)
		list := all(places, at, code, core, place, moduleCode, impl.ModuleOk(c.M), highest, highestCode, to, height, targetCode)
		for _, core := range c.M.Cores {
			blocks, at, code := impl.BlocksOf(core)
			list = append(list, blocks, at, code)
		}
		return list
	}
	deep := strings.Repeat("block 0; loop 0;", 3) + "get 0; brif 3; get 0; brif 6" + strings.Repeat(";end", 6)
	list := []impl.Module{{}, {Pages: 1}, plainModule(), greatestModule(), coreIn(t, 1, 0, true, chapterExample), coreIn(t, 1, 0, false, deep), coreIn(t, 0, 0, false, "block 0"), coreIn(t, 0, 0, false, "add"), coreIn(t, 1, 0, true, "get 0; if 1; trap; else; get 0; end"), coreIn(t, 0, 0, false, strings.Repeat("block 0; end;", 60))}
	for i, do := range moduleChanges {
		m := plainModule()
		do(&m)
		if i < 34 && len(m.Imports)+len(m.Cores) < 100 {
			list = append(list, m)
		}
	}
	for i, m := range list {
		for _, k := range []int64{0, 1, 2, -1, math.MaxInt64, math.MinInt64} {
			for _, n := range []int64{0, 1, 6, 9, -1, math.MaxInt64, math.MinInt64} {
				pure(t, shown(i, k, n), checkCall{m, k, n, n & 3}, call)
				if k == 1 {
					pure(t, shown(i, k, 5, n), checkCall{m, k, 5, n}, call)
				}
			}
		}
	}
}
