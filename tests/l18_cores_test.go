package tests

import (
	"fmt"
	"math"
	"math/big"
	"math/rand"
	"slices"
	"strconv"
	"strings"
	"testing"

	"loop.example/g00901/impl"
)

// machineModel executes the cores of a module as chapter 18 says. It finds the heights and blocks with the model of chapter 16.
type machineModel struct {
	module impl.Module
	valid  bool
	cores  []*codeModel
	places [][]impl.CodePlace
}

func machineModelOf(m impl.Module) *machineModel {
	mm := &machineModel{module: m, valid: shapeModel(m)}
	for k := range m.Cores {
		if !mm.valid {
			break
		}
		c := modelOfCore(m, k)
		places, _, code := c.places()
		mm.valid = code == impl.OK
		mm.cores, mm.places = append(mm.cores, c), append(mm.places, places)
	}
	return mm
}

// modelFrame is a frame that has its own values instead of a part of a common stack.
type modelFrame struct {
	core, pc       int
	locals, values []int64
}

// word is the mnemonic of the instruction at an index; there is none at the end of the code.
func (mm *machineModel) word(core, pc int) string {
	if pc == len(mm.cores[core].code) {
		return ""
	}
	return wordAt(mm.cores[core].code, pc)
}

// isBare reports whether all fields are zero that only a machine with frames has.
func isBare(x impl.Machine) bool {
	return len(x.Frames) == 0 && len(x.Stack) == 0 && len(x.Args) == 0 && x.Import == 0
}

// ok reports whether x is a valid state.
func (mm *machineModel) ok(x impl.Machine) bool {
	switch {
	case !mm.valid:
		return false
	case x.Status == 3:
		return isBare(x) && x.Trap == 0
	case x.Status == 4:
		return isBare(x) && x.Result == 0 && x.Trap >= 1 && x.Trap <= 4
	case x.Status == 1 && (x.Import != 0 || len(x.Args) != 0), x.Status != 1 && x.Status != 2, x.Result != 0, x.Trap != 0, len(x.Frames) < 1, len(x.Frames) > 12, x.Frames[0].Base != 0:
		return false
	}
	for n := range x.Frames {
		if !mm.frameOk(x, n) {
			return false
		}
	}
	return true
}

// frameOk reports whether frame n is as it has to be in a machine that runs or waits for the host.
func (mm *machineModel) frameOk(x impl.Machine, n int) bool {
	f := x.Frames[n]
	if f.Core < 0 || f.Core >= int64(len(mm.cores)) {
		return false
	}
	c := mm.cores[f.Core]
	if f.PC < 0 || f.PC > int64(len(c.code)) || f.Base < 0 || f.Base > int64(len(x.Stack)) || int64(len(f.Locals)) != c.core.Params+c.core.Locals {
		return false
	}
	place := mm.places[f.Core][f.PC]
	word, end, passed := mm.word(int(f.Core), int(f.PC)), int64(len(x.Stack)), int64(0)
	switch {
	case n+1 < len(x.Frames):
		end = x.Frames[n+1].Base
		if word != "call" || c.code[f.PC].A != x.Frames[n+1].Core {
			return false
		}
		passed = mm.module.Cores[c.code[f.PC].A].Params
	case x.Status == 2:
		if word != "host" || c.code[f.PC].A != x.Import {
			return false
		}
		passed = mm.module.Imports[x.Import].Params
		if int64(len(x.Args)) != passed {
			return false
		}
	}
	return place.Known && end >= 0 && end <= int64(len(x.Stack)) && end-f.Base == place.Height-passed
}

// unpack gives each frame of a valid state its values.
func unpack(x impl.Machine) []modelFrame {
	var frames []modelFrame
	for n, f := range x.Frames {
		end := int64(len(x.Stack))
		if n+1 < len(x.Frames) {
			end = x.Frames[n+1].Base
		}
		frames = append(frames, modelFrame{int(f.Core), int(f.PC), slices.Clone(f.Locals), slices.Clone(x.Stack[f.Base:end])})
	}
	return frames
}

// pack is a running machine with these frames.
func pack(frames []modelFrame) impl.Machine {
	x := impl.Machine{Status: 1}
	for _, f := range frames {
		x.Frames = append(x.Frames, impl.CoreFrame{Core: int64(f.core), PC: int64(f.pc), Base: int64(len(x.Stack)), Locals: slices.Clone(f.locals)})
		x.Stack = append(x.Stack, f.values...)
	}
	return x
}

func (f *modelFrame) push(n int64) {
	f.values = append(f.values, n)
}

// pop removes the last values of a frame and returns them in their order.
func (f *modelFrame) pop(many int64) []int64 {
	at := int64(len(f.values)) - many
	list := slices.Clone(f.values[at:])
	f.values = f.values[:at]
	return list
}

// wrapped is the int64 with the same 64 lowest bits.
func wrapped(n *big.Int) int64 {
	mask := new(big.Int).SetUint64(math.MaxUint64)
	return int64(mask.And(mask, n).Uint64())
}

// computed is what an instruction makes of two values, and whether it makes something.
func computed(word string, first, second int64) (int64, bool) {
	a, b, n := big.NewInt(first), big.NewInt(second), new(big.Int)
	distance := uint(new(big.Int).Mod(b, big.NewInt(64)).Uint64())
	if b.Sign() == 0 && (word == "div" || word == "rem") {
		return 0, false
	}
	switch word {
	case "add":
		n.Add(a, b)
	case "sub":
		n.Sub(a, b)
	case "mul":
		n.Mul(a, b)
	case "div":
		n.Quo(a, b)
	case "rem":
		n.Rem(a, b)
	case "and":
		n.And(a, b)
	case "or":
		n.Or(a, b)
	case "xor":
		n.Xor(a, b)
	case "shl":
		n.Lsh(a, distance)
	case "shr":
		n.Rsh(a, distance)
	default:
		holds := map[string]bool{"eq": a.Cmp(b) == 0, "ne": a.Cmp(b) != 0, "lt": a.Cmp(b) < 0, "gt": a.Cmp(b) > 0, "le": a.Cmp(b) <= 0, "ge": a.Cmp(b) >= 0}
		n.SetInt64(one(holds[word]))
	}
	return wrapped(n), true
}

// accessed returns the address of what an instruction accesses, if it is within the memory.
func accessed(mem impl.Memory, address, operand, width int64) (int64, bool) {
	at := new(big.Int).Add(big.NewInt(address), big.NewInt(operand))
	end := new(big.Int).Add(at, big.NewInt(width))
	return at.Int64(), address >= 0 && end.Cmp(big.NewInt(int64(len(mem.Bytes)))) <= 0
}

// widthOf is the number of bytes that a word for a load or store accesses.
func widthOf(word string) int64 {
	bits, _ := strconv.Atoi(strings.TrimLeft(word, "loadstre"))
	return int64(bits / 8)
}

// trapped is a machine that has stopped with a trap.
func trapped(code int64) impl.Machine {
	return impl.Machine{Status: 4, Trap: code}
}

// left is what a machine becomes when its last frame returns.
func (mm *machineModel) left(frames []modelFrame) impl.Machine {
	f := frames[len(frames)-1]
	results := f.pop(one(mm.cores[f.core].core.Result))
	frames = frames[:len(frames)-1]
	if len(frames) == 0 {
		done := impl.Machine{Status: 3}
		if len(results) > 0 {
			done.Result = results[0]
		}
		return done
	}
	caller := &frames[len(frames)-1]
	caller.values = append(caller.values, results...)
	caller.pc++
	return pack(frames)
}

// jump takes a branch.
func (mm *machineModel) jump(f *modelFrame, depth int64) {
	c := mm.cores[f.core]
	open := c.open(f.pc)
	to, height, _ := c.target(int64(f.pc), depth)
	carried := one(c.core.Result)
	if i := len(open) - 1 - int(depth); i >= 0 {
		carried = c.code[open[i]].A
		if wordAt(c.code, open[i]) == "loop" {
			carried = 0
		}
	}
	kept := f.pop(carried)
	f.values = append(f.values[:height-carried], kept...)
	f.pc = int(to)
}

// step executes one instruction of a valid running machine.
func (mm *machineModel) step(x impl.Machine, mem impl.Memory) (impl.Machine, impl.Memory) {
	frames := unpack(x)
	f := &frames[len(frames)-1]
	word, a := mm.word(f.core, f.pc), int64(0)
	if word != "" {
		a = mm.cores[f.core].code[f.pc].A
	}
	switch {
	case word == "" || word == "return":
		return mm.left(frames), mem
	case word == "trap":
		return trapped(4), mem
	case word == "call" && len(frames) == 12:
		return trapped(3), mem
	case word == "call":
		callee := mm.module.Cores[a]
		locals := append(f.pop(callee.Params), make([]int64, callee.Locals)...)
		return pack(append(frames, modelFrame{core: int(a), locals: locals})), mem
	case word == "host":
		args := f.pop(mm.module.Imports[a].Params)
		y := pack(frames)
		y.Status, y.Import, y.Args = 2, a, args
		return y, mem
	case strings.HasPrefix(word, "load") || strings.HasPrefix(word, "store"):
		after, ok := f.access(mem, word, a)
		if !ok {
			return trapped(2), mem
		}
		return pack(frames), after
	case !mm.within(f, word, a):
		return trapped(1), mem
	}
	return pack(frames), mem
}

// access executes a load or store, if it can.
func (f *modelFrame) access(mem impl.Memory, word string, a int64) (impl.Memory, bool) {
	width, isLoad := widthOf(word), strings.HasPrefix(word, "load")
	list := f.pop(2 - one(isLoad))
	at, ok := accessed(mem, list[0], a, width)
	if !ok {
		return mem, false
	}
	f.pc++
	if isLoad {
		n := new(big.Int)
		for i := width - 1; i >= 0; i-- {
			n.Add(n.Lsh(n, 8), big.NewInt(int64(mem.Bytes[at+i])))
		}
		f.push(wrapped(n))
		return mem, true
	}
	stored := []byte(mem.Bytes)
	for i := range width {
		stored[at+i] = byte(new(big.Int).Rsh(big.NewInt(list[1]), uint(8*i)).Int64())
	}
	mem.Bytes = string(stored)
	return mem, true
}

// within executes an instruction that concerns only the last frame, if it can.
func (mm *machineModel) within(f *modelFrame, word string, a int64) bool {
	c, at := mm.cores[f.core], f.pc
	f.pc++
	switch word {
	case "const":
		f.push(a)
	case "get":
		f.push(f.locals[a])
	case "set", "tee":
		f.locals[a] = f.pop(1)[0]
		if word == "tee" {
			f.push(f.locals[a])
		}
	case "drop":
		f.pop(1)
	case "eqz":
		f.push(one(f.pop(1)[0] == 0))
	case "select":
		list := f.pop(3)
		f.push(list[one(list[2] == 0)])
	case "block", "loop", "end":
	case "if":
		if f.pop(1)[0] == 0 {
			arm := c.belongsTo(at, "else")
			if arm < 0 {
				arm = c.belongsTo(at, "end")
			}
			f.pc = arm + 1
		}
	case "else":
		open := c.open(at)
		f.pc = c.belongsTo(open[len(open)-1], "end") + 1
	case "br", "brif":
		if word == "br" || f.pop(1)[0] != 0 {
			f.pc = at
			mm.jump(f, a)
		}
	default:
		list := f.pop(2)
		n, ok := computed(word, list[0], list[1])
		f.push(n)
		return ok
	}
	return true
}

// coder makes up code that runs for a while.
type coder struct {
	r    *rand.Rand
	m    impl.Module
	core impl.Core
	// stores tells whether there may be instructions that store.
	stores bool
	// open are the instructions that opened the blocks that are open.
	open []impl.Ins
}

func (c *coder) add(op, a int64) {
	i := impl.Ins{Op: op, A: a}
	c.core.Code = append(c.core.Code, i)
	switch op {
	case impl.OpBlock, impl.OpLoop, impl.OpIf:
		c.open = append(c.open, i)
	case impl.OpEnd:
		c.open = c.open[:len(c.open)-1]
	}
}

// chance says yes once in so many cases, and never while there is too much code.
func (c *coder) chance(many int) bool {
	return c.r.Intn(many) == 0 && len(c.core.Code) < 70 && len(c.open) < impl.MaxBlocks-1
}

// someOperand makes up a value; it is often an address.
func someOperand(r *rand.Rand) int64 {
	switch r.Intn(8) {
	case 0:
		return int64(r.Uint64())
	case 1:
		return edges()[r.Intn(len(edges()))]
	case 2, 3:
		return r.Int63n(300)
	}
	return r.Int63n(7) - 1
}

// local is the index of a local variable.
func (c *coder) local() int64 {
	return c.r.Int63n(c.core.Params + c.core.Locals)
}

// value appends code that pushes a value.
func (c *coder) value(deep int) {
	offset := c.r.Int63n(20) * c.r.Int63n(2)
	switch {
	case deep > 0 && c.chance(3):
		c.value(deep - 1)
		c.value(deep - 1)
		c.add(impl.OpAdd+c.r.Int63n(16), 0)
	case deep > 0 && c.chance(8):
		c.value(deep - 1)
		c.add(impl.OpEqz, 0)
	case deep > 0 && c.chance(6):
		c.value(deep - 1)
		c.add(impl.OpLoad8+c.r.Int63n(3), offset)
	case deep > 0 && c.chance(9):
		c.value(deep - 1)
		c.value(deep - 1)
		c.value(deep - 1)
		c.add(impl.OpSelect, 0)
	case deep > 0 && c.chance(6):
		c.valueBlock(deep - 1)
	case deep > 0 && c.chance(4):
		c.call(deep-1, true)
	case c.r.Intn(2) == 0:
		c.add(impl.OpGet, c.local())
	default:
		c.add(impl.OpConst, someOperand(c.r))
	}
}

// valueBlock appends a block that pushes a value.
func (c *coder) valueBlock(deep int) {
	switch c.r.Intn(3) {
	case 0:
		c.add(impl.OpBlock, 1)
		c.statement(deep)
		c.value(deep)
		c.value(deep)
		c.add(impl.OpBrIf, 0)
		c.add(impl.OpDrop, 0)
	case 1:
		c.add(impl.OpLoop, 1)
		c.statement(deep)
	default:
		c.value(deep)
		c.add(impl.OpIf, 1)
		c.value(deep)
		c.add(impl.OpElse, 0)
	}
	c.value(deep)
	c.add(impl.OpEnd, 0)
}

// call appends a call of a core or import that has a result, or of any one whose result is dropped.
func (c *coder) call(deep int, result bool) {
	for range 10 {
		op, k := int64(impl.OpCall), c.r.Intn(len(c.m.Cores))
		params, has := c.m.Cores[k].Params, c.m.Cores[k].Result
		if c.r.Intn(3) == 0 {
			op, k = impl.OpHost, c.r.Intn(len(c.m.Imports))
			params, has = c.m.Imports[k].Params, c.m.Imports[k].Result
		}
		if result && !has {
			continue
		}
		for range params {
			c.value(deep - 1)
		}
		c.add(op, int64(k))
		if has && !result {
			c.add(impl.OpDrop, 0)
		}
		return
	}
	if result {
		c.add(impl.OpConst, 1)
	}
}

// leave appends a way out of some blocks or of the core, with more values on the stack.
func (c *coder) leave(deep int) {
	c.value(deep)
	c.add(impl.OpIf, 0)
	for range c.r.Intn(3) {
		c.add(impl.OpConst, someOperand(c.r))
	}
	depth := c.r.Intn(len(c.open) + 1)
	i := len(c.open) - 1 - depth
	if i < 0 && c.core.Result || i >= 0 && c.open[i].Op != impl.OpLoop && c.open[i].A == 1 {
		c.value(deep)
	}
	switch {
	case c.chance(8):
		c.add(impl.OpTrap, 0)
	case i < 0 && c.r.Intn(2) == 0:
		c.add(impl.OpReturn, 0)
	default:
		c.add(impl.OpBr, int64(depth))
	}
	c.add(impl.OpEnd, 0)
}

// statement appends code that leaves no value.
func (c *coder) statement(deep int) {
	switch {
	case deep > 0 && c.chance(4):
		c.leave(deep - 1)
	case deep > 0 && c.chance(4):
		c.add(impl.OpBlock, 0)
		c.statement(deep - 1)
		c.value(deep - 1)
		c.add(impl.OpBrIf, c.r.Int63n(2)*one(len(c.open) > 1 && c.open[len(c.open)-2].A == 0))
		c.statement(deep - 1)
		c.add(impl.OpEnd, 0)
	case deep > 0 && c.chance(4):
		c.loop(deep - 1)
	case deep > 0 && c.chance(4):
		c.value(deep - 1)
		c.add(impl.OpIf, 0)
		c.statement(deep - 1)
		if c.r.Intn(2) == 0 {
			c.add(impl.OpElse, 0)
			c.statement(deep - 1)
		}
		c.add(impl.OpEnd, 0)
	case c.chance(4):
		c.call(deep-1, false)
	case c.stores && c.chance(3):
		c.value(deep - 1)
		c.value(deep - 1)
		c.add(impl.OpStore8+c.r.Int63n(3), c.r.Int63n(20))
	case c.r.Intn(2) == 0:
		c.value(deep)
		c.add(impl.OpSet, c.local())
	default:
		c.value(deep)
		c.add(impl.OpTee, c.local())
		c.add(impl.OpDrop, 0)
	}
}

// loop appends a loop that counts down, as the example does.
func (c *coder) loop(deep int) {
	counter := c.local()
	c.add(impl.OpConst, 1+c.r.Int63n(4))
	c.add(impl.OpSet, counter)
	c.add(impl.OpLoop, 0)
	c.statement(deep)
	c.add(impl.OpGet, counter)
	c.add(impl.OpConst, 1)
	c.add(impl.OpSub, 0)
	c.add(impl.OpTee, counter)
	c.add(impl.OpBrIf, 0)
	c.add(impl.OpEnd, 0)
}

// someProgram makes up a valid module whose cores call each other and the host.
func someProgram(r *rand.Rand) *machineModel {
	for {
		m := impl.Module{Pages: 1, Imports: []impl.Import{{Name: "ask", Params: 2, Result: true}, {Name: "tell", Params: 1}, {Name: "now", Result: true}}}
		for k := range 1 + r.Intn(4) {
			m.Cores = append(m.Cores, impl.Core{Name: strconv.Itoa(k), Params: r.Int63n(4), Locals: 1 + r.Int63n(3), Result: r.Intn(3) > 0})
		}
		stores := r.Intn(4) > 0
		for k := range m.Cores {
			c := coder{r: r, m: m, core: m.Cores[k], stores: stores}
			for range 1 + r.Intn(3) {
				c.statement(4)
			}
			if c.core.Result {
				c.value(3)
			}
			m.Cores[k] = c.core
		}
		if mm := machineModelOf(m); mm.valid {
			return mm
		}
	}
}

// checkStep compares a step of a valid running machine with the model, and returns the state and memory behind it.
func checkStep(t *testing.T, mm *machineModel, x impl.Machine, mem impl.Memory) (impl.Machine, impl.Memory) {
	t.Helper()
	y, after, code := impl.StepMachine(mm.module, x, mem)
	want, wantAfter := mm.step(x, mem)
	if code != impl.OK || !alike(y, want) || !impl.SameMachine(y, want) {
		t.Errorf("StepMachine of %v returns %v, %d, want %v", x, y, code, want)
	}
	same(t, fmt.Sprint("the memory behind a step of ", x), after, wantAfter)
	if !mm.ok(y) || !impl.MachineOk(mm.module, y) {
		t.Errorf("StepMachine of %v returns %v, which is invalid", x, y)
	}
	return y, after
}

// checkAnswer compares an answer to a valid machine that waits for the host with the model, and returns the state behind it.
func checkAnswer(t *testing.T, mm *machineModel, x impl.Machine, result int64) impl.Machine {
	t.Helper()
	if !mm.module.Imports[x.Import].Result {
		result = 0
	}
	frames := unpack(x)
	last := &frames[len(frames)-1]
	last.pc++
	if mm.module.Imports[x.Import].Result {
		last.push(result)
	}
	y, code := impl.AnswerMachine(mm.module, x, result)
	if code != impl.OK || !alike(y, pack(frames)) || !mm.ok(y) || !impl.MachineOk(mm.module, y) {
		t.Errorf("AnswerMachine of %v with %d returns %v, %d, want %v", x, result, y, code, pack(frames))
	}
	return y
}

// checkPlay executes a core step by step, down to the end or so many steps, and notes what it meets.
func checkPlay(t *testing.T, r *rand.Rand, mm *machineModel, most int, met map[string]int) {
	t.Helper()
	k := r.Intn(len(mm.cores))
	var args []int64
	for range mm.module.Cores[k].Params {
		args = append(args, someOperand(r))
	}
	mem := someMemory(r)
	x, code := impl.NewMachine(mm.module, mm.module.Cores[k].Name, args)
	start := pack([]modelFrame{{core: k, locals: append(slices.Clone(args), make([]int64, mm.module.Cores[k].Locals)...)}})
	is(t, "NewMachine", all(alike(x, start), code, impl.MachineOk(mm.module, x), mm.ok(x)), true, impl.OK, true, true)
	for range most {
		switch x.Status {
		case impl.MaRun:
			f := x.Frames[len(x.Frames)-1]
			met[mm.word(int(f.Core), int(f.PC))]++
			x, mem = checkStep(t, mm, x, mem)
		case impl.MaHost:
			met["answer"]++
			x = checkAnswer(t, mm, x, someOperand(r))
		default:
			met["trap "+impl.TrapWord(x.Trap)]++
			return
		}
	}
}

// TestP20Model executes made-up modules step by step.
func TestP20Model(t *testing.T) {
	t.Parallel()
	r := rand.New(rand.NewSource(181))
	met := map[string]int{}
	for range 300 {
		mm := someProgram(r)
		for range 3 {
			checkPlay(t, r, mm, 120, met)
		}
	}
	for _, o := range opcodes {
		if met[o.word] < 5 {
			t.Errorf("%s is executed only %d times", o.word, met[o.word])
		}
	}
	for _, word := range []string{"", "answer", "trap ", "trap zero", "trap memory", "trap depth", "trap code"} {
		if met[word] < 10 {
			t.Errorf("%q is met only %d times", word, met[word])
		}
	}
}

// someState makes up a valid state of a module that runs or waits for the host, with the values it likes.
func someState(r *rand.Rand, mm *machineModel) impl.Machine {
	var frames []modelFrame
	k := r.Intn(len(mm.cores))
	for {
		f := modelFrame{core: k, pc: r.Intn(len(mm.places[k]))}
		for !mm.places[k][f.pc].Known {
			f.pc = r.Intn(len(mm.places[k]))
		}
		if calls := mm.callsIn(k); len(calls) > 0 && r.Intn(3) > 0 {
			f.pc = calls[r.Intn(len(calls))]
		}
		for range mm.module.Cores[k].Params + mm.module.Cores[k].Locals {
			f.locals = append(f.locals, someOperand(r))
		}
		for range mm.places[k][f.pc].Height {
			f.values = append(f.values, someOperand(r))
		}
		word := mm.word(k, f.pc)
		if word == "host" && r.Intn(2) == 0 {
			called := mm.cores[k].code[f.pc].A
			args := f.pop(mm.module.Imports[called].Params)
			x := pack(append(frames, f))
			x.Status, x.Import, x.Args = 2, called, args
			return x
		}
		if word != "call" || len(frames) == 11 || r.Intn(25) == 0 {
			return pack(append(frames, f))
		}
		k = int(mm.cores[k].code[f.pc].A)
		f.pop(mm.module.Cores[k].Params)
		frames = append(frames, f)
	}
}

// callsIn are the indices of the calls of cores and imports in a core that are reachable.
func (mm *machineModel) callsIn(k int) []int {
	var list []int
	for i := range mm.cores[k].code {
		if word := mm.word(k, i); (word == "call" || word == "host") && mm.places[k][i].Known {
			list = append(list, i)
		}
	}
	return list
}

// changeState changes something in a state.
func changeState(r *rand.Rand, x *impl.Machine) {
	n := []int64{1, -1, 2, math.MaxInt64, math.MinInt64, 1 << 32}[r.Intn(6)]
	field := []*int64{&x.Status, &x.Import, &x.Result, &x.Trap}[r.Intn(4)]
	switch i := r.Intn(len(x.Frames) + 1); r.Intn(6) {
	case 0:
		*field += n
	case 1:
		x.Stack = append(x.Stack, make([]int64, 1+r.Intn(2))...)[r.Intn(min(2, len(x.Stack)+1)):]
	case 2:
		x.Args = append(x.Args, make([]int64, r.Intn(2))...)[r.Intn(min(2, len(x.Args)+1)):]
	case 3:
		if i < len(x.Frames) {
			x.Frames = slices.Insert(x.Frames, i, x.Frames[i])
		}
	case 4:
		if i < len(x.Frames) {
			x.Frames = slices.Delete(x.Frames, i, i+1)
		}
	default:
		if i < len(x.Frames) {
			f := &x.Frames[i]
			*[]*int64{&f.Core, &f.PC, &f.Base}[r.Intn(3)] += n
			if r.Intn(4) == 0 {
				f.Locals = append(f.Locals, 0)[r.Intn(2):]
			}
		}
	}
}

// checkState compares what the program says of any state with the model, and goes on from it if it is valid.
func checkState(t *testing.T, r *rand.Rand, mm *machineModel, x impl.Machine) bool {
	t.Helper()
	ok := mm.ok(x)
	if impl.MachineOk(mm.module, x) != ok {
		t.Errorf("MachineOk of %v is %v", x, !ok)
		return ok
	}
	mem := someMemory(r)
	if ok && x.Status == 1 {
		checkStep(t, mm, x, mem)
	}
	if ok && x.Status == 2 {
		checkAnswer(t, mm, x, someOperand(r))
	}
	checkCodes(t, fmt.Sprint(x), mm.module, x, mem, ok)
	return ok
}

// checkCodes checks the codes of a state, which is valid if ok, and that an error comes with nothing else.
func checkCodes(t *testing.T, what string, m impl.Module, x impl.Machine, mem impl.Memory, ok bool) {
	t.Helper()
	stepWant, runWant, answerWant := int64(impl.OK), int64(impl.OK), int64(impl.OK)
	switch {
	case !ok:
		stepWant, runWant, answerWant = impl.ErrForm, impl.ErrForm, impl.ErrForm
	case x.Status == 1:
		runWant, answerWant = impl.ErrFuel, impl.ErrState
	case x.Status == 2:
		stepWant, runWant = impl.ErrState, impl.ErrState
	default:
		stepWant, runWant, answerWant = impl.ErrState, impl.ErrState, impl.ErrState
	}
	y, after, code := impl.StepMachine(m, x, mem)
	is(t, "StepMachine of "+what, all(code, code == impl.OK || alike(y, impl.Machine{}) && alike(after, impl.Memory{})), stepWant, true)
	y, after, left, code := impl.RunMachine(m, x, mem, 0)
	is(t, "RunMachine of "+what, all(code, left), runWant, 0)
	is(t, "RunMachine of "+what, all(code == impl.ErrFuel && alike(y, x) && alike(after, mem) || code != impl.ErrFuel && alike(y, impl.Machine{}) && alike(after, impl.Memory{})), true)
	y, code = impl.AnswerMachine(m, x, 0)
	is(t, "AnswerMachine of "+what, all(code, code == impl.OK || alike(y, impl.Machine{})), answerWant, true)
}

// TestP20States has states that no run needs to reach, and states that are changed a little.
func TestP20States(t *testing.T) {
	t.Parallel()
	r := rand.New(rand.NewSource(182))
	met, deepest := map[string]int{}, 0
	for range 100 {
		mm := someProgram(r)
		for range 8 {
			x := someState(r, mm)
			is(t, shown(x), all(checkState(t, r, mm, x)), true)
			deepest = max(deepest, len(x.Frames))
			met[fmt.Sprint("status ", x.Status)]++
			for range 8 {
				y := roomy(x)
				changeState(r, &y)
				met[fmt.Sprint("valid ", checkState(t, r, mm, y))]++
			}
		}
		for k, places := range mm.places {
			for pc, p := range places {
				f := modelFrame{k, pc, make([]int64, mm.module.Cores[k].Params+mm.module.Cores[k].Locals), make([]int64, p.Height)}
				is(t, "a frame at every place", all(checkState(t, r, mm, pack([]modelFrame{f}))), p.Known)
			}
		}
	}
	is(t, "enough of all", all(met["status 1"] > 100, met["status 2"] > 50, met["valid true"] > 100, met["valid false"] > 1000, int64(deepest)), true, true, true, true, 12)
}

// stateModule has cores that call each other and the host, with more values on their stacks.
func stateModule(t *testing.T) impl.Module {
	core := func(name string, params, locals int64, result bool, text string) impl.Core {
		return impl.Core{Name: name, Params: params, Locals: locals, Result: result, Code: codeIn(t, text)}
	}
	return impl.Module{Pages: 1, Imports: []impl.Import{{Name: "ask", Params: 2, Result: true}, {Name: "tell", Params: 1}}, Cores: []impl.Core{
		core("first", 1, 1, true, "const 5; get 0; get 0; call 1; add"), core("second", 2, 0, true, "const 6; get 0; get 1; host 0; add; get 0; host 1"), core("third", 0, 0, false, "br 0"), core("again", 0, 0, false, "call 3"),
	}}
}

// statesOf are a valid state of each status.
func statesOf(t *testing.T) map[int64]impl.Machine {
	frames := []impl.CoreFrame{{Core: 0, PC: 3, Locals: []int64{7, 8}}, {Core: 1, PC: 3, Base: 1, Locals: []int64{9, 10}}}
	return map[int64]impl.Machine{
		1: {Status: 1, Frames: frames, Stack: []int64{5, 6, 11, 12}}, 2: {Status: 2, Frames: frames, Stack: []int64{5, 6}, Args: []int64{11, 12}}, 3: {Status: 3, Result: -4}, 4: {Status: 4, Trap: 2},
	}
}

// TestP20MachineOk has valid states of each status with one field wrong at a time.
func TestP20MachineOk(t *testing.T) {
	m := stateModule(t)
	mm := machineModelOf(m)
	is(t, "the module", all(mm.valid, impl.ModuleOk(m)), true, true)
	r := rand.New(rand.NewSource(183))
	check := func(what string, status int64, want bool, do func(x *impl.Machine)) {
		x := roomy(statesOf(t)[status])
		do(&x)
		is(t, what+shown(x), all(impl.MachineOk(m, x), mm.ok(x), checkState(t, r, mm, x)), want, want, want)
	}
	for status := range int64(5) {
		check("as it is", status, status > 0, func(*impl.Machine) {})
		for other := int64(-1); other < 7; other++ {
			check("another status", status, other == status && status > 0 || status == 0 && other == 3, func(x *impl.Machine) { x.Status = other })
		}
		for _, n := range []int64{1, 2, -1, 3, 5, math.MaxInt64, math.MinInt64, 1 << 32} {
			check("an import", status, false, func(x *impl.Machine) { x.Import = n })
			check("a result", status, status == 3, func(x *impl.Machine) { x.Result = n })
			check("a trap", status, status == 4 && n >= 1 && n <= 4, func(x *impl.Machine) { x.Trap = n })
		}
		check("no trap", status, status > 0 && status < 4, func(x *impl.Machine) { x.Trap = 0 })
		check("no result", status, status > 0, func(x *impl.Machine) { x.Result = 0 })
		check("more arguments", status, false, func(x *impl.Machine) { x.Args = append(x.Args, 0) })
		check("fewer arguments", status, status == 1 || status > 2, func(x *impl.Machine) { x.Args = x.Args[:max(len(x.Args)-1, 0)] })
		check("no arguments", status, status == 1 || status > 2, func(x *impl.Machine) { x.Args = nil })
		check("other arguments", status, status > 0, func(x *impl.Machine) {
			for i := range x.Args {
				x.Args[i] = math.MinInt64
			}
		})
		check("more values", status, false, func(x *impl.Machine) { x.Stack = append(x.Stack, 0) })
		check("fewer values", status, status > 2, func(x *impl.Machine) { x.Stack = x.Stack[:max(len(x.Stack)-1, 0)] })
		check("very many values", status, false, func(x *impl.Machine) { x.Stack = make([]int64, 100000) })
		check("other values", status, status > 0, func(x *impl.Machine) {
			for i := range x.Stack {
				x.Stack[i] = math.MaxInt64
			}
		})
		check("no frames", status, status > 2, func(x *impl.Machine) { x.Frames = nil })
		check("a frame of zeros", status, false, func(x *impl.Machine) { x.Frames = []impl.CoreFrame{{}} })
		check("very many frames", status, false, func(x *impl.Machine) { x.Frames = make([]impl.CoreFrame, 100000) })
	}
	for _, status := range []int64{1, 2} {
		for i := range 2 {
			for _, n := range []int64{-1, 0, 1, 2, 3, 4, 5, math.MaxInt64, math.MinInt64, 1 << 32} {
				check("a core", status, n == int64(i), func(x *impl.Machine) { x.Frames[i].Core = n })
				check("a PC", status, n == 3, func(x *impl.Machine) { x.Frames[i].PC = n })
				check("a base", status, n == int64(i), func(x *impl.Machine) { x.Frames[i].Base = n })
			}
			check("more locals", status, false, func(x *impl.Machine) { x.Frames[i].Locals = append(x.Frames[i].Locals, 0) })
			check("fewer locals", status, false, func(x *impl.Machine) { x.Frames[i].Locals = x.Frames[i].Locals[:1] })
			check("no locals", status, false, func(x *impl.Machine) { x.Frames[i].Locals = nil })
			check("other locals", status, true, func(x *impl.Machine) { x.Frames[i].Locals[0] = math.MinInt64 })
			check("one frame twice", status, false, func(x *impl.Machine) { x.Frames = slices.Insert(x.Frames, i, x.Frames[i]) })
			check("one frame less", status, false, func(x *impl.Machine) { x.Frames = slices.Delete(x.Frames, i, i+1) })
		}
		check("the other order", status, false, func(x *impl.Machine) { slices.Reverse(x.Frames) })
	}
	check("the end of the code", 1, true, func(x *impl.Machine) { x.Frames[1].PC, x.Stack = 7, x.Stack[:2] })
	check("beyond the end", 1, false, func(x *impl.Machine) { x.Frames[1].PC, x.Stack = 8, x.Stack[:2] })
	check("another import", 2, false, func(x *impl.Machine) { x.Import, x.Args = 1, x.Args[:1] })
	check("the other call", 2, true, func(x *impl.Machine) {
		x.Import, x.Args, x.Stack, x.Frames[1].PC = 1, x.Args[:1], []int64{1, 2}, 6
	})
	for _, do := range moduleChanges[:30] {
		bad := plainModule()
		do(&bad)
		is(t, "no valid module", all(impl.MachineOk(bad, statesOf(t)[3]), impl.MachineOk(bad, statesOf(t)[4])), false, false)
	}
	bad := stateModule(t)
	bad.Cores[3].Code = codeIn(t, "add")
	for status, x := range statesOf(t) {
		is(t, shown(status), all(impl.MachineOk(bad, x)), false)
		checkCodes(t, "a module that is not valid", bad, x, blank(9), false)
	}
	is(t, "a module without cores", all(impl.MachineOk(impl.Module{Pages: 1}, statesOf(t)[3]), impl.MachineOk(impl.Module{Pages: 1}, statesOf(t)[4]), impl.MachineOk(impl.Module{Pages: 1}, statesOf(t)[1]), impl.MachineOk(impl.Module{}, statesOf(t)[3])), true, true, false, false)
}

// TestP20Places has places that are not reachable, although they are known, and others that are not known.
func TestP20Places(t *testing.T) {
	r := rand.New(rand.NewSource(184))
	for _, c := range []struct {
		text  string
		known string
	}{{"trap", "yy"}, {"block 0; trap; end", "yyny"}, {"const 0; if 0; trap; else; return; end", "yyynyny"}, {"const 0; if 1; br 1; else; br 1; end; drop", "yyynynyy"}, {"loop 0; br 0; end; br 0", "yynyy"}, {"block 1; trap; end; drop; trap", "yynyyy"}} {
		m := coreIn(t, 0, 0, false, c.text)
		mm := machineModelOf(m)
		for pc, p := range mm.places[1] {
			x := pack([]modelFrame{{1, pc, nil, make([]int64, p.Height)}})
			is(t, c.text+shown(pc), all(impl.MachineOk(m, x), checkState(t, r, mm, x)), c.known[pc] == 'y', c.known[pc] == 'y')
		}
	}
}

// TestP20Frames has MaxFrames frames and one more.
func TestP20Frames(t *testing.T) {
	m := stateModule(t)
	mm := machineModelOf(m)
	r := rand.New(rand.NewSource(185))
	for many := range 16 {
		x := impl.Machine{Status: 1}
		for range many {
			x.Frames = append(x.Frames, impl.CoreFrame{Core: 3})
		}
		is(t, strconv.Itoa(many)+" frames", all(checkState(t, r, mm, x)), many >= 1 && many <= 12)
		y, _, code := impl.StepMachine(m, x, blank(0))
		switch {
		case many < 1 || many > 12:
			is(t, strconv.Itoa(many)+" frames", all(code), impl.ErrForm)
		case many == 12:
			is(t, "a call from the last frame", all(code, alike(y, trapped(impl.TrDepth))), impl.OK, true)
		default:
			is(t, strconv.Itoa(many)+" frames", all(code, int64(len(y.Frames)), y.Status), impl.OK, many+1, 1)
		}
	}
	x, _ := impl.NewMachine(m, "again", nil)
	y, _, left, code := impl.RunMachine(m, x, blank(0), 100)
	is(t, "calls without an end", all(alike(y, trapped(impl.TrDepth)), left, code), true, 88, impl.OK)
}

func TestP20NewMachine(t *testing.T) {
	m := stateModule(t)
	for _, c := range []struct {
		name string
		args []int64
		code int64
	}{
		{"first", []int64{7}, impl.OK}, {"second", []int64{math.MinInt64, math.MaxInt64}, impl.OK}, {"third", nil, impl.OK}, {"third", []int64{}, impl.OK}, {"first", nil, impl.ErrRange}, {"first", []int64{1, 2}, impl.ErrRange}, {"second", []int64{1}, impl.ErrRange}, {"second", []int64{1, 2, 3}, impl.ErrRange}, {"third", []int64{0}, impl.ErrRange}, {"third", make([]int64, 100000), impl.ErrRange},
		{"", nil, impl.ErrNone}, {"ask", []int64{1, 2}, impl.ErrNone}, {"tell", []int64{1}, impl.ErrNone}, {"First", []int64{7}, impl.ErrNone}, {"firs", []int64{7}, impl.ErrNone}, {"first ", []int64{7}, impl.ErrNone}, {"", make([]int64, 100), impl.ErrNone}, {strings.Repeat("a", 100000), nil, impl.ErrNone},
	} {
		x, code := impl.NewMachine(m, c.name, c.args)
		is(t, clipped(c.name)+shown(len(c.args)), all(code), c.code)
		want := impl.Machine{}
		if c.code == impl.OK {
			k, _ := impl.CoreOf(m, c.name)
			want = pack([]modelFrame{{core: int(k), locals: append(slices.Clone(c.args), make([]int64, m.Cores[k].Locals)...)}})
		}
		is(t, clipped(c.name)+shown(len(c.args)), all(alike(x, want), impl.MachineOk(m, x)), true, c.code == impl.OK)
		for _, bad := range []func(m *impl.Module){func(m *impl.Module) { m.Pages = 0 }, func(m *impl.Module) { m.Cores[3].Code = codeIn(t, "add") }, func(m *impl.Module) { m.Cores[0].Result = false }, func(m *impl.Module) { m.Cores[2].Code = codeIn(t, "end") }} {
			m := roomy(m)
			bad(&m)
			x, code := impl.NewMachine(m, c.name, c.args)
			is(t, "no valid module", all(alike(x, impl.Machine{}), code), true, impl.ErrForm)
		}
	}
	x, code := impl.NewMachine(impl.Module{Pages: 1}, "", nil)
	is(t, "no core", all(alike(x, impl.Machine{}), code), true, impl.ErrNone)
}

func TestP20AnswerMachine(t *testing.T) {
	m := stateModule(t)
	mm := machineModelOf(m)
	for _, n := range append(edges(), 12) {
		x := statesOf(t)[2]
		want := pack([]modelFrame{{0, 3, []int64{7, 8}, []int64{5}}, {1, 4, []int64{9, 10}, []int64{6, n}}})
		y, code := impl.AnswerMachine(m, x, n)
		is(t, "an import with a result", all(alike(y, want), code, impl.MachineOk(m, y)), true, impl.OK, true)
		checkAnswer(t, mm, x, n)
		x.Import, x.Args, x.Frames[1].PC, x.Stack = 1, []int64{9}, 6, []int64{5, 15}
		want = pack([]modelFrame{{0, 3, []int64{7, 8}, []int64{5}}, {1, 7, []int64{9, 10}, []int64{15}}})
		y, code = impl.AnswerMachine(m, x, n)
		if n == 0 {
			is(t, "an import without a result", all(alike(y, want), code, impl.MachineOk(m, y)), true, impl.OK, true)
			checkAnswer(t, mm, x, n)
		} else {
			is(t, "a result that is none", all(alike(y, impl.Machine{}), code), true, impl.ErrRange)
		}
		x.Args = nil
		y, code = impl.AnswerMachine(m, x, n)
		is(t, "an invalid state", all(alike(y, impl.Machine{}), code), true, impl.ErrForm)
		for _, status := range []int64{1, 3, 4} {
			y, code := impl.AnswerMachine(m, statesOf(t)[status], n)
			is(t, "another status", all(alike(y, impl.Machine{}), code), true, impl.ErrState)
			y, code = impl.AnswerMachine(impl.Module{}, statesOf(t)[status], n)
			is(t, "no valid module", all(alike(y, impl.Machine{}), code), true, impl.ErrForm)
		}
	}
}

// outcome is a text of what a run of a core ends with, down to the end of the fuel.
func outcome(t *testing.T, m impl.Module, core string, mem impl.Memory, fuel int64, args ...int64) string {
	t.Helper()
	x, code := impl.NewMachine(m, core, args)
	if code != impl.OK {
		return "no machine: " + impl.CodeWord(code)
	}
	y, after, left, code := impl.RunMachine(m, x, mem, fuel)
	if (code == impl.ErrFuel) != (y.Status == 1) || code != impl.OK && code != impl.ErrFuel || !impl.MachineOk(m, y) || !impl.MemoryOk(after) {
		t.Errorf("RunMachine of %v returns %v, %d", x, y, code)
	}
	switch y.Status {
	case 1:
		return fmt.Sprint("fuel ", left, " at ", y.Frames[len(y.Frames)-1].PC)
	case 2:
		return fmt.Sprint("host ", y.Import, y.Args, " left ", left)
	case 3:
		return fmt.Sprint("done ", y.Result, " left ", left)
	}
	return "trap " + impl.TrapWord(y.Trap) + fmt.Sprint(" left ", left)
}

// someLimits are numbers at which arithmetic is easily wrong.
func someLimits() []int64 {
	list := []int64{math.MinInt64, math.MinInt64 + 1, -1 << 32, -65, -64, -63, -2, -1, 0, 1, 2, 3, 10, 31, 32, 62, 63, 64, 65, 127, 128, 1 << 31, 1<<32 - 1, 1 << 32, 3037000500, 1 << 62, math.MaxInt64 - 1, math.MaxInt64}
	return append(list, 0x123456789abcdef, -0x123456789abcdef, 0x5555555555555555, -0x5555555555555556)
}

// TestP21Arithmetic has every instruction with two operands, with all pairs of some numbers.
func TestP21Arithmetic(t *testing.T) {
	mem := blank(16)
	for _, word := range strings.Fields("add sub mul div rem and or xor shl shr eq ne lt gt le ge") {
		m := coreIn(t, 2, 0, true, "get 0; get 1; "+word)
		for _, a := range someLimits() {
			for _, b := range someLimits() {
				want := "trap zero left 7"
				if n, ok := computed(word, a, b); ok {
					want = fmt.Sprint("done ", n, " left 6")
				}
				is(t, shown(word, a, b), all(outcome(t, m, "it", mem, 10, a, b)), want)
			}
		}
	}
	for _, c := range []struct {
		word    string
		a, b, n int64
	}{
		{"add", math.MaxInt64, 1, math.MinInt64}, {"add", math.MinInt64, -1, math.MaxInt64}, {"sub", 3, 5, -2}, {"sub", math.MinInt64, 1, math.MaxInt64}, {"sub", 0, math.MinInt64, math.MinInt64}, {"mul", math.MinInt64, -1, math.MinInt64}, {"mul", 1 << 32, 1 << 32, 0}, {"mul", -3, 5, -15}, {"div", -7, 2, -3}, {"div", 7, -2, -3}, {"div", math.MinInt64, -1, math.MinInt64}, {"div", math.MinInt64, 1, math.MinInt64}, {"div", 1, math.MinInt64, 0}, {"rem", -7, 2, -1}, {"rem", 7, -2, 1}, {"rem", math.MinInt64, -1, 0}, {"rem", math.MinInt64, 2, 0}, {"rem", -1, math.MinInt64, -1},
		{"and", 6, 3, 2}, {"and", -1, math.MinInt64, math.MinInt64}, {"or", 6, 3, 7}, {"xor", 6, 3, 5}, {"xor", -1, 1, -2}, {"shl", 1, -1, math.MinInt64}, {"shl", 1, 0, 1}, {"shl", 1, 63, math.MinInt64}, {"shl", 1, 64, 1}, {"shl", 1, 65, 2}, {"shl", 3, 63, math.MinInt64}, {"shl", -1, 1, -2}, {"shl", 1, math.MinInt64, 1}, {"shl", 1, math.MaxInt64, math.MinInt64}, {"shl", 1, -64, 1}, {"shl", 1, -63, 2}, {"shr", -8, 1, -4}, {"shr", -1, -1, -1}, {"shr", math.MinInt64, -1, -1}, {"shr", math.MinInt64, 63, -1}, {"shr", math.MinInt64, 0, math.MinInt64}, {"shr", math.MaxInt64, 62, 1}, {"shr", math.MaxInt64, 63, 0}, {"shr", -8, 64, -8}, {"shr", -8, 65, -4}, {"shr", 8, -63, 4},
		{"eq", 2, 2, 1}, {"eq", -1, math.MaxInt64, 0}, {"ne", 2, 2, 0}, {"ne", 2, 3, 1}, {"lt", -1, 0, 1}, {"lt", 0, 0, 0}, {"lt", math.MinInt64, math.MaxInt64, 1}, {"gt", -1, 0, 0}, {"gt", math.MaxInt64, math.MinInt64, 1}, {"gt", 1, 1, 0}, {"le", 2, 2, 1}, {"le", 3, 2, 0}, {"le", math.MinInt64, 1, 1}, {"ge", 1, 2, 0}, {"ge", 2, 2, 1}, {"ge", 1, math.MinInt64, 1},
	} {
		m := coreIn(t, 2, 0, true, "get 0; get 1; "+c.word)
		is(t, shown(c), all(outcome(t, m, "it", mem, 10, c.a, c.b)), fmt.Sprint("done ", c.n, " left 6"))
	}
}

// instruction is a core with two parameters, two further locals and a result, what its run ends with, and how many steps it takes.
type instruction struct {
	text  string
	a, b  int64
	want  string
	steps int64
}

func checkInstructions(t *testing.T, list []instruction) {
	t.Helper()
	for _, c := range list {
		m := coreIn(t, 2, 2, true, c.text)
		is(t, c.text+shown(c.a, c.b), all(impl.ModuleOk(m), outcome(t, m, "it", filled(20, 8, 12), 100, c.a, c.b)), true, c.want+" left "+strconv.FormatInt(100-c.steps, 10))
		x, _ := impl.NewMachine(m, "it", []int64{c.a, c.b})
		mm, mem := machineModelOf(m), filled(20, 8, 12)
		for x.Status == 1 && len(x.Frames) > 0 {
			x, mem = checkStep(t, mm, x, mem)
		}
	}
}

// TestP21Instructions has the lines of the table of instructions that do not compute with two operands.
func TestP21Instructions(t *testing.T) {
	const least, greatest = math.MinInt64, math.MaxInt64
	checkInstructions(t, []instruction{
		{"const -9223372036854775808", 1, 2, "done -9223372036854775808", 2}, {"const 9223372036854775807", 1, 2, "done 9223372036854775807", 2}, {"const 0", 1, 2, "done 0", 2}, {"const -1", 1, 2, "done -1", 2},
		{"get 0", 7, 8, "done 7", 2}, {"get 1", 7, 8, "done 8", 2}, {"get 2", 7, 8, "done 0", 2}, {"get 3", 7, 8, "done 0", 2}, {"get 1", least, greatest, "done 9223372036854775807", 2}, // OpGet
		{"get 0; set 3; get 3", 7, 8, "done 7", 4}, {"get 0; set 1; get 1", 7, 8, "done 7", 4}, {"get 0; get 1; set 0; get 0; sub", 7, 8, "done -1", 6}, {"get 1; set 0; get 0; get 1; sub", 7, 8, "done 0", 6}, // OpSet
		{"get 0; tee 3; get 3; add", 7, 8, "done 14", 5}, {"get 0; tee 1; get 1; get 0; mul; add", 7, 8, "done 56", 7}, {"get 0; tee 2; tee 3; get 2; get 3; sub; sub", 7, 8, "done 7", 8}, // OpTee
		{"get 0; get 1; drop", 7, 8, "done 7", 4}, {"get 0; drop; get 1", 7, 8, "done 8", 4}, // OpDrop
		{"get 0; eqz", 0, 8, "done 1", 3}, {"get 0; eqz", 1, 8, "done 0", 3}, {"get 0; eqz", -1, 8, "done 0", 3}, {"get 0; eqz", least, 8, "done 0", 3}, {"get 0; eqz", greatest, 8, "done 0", 3}, {"get 0; eqz", 1 << 32, 8, "done 0", 3}, {"get 0; eqz; eqz", 256, 8, "done 1", 4}, // OpEqz
		{"const 5; const 6; get 0; select", 1, 8, "done 5", 5}, {"const 5; const 6; get 0; select", 0, 8, "done 6", 5}, {"const 5; const 6; get 0; select", -1, 8, "done 5", 5}, {"const 5; const 6; get 0; select", least, 8, "done 5", 5}, {"const 5; const 6; get 0; select", 1 << 32, 8, "done 5", 5}, {"const 1; const 5; const 6; get 0; select; sub", 0, 8, "done -5", 7}, // OpSelect
		{"block 0; end; block 1; get 1; end", 7, 8, "done 8", 6}, {"loop 0; end; loop 1; get 1; end", 7, 8, "done 8", 6}, // blocks that are just passed
		{"trap", 7, 8, "trap code", 1}, {"get 0; get 1; trap", 7, 8, "trap code", 3}, {"const 1; block 1; trap; end; add", 7, 8, "trap code", 3}, // OpTrap
		{"get 0; get 1; div", 7, 0, "trap zero", 3}, {"get 0; get 1; rem", 7, 0, "trap zero", 3}, {"get 0; get 1; div", 0, 0, "trap zero", 3}, {"get 0; get 1; rem", least, 0, "trap zero", 3}, {"get 0; get 1; div", 0, 7, "done 0", 4}, // division
		{"get 0; load8 0", 20, 0, "trap memory", 2}, {"get 0; get 1; store8 0; get 0", -1, 0, "trap memory", 3}, // memory
	})
}

// TestP21If has both ways through an OpIf, with and without an OpElse.
func TestP21If(t *testing.T) {
	checkInstructions(t, []instruction{
		{"get 0; if 1; const 5; else; const 6; end", 1, 0, "done 5", 5}, {"get 0; if 1; const 5; else; const 6; end", 0, 0, "done 6", 5}, {"get 0; if 1; const 5; else; const 6; end", -1, 0, "done 5", 5}, {"get 0; if 1; const 5; else; const 6; end", math.MinInt64, 0, "done 5", 5}, {"get 0; if 1; const 5; else; const 6; end", 1 << 32, 0, "done 5", 5}, {"get 0; if 1; const 5; else; const 6; end", 256, 0, "done 5", 5},
		{"get 0; if 0; const 5; set 1; end; get 1", 1, 8, "done 5", 7}, {"get 0; if 0; const 5; set 1; end; get 1", 0, 8, "done 8", 4}, {"get 0; if 0; else; const 5; set 1; end; get 1", 1, 8, "done 8", 5}, {"get 0; if 0; else; const 5; set 1; end; get 1", 0, 8, "done 5", 7}, {"get 0; if 0; end; get 1", 0, 8, "done 8", 4}, {"get 0; if 0; end; get 1", 1, 8, "done 8", 5}, {"get 0; if 0; else; end; get 1", 0, 8, "done 8", 5}, {"get 0; if 0; else; end; get 1", 1, 8, "done 8", 5},
		{"const 9; get 0; if 1; get 1; if 1; const 1; else; const 2; end; else; get 1; if 1; const 3; else; const 4; end; end; add", 1, 1, "done 10", 10}, {"const 9; get 0; if 1; get 1; if 1; const 1; else; const 2; end; else; get 1; if 1; const 3; else; const 4; end; end; add", 1, 0, "done 11", 10}, {"const 9; get 0; if 1; get 1; if 1; const 1; else; const 2; end; else; get 1; if 1; const 3; else; const 4; end; end; add", 0, 1, "done 12", 10}, {"const 9; get 0; if 1; get 1; if 1; const 1; else; const 2; end; else; get 1; if 1; const 3; else; const 4; end; end; add", 0, 0, "done 13", 10},
		{"get 0; if 0; get 1; if 0; end; end; const 3", 1, 0, "done 3", 7}, {"get 0; if 1; trap; else; const 2; end", 0, 0, "done 2", 5}, {"get 0; if 1; trap; else; const 2; end", 1, 0, "trap code", 3},
	})
}

// TestP21Branches has branches with and without a value to every kind of block and to the core, from more values on the stack.
func TestP21Branches(t *testing.T) {
	checkInstructions(t, []instruction{
		{"block 1; const 5; br 0; end", 0, 0, "done 5", 4}, {"const 1; block 1; const 2; const 3; const 5; br 0; end; sub", 0, 0, "done -4", 8}, {"const 7; block 0; const 2; const 3; br 0; end", 0, 0, "done 7", 6}, {"const 7; br 0", 0, 0, "done 7", 3}, {"const 1; const 2; const 7; br 0", 0, 0, "done 7", 5}, {"const 5; block 0; loop 0; const 3; br 2; end; end", 0, 0, "done 3", 6}, {"const 1; block 1; const 2; block 1; const 3; block 0; const 4; br 2; end; end; add; end; sub", 0, 0, "done -3", 10},
		{"const 1; block 1; const 2; block 1; const 3; block 0; const 4; br 1; end; end; add; end; sub", 0, 0, "done -5", 12}, {"const 1; block 1; const 2; block 1; const 3; block 0; const 4; br 0; end; end; add; end; sub", 0, 0, "done -4", 13}, // OpBr
		{"const 5; block 1; const 1; const 2; get 0; brif 0; add; end; add", 1, 0, "done 7", 8}, {"const 5; block 1; const 1; const 2; get 0; brif 0; add; end; add", 0, 0, "done 8", 10}, {"block 0; get 0; brif 0; const 4; set 1; end; get 1", math.MinInt64, 9, "done 9", 5}, {"block 0; get 0; brif 0; const 4; set 1; end; get 1", 0, 9, "done 4", 8}, {"const 4; get 0; brif 0; drop; const 5", 1, 0, "done 4", 4}, {"const 4; get 0; brif 0; drop; const 5", 0, 0, "done 5", 6}, {"const 3; const 4; get 0; brif 0; add", 1 << 32, 0, "done 4", 5}, // OpBrIf
		{"loop 0; get 0; const 1; sub; tee 0; brif 0; end; get 1", 3, 9, "done 9", 19}, {"const 8; loop 0; const 5; const 6; get 0; const 1; sub; tee 0; brif 0; drop; drop; end; get 1; add", 2, 9, "done 17", 22}, {"const 8; loop 1; const 5; get 0; const 1; sub; tee 0; brif 0; end; sub", 2, 0, "done 3", 17}, {"loop 0; block 0; get 0; eqz; brif 0; get 0; const 1; sub; set 0; br 1; end; end; get 1", 2, 9, "done 9", 26}, // to a loop
		{"get 0; if 1; const 5; const 6; br 0; else; const 7; end", 1, 0, "done 6", 6}, {"get 0; if 1; const 5; else; const 6; const 7; br 0; end", 0, 0, "done 7", 6}, {"const 3; get 0; if 0; const 6; br 1; end", 1, 0, "done 6", 6}, {"const 3; get 0; if 0; const 6; br 0; else; end", 1, 0, "done 3", 6}, // to an OpIf
		{"const 3; return", 0, 0, "done 3", 2}, {"const 1; const 2; const 3; return", 0, 0, "done 3", 4}, {"const 4; block 0; loop 0; const 3; return; end; end", 0, 0, "done 3", 5}, {"const 4; get 0; if 0; const 1; const 5; return; end", 1, 0, "done 5", 6}, {"const 4; get 0; if 0; const 1; const 5; return; end", 0, 0, "done 4", 4}, // OpReturn
	})
}

// TestP21Returns has returns with and without a result, from the first and from an inner frame, and at the end of the code.
func TestP21Returns(t *testing.T) {
	m := impl.Module{Pages: 1, Cores: []impl.Core{
		{Name: "nothing", Params: 1}, {Name: "returns", Params: 1, Code: codeIn(t, "const 5; const 6; return")}, {Name: "branches", Params: 1, Code: codeIn(t, "const 5; br 0")},
		{Name: "minus", Params: 2, Locals: 1, Result: true, Code: codeIn(t, "const 9; get 0; get 1; sub; return")}, {Name: "ends", Params: 2, Result: true, Code: codeIn(t, "get 1; get 0; sub")}, {Name: "it", Result: true},
	}}
	for _, c := range []struct{ text, want string }{
		{"const 3; const 8; call 0", "done 3 left 95"}, {"const 3; const 8; call 1", "done 3 left 93"}, {"const 3; const 8; call 2", "done 3 left 93"}, {"const 3; const 10; const 4; call 3; add", "done 9 left 89"}, {"const 3; const 10; const 4; call 4; add", "done -3 left 90"}, {"const 7; call 0; const 2; const 3; call 3; const 4; call 3; const 5; call 4", "done 10 left 75"},
	} {
		m.Cores[5].Code = codeIn(t, c.text)
		is(t, c.text, all(outcome(t, m, "it", blank(0), 100)), c.want)
		mm := machineModelOf(m)
		x, _ := impl.NewMachine(m, "it", nil)
		for x.Status == 1 && mm.valid {
			x, _ = checkStep(t, mm, x, blank(0))
		}
	}
	for name, want := range map[string]string{"nothing": "done 0 left 99", "returns": "done 0 left 97", "branches": "done 0 left 97"} {
		is(t, name, all(outcome(t, m, name, blank(0), 100, 7)), want)
	}
	is(t, "results", all(outcome(t, m, "minus", blank(0), 100, 10, 4), outcome(t, m, "ends", blank(0), 100, 10, 4)), "done 6 left 95", "done -6 left 96")
	empty := coreIn(t, 0, 0, false, "")
	is(t, "no code", all(outcome(t, empty, "it", blank(0), 1), outcome(t, empty, "it", blank(0), 0)), "done 0 left 0", "fuel 0 at 0")
}

// TestP21Host suspends a machine in calls of imports, and goes on.
func TestP21Host(t *testing.T) {
	m := coreIn(t, 2, 0, true, "const 5; get 0; get 1; host 0; add; get 0; host 1")
	is(t, "with a result", all(outcome(t, m, "it", blank(0), 4, 7, -8), outcome(t, m, "it", blank(0), 100, 7, -8), outcome(t, m, "it", blank(0), 3, 7, -8)), "host 0 [7 -8] left 0", "host 0 [7 -8] left 96", "fuel 0 at 3")
	x, _ := impl.NewMachine(m, "it", []int64{7, -8})
	x, _, _, code := impl.RunMachine(m, x, blank(0), 100)
	want := impl.Machine{Status: 2, Frames: []impl.CoreFrame{{Core: 1, PC: 3, Locals: []int64{7, -8}}}, Stack: []int64{5}, Args: []int64{7, -8}}
	is(t, "the first call", all(alike(x, want), code), true, impl.OK)
	x, code = impl.AnswerMachine(m, x, 100)
	want = impl.Machine{Status: 1, Frames: []impl.CoreFrame{{Core: 1, PC: 4, Locals: []int64{7, -8}}}, Stack: []int64{5, 100}}
	is(t, "the first answer", all(alike(x, want), code), true, impl.OK)
	x, _, left, code := impl.RunMachine(m, x, blank(0), 100)
	want = impl.Machine{Status: 2, Frames: []impl.CoreFrame{{Core: 1, PC: 6, Locals: []int64{7, -8}}}, Stack: []int64{105}, Import: 1, Args: []int64{7}}
	is(t, "the second call", all(alike(x, want), left, code), true, 97, impl.OK)
	x, code = impl.AnswerMachine(m, x, 0)
	is(t, "the second answer", all(x.Status, int64(len(x.Stack)), x.Frames[0].PC, code), 1, 1, 7, impl.OK)
	x, _, left, code = impl.RunMachine(m, x, blank(0), 1)
	is(t, "the end", all(alike(x, impl.Machine{Status: 3, Result: 105}), left, code), true, 0, impl.OK)
}

// exampleLoop is the module of the example of RunMachine.
func exampleLoop(t *testing.T) impl.Module {
	return coreIn(t, 1, 1, true, "loop 0; get 1; get 0; add; set 1; get 0; const 1; sub; tee 0; brif 0; end; get 1")
}

func TestP21Example(t *testing.T) {
	m, mem := exampleLoop(t), blank(256, 8, 248)
	x, _ := impl.NewMachine(m, "it", []int64{4})
	y, after, left, code := impl.RunMachine(m, x, mem, 1000)
	is(t, "the example", all(alike(y, impl.Machine{Status: impl.MaDone, Result: 10}), alike(after, mem), left, code), true, true, 960, impl.OK)
	y, after, left, code = impl.RunMachine(m, x, mem, 5)
	want := impl.Machine{Status: impl.MaRun, Frames: []impl.CoreFrame{{Core: 1, PC: 5, Locals: []int64{4, 4}}}}
	is(t, "with less fuel", all(alike(y, want), alike(after, mem), left, code), true, true, 0, impl.ErrFuel)
	is(t, "at the limit", all(outcome(t, m, "it", mem, 40, 4), outcome(t, m, "it", mem, 39, 4)), "done 10 left 0", "fuel 0 at 12")
}

// TestP21Fuel has fuel at and beside the limits, and the order of the errors.
func TestP21Fuel(t *testing.T) {
	m, mem := coreIn(t, 0, 0, false, "loop 0; br 0; end"), blank(8)
	x, _ := impl.NewMachine(m, "it", nil)
	for _, fuel := range append(edges(), 3999, 4000, 4001, 4002) {
		y, after, left, code := impl.RunMachine(m, x, mem, fuel)
		if fuel < 0 || fuel > 4000 {
			is(t, shown(fuel), all(alike(y, impl.Machine{}), alike(after, impl.Memory{}), left, code), true, true, 0, impl.ErrRange)
			continue
		}
		is(t, shown(fuel), all(y.Frames[0].PC, alike(after, mem), left, code), min(fuel, 1), true, 0, impl.ErrFuel)
	}
	states := map[int64]impl.Machine{1: x, 2: {Status: 2}, 3: {Status: 3, Result: 9}, 4: {Status: 4, Trap: 1}, 0: {}}
	for status, y := range states {
		for _, bad := range []impl.Memory{{Bytes: strings.Repeat("x", 4097)}, {Bytes: "x", Free: []impl.Block{{At: 0, Size: 1}}}, {Free: []impl.Block{{}}}} {
			_, _, left, code := impl.RunMachine(m, y, bad, -1)
			_, _, stepCode := impl.StepMachine(m, y, bad)
			is(t, "no valid memory", all(left, code, stepCode), 0, impl.ErrForm, impl.ErrForm)
		}
		want := []int64{impl.ErrForm, impl.ErrForm, impl.ErrForm, impl.ErrForm}
		switch status {
		case 3, 4:
			want = []int64{impl.ErrRange, impl.ErrState, impl.ErrState, impl.ErrState}
		case 1:
			want = []int64{impl.ErrRange, impl.ErrFuel, impl.ErrFuel, impl.OK}
		}
		_, _, _, code := impl.RunMachine(m, y, mem, 4001)
		_, _, _, code2 := impl.RunMachine(m, y, mem, 4000)
		_, _, _, code3 := impl.RunMachine(m, y, mem, 0)
		z, after, code4 := impl.StepMachine(m, y, mem)
		is(t, shown("status", status), all(code, code2, code3, code4), want[0], want[1], want[2], want[3])
		is(t, shown("status", status), all(code4 == impl.OK || alike(z, impl.Machine{}) && alike(after, impl.Memory{})), true)
	}
	host, _ := impl.NewMachine(stateModule(t), "second", []int64{1, 2})
	host, _, _, code := impl.RunMachine(stateModule(t), host, mem, 4000)
	_, _, left, code2 := impl.RunMachine(stateModule(t), host, mem, 4001)
	_, _, _, code3 := impl.RunMachine(stateModule(t), host, mem, 4000)
	_, _, code4 := impl.StepMachine(stateModule(t), host, mem)
	is(t, "a call of an import", all(code, host.Status, left, code2, code3, code4), impl.OK, 2, 0, impl.ErrRange, impl.ErrState, impl.ErrState)
}

func TestP21TrapWord(t *testing.T) {
	is(t, "constants", all(int64(impl.MaxFrames), int64(impl.MaxFuel), int64(impl.MaRun), int64(impl.MaHost), int64(impl.MaDone), int64(impl.MaTrap), int64(impl.TrZero), int64(impl.TrMemory), int64(impl.TrDepth), int64(impl.TrCode)), 12, 4000, 1, 2, 3, 4, 1, 2, 3, 4)
	for i, word := range []string{"", "", "zero", "memory", "depth", "code", ""} {
		is(t, word, all(impl.TrapWord(int64(i-1))), word)
	}
	for _, n := range edges() {
		if n < 1 || n > 4 {
			is(t, shown(n), all(impl.TrapWord(n)), "")
		}
	}
}

// stateDifferences change one field of a state.
var stateDifferences = []func(x *impl.Machine){
	func(x *impl.Machine) { x.Status++ }, func(x *impl.Machine) { x.Import++ }, func(x *impl.Machine) { x.Result++ }, func(x *impl.Machine) { x.Trap++ }, func(x *impl.Machine) { x.Trap += 1 << 32 },
	func(x *impl.Machine) { x.Stack = nil }, func(x *impl.Machine) { x.Stack = x.Stack[1:] }, func(x *impl.Machine) { x.Stack = append(x.Stack, 0) }, func(x *impl.Machine) { x.Stack[1]++ }, func(x *impl.Machine) { x.Stack[0], x.Stack[1] = x.Stack[1], x.Stack[0] },
	func(x *impl.Machine) { x.Args = nil }, func(x *impl.Machine) { x.Args = x.Args[:1] }, func(x *impl.Machine) { x.Args = append(x.Args, 0) }, func(x *impl.Machine) { x.Args[0]-- },
	func(x *impl.Machine) { x.Frames = nil }, func(x *impl.Machine) { x.Frames = x.Frames[:1] }, func(x *impl.Machine) { x.Frames = append(x.Frames, impl.CoreFrame{}) }, func(x *impl.Machine) { x.Frames[0], x.Frames[1] = x.Frames[1], x.Frames[0] },
	func(x *impl.Machine) { x.Frames[0].Core++ }, func(x *impl.Machine) { x.Frames[1].PC++ }, func(x *impl.Machine) { x.Frames[1].Base-- }, func(x *impl.Machine) { x.Frames[0].Locals[1]++ }, func(x *impl.Machine) { x.Frames[1].Locals = nil }, func(x *impl.Machine) { x.Frames[1].Locals = append(x.Frames[1].Locals, 0) }, func(x *impl.Machine) { x.Frames[0].PC += 1 << 32 },
}

func TestP21SameMachine(t *testing.T) {
	for _, status := range []int64{2, 5} {
		base := roomy(statesOf(t)[2])
		base.Status = status
		for i, do := range stateDifferences {
			x := roomy(base)
			do(&x)
			is(t, "difference "+strconv.Itoa(i), all(impl.SameMachine(x, base), impl.SameMachine(base, x), impl.SameMachine(x, roomy(x)), impl.SameMachine(roomy(base), base)), false, false, true, true)
		}
	}
	empty := impl.Machine{Frames: []impl.CoreFrame{}, Stack: []int64{}, Args: []int64{}}
	bare := impl.Machine{Frames: []impl.CoreFrame{{Locals: []int64{}}}}
	is(t, "nil and empty", all(impl.SameMachine(impl.Machine{}, empty), impl.SameMachine(empty, impl.Machine{}), impl.SameMachine(bare, impl.Machine{Frames: []impl.CoreFrame{{}}}), impl.SameMachine(bare, empty)), true, true, true, false)
}

// checkParts compares runs with single steps, with runs in two parts, and with runs with more fuel.
func checkParts(t *testing.T, m impl.Module, x impl.Machine, mem impl.Memory, most int64, met map[string]int) {
	t.Helper()
	y, after, steps := x, mem, int64(0)
	for {
		run, runAfter, left, code := impl.RunMachine(m, x, mem, steps)
		want := int64(impl.OK)
		if y.Status == impl.MaRun {
			want = impl.ErrFuel
		}
		if !alike(run, y) || !alike(runAfter, after) || left != 0 || code != want {
			t.Fatalf("a run of %d steps from %v returns %v, %d, %d, want %v", steps, x, run, left, code, y)
		}
		if y.Status != impl.MaRun || steps == most {
			break
		}
		y, after, code = impl.StepMachine(m, y, after)
		is(t, "StepMachine", all(code), impl.OK)
		steps++
	}
	for first := range steps {
		z, between, _, code := impl.RunMachine(m, x, mem, first)
		is(t, "the first part", all(code), impl.ErrFuel)
		z, between, left, _ := impl.RunMachine(m, z, between, steps-first)
		if !alike(z, y) || !alike(between, after) || left != 0 {
			t.Errorf("two runs of %d steps in all from %v end with %v, %d, want %v", steps, x, z, left, y)
		}
	}
	met[fmt.Sprint("status ", y.Status)]++
	if y.Status == impl.MaRun {
		return
	}
	for _, more := range []int64{1, 2, 100, impl.MaxFuel - steps} {
		z, end, left, code := impl.RunMachine(m, x, mem, steps+more)
		is(t, "more fuel", all(alike(z, y), alike(end, after), left, code), true, true, more, impl.OK)
	}
	_, _, code := impl.StepMachine(m, y, after)
	_, _, left, runCode := impl.RunMachine(m, y, after, 100)
	is(t, "behind the end", all(code, left, runCode), impl.ErrState, 0, impl.ErrState)
	if y.Status != impl.MaHost {
		_, code := impl.AnswerMachine(m, y, 0)
		is(t, "behind the end", all(code), impl.ErrState)
	}
}

// TestP21Runs has runs of made-up modules.
func TestP21Runs(t *testing.T) {
	r := rand.New(rand.NewSource(186))
	met := map[string]int{}
	for range 150 {
		mm := someProgram(r)
		x := someState(r, mm)
		if r.Intn(3) > 0 || x.Status != impl.MaRun {
			k := r.Intn(len(mm.cores))
			x, _ = impl.NewMachine(mm.module, mm.module.Cores[k].Name, make([]int64, mm.module.Cores[k].Params))
		}
		mem := someMemory(r)
		for range 4 {
			checkParts(t, mm.module, x, mem, 40, met)
			x, mem, _, _ = impl.RunMachine(mm.module, x, mem, 40)
			if x.Status == impl.MaHost {
				x = checkAnswer(t, mm, x, someOperand(r))
			}
			if x.Status != impl.MaRun {
				break
			}
		}
	}
	is(t, "enough of all", all(met["status 1"] > 20, met["status 2"] > 20, met["status 3"] > 20, met["status 4"] > 20), true, true, true, true)
}

// storeCore is a core that stores its second parameter at its first one, with an offset.
func storeCore(t *testing.T, bits string, offset int64) impl.Module {
	return coreIn(t, 2, 0, false, "get 0; get 1; store"+bits+" "+strconv.FormatInt(offset, 10))
}

func loadCore(t *testing.T, bits string, offset int64) impl.Module {
	return coreIn(t, 1, 0, true, "get 0; load"+bits+" "+strconv.FormatInt(offset, 10))
}

// TestP22Bounds has loads and stores at all places beside the ends of memories, and at addresses beside all limits.
func TestP22Bounds(t *testing.T) {
	for _, size := range []int{0, 1, 3, 4, 7, 8, 9, 20, 4095, 4096} {
		mem := filled(size)
		var places []int64
		for n := int64(-10); n <= 10; n++ {
			places = append(places, n, int64(size)+n, math.MaxInt64-10+n, math.MinInt64+10+n, math.MaxInt64-4096+n, 1<<32+n)
		}
		for _, offset := range []int64{0, 1, 8, 4088, 4095, 4096} {
			for bits, width := range map[string]int64{"8": 1, "32": 4, "64": 8} {
				load, store := loadCore(t, bits, offset), storeCore(t, bits, offset)
				for _, at := range places {
					place, fits := accessed(mem, at, offset, width)
					got := outcome(t, load, "it", mem, 10, at)
					x, _ := impl.NewMachine(store, "it", []int64{at, -2})
					y, after, left, code := impl.RunMachine(store, x, mem, 10)
					if !fits {
						is(t, shown(size, bits, offset, at), all(got, alike(y, trapped(2)), alike(after, mem), left, code), "trap memory left 8", true, true, 7, impl.OK)
						continue
					}
					want := map[string]string{"8": "170", "32": "2863311530", "64": "-6148914691236517206"}[bits]
					stored := mem.Bytes[:place] + ("\xfe" + strings.Repeat("\xff", 7))[:width] + mem.Bytes[place+width:]
					is(t, shown(size, bits, offset, at), all(got, alike(y, impl.Machine{Status: 3}), after.Bytes == stored, len(after.Free) == 0, left, code), "done "+want+" left 7", true, true, true, 6, impl.OK)
				}
			}
		}
	}
	is(t, "a negative address whose sum is within", all(outcome(t, loadCore(t, "8", 8), "it", filled(20), 10, -1), outcome(t, loadCore(t, "8", 4096), "it", filled(20), 10, -4096), outcome(t, storeCore(t, "64", 1), "it", filled(20), 10, -1, 5)), "trap memory left 8", "trap memory left 8", "trap memory left 7")
	is(t, "a sum beyond int64", all(outcome(t, loadCore(t, "8", 4096), "it", filled(4096), 10, math.MaxInt64), outcome(t, storeCore(t, "8", 1), "it", filled(4096), 10, math.MaxInt64, 5), outcome(t, loadCore(t, "64", 0), "it", filled(4096), 10, math.MaxInt64-7)), "trap memory left 8", "trap memory left 7", "trap memory left 8")
}

// TestP22Values stores and loads numbers, also those whose top bit is set, in each width.
func TestP22Values(t *testing.T) {
	for _, n := range append(someLimits(), 0x7f, 0x80, 0xff, 0x100, 0x7fffffff, 0x80000000, 0xffffffff, -0x80, -0x81, -0x80000000) {
		for bits, width := range map[string]int64{"8": 1, "32": 4, "64": 8} {
			m := coreIn(t, 2, 0, true, "get 0; get 1; store"+bits+" 2; get 0; load"+bits+" 2")
			want := n
			if width < 8 {
				want = n & (1<<(8*width) - 1)
			}
			is(t, shown(n, bits), all(outcome(t, m, "it", filled(20), 10, 5, n)), fmt.Sprint("done ", want, " left 4"))
			x, _ := impl.NewMachine(m, "it", []int64{5, n})
			_, after, _, _ := impl.RunMachine(m, x, filled(20), 10)
			is(t, shown(n, bits), all(after.Bytes), filled(7).Bytes+impl.PutFix(n, width)+filled(13-int(width)).Bytes)
		}
	}
	mem := impl.Memory{Bytes: "\x01\x02\x03\x84\x05\x06\x07\x88"}
	is(t, "the order of the bytes", all(outcome(t, loadCore(t, "8", 3), "it", mem, 10, 0), outcome(t, loadCore(t, "32", 0), "it", mem, 10, 0), outcome(t, loadCore(t, "64", 0), "it", mem, 10, 0), outcome(t, loadCore(t, "32", 4), "it", mem, 10, 0)), "done 132 left 7", "done 2214789633 left 7", "done -8644934338954984959 left 7", "done 2282161669 left 7")
}

// TestP22Free has free blocks under and beside what is stored.
func TestP22Free(t *testing.T) {
	for _, mem := range []impl.Memory{blank(20), blank(20, 8, 12), blank(20, 9, 1, 11, 2, 16, 4), filled(20, 8, 2), blank(4096, 8, 4088)} {
		for at := int64(0); at < 20; at++ {
			for _, bits := range []string{"8", "32", "64"} {
				m := storeCore(t, bits, 0)
				x, _ := impl.NewMachine(m, "it", []int64{at, -1})
				_, after, _, code := impl.RunMachine(m, x, mem, 10)
				is(t, shown(at, bits), all(code, alike(after.Free, mem.Free), len(after.Bytes) == len(mem.Bytes), impl.MemoryOk(after)), impl.OK, true, true, true)
			}
		}
	}
}

// hasStores reports whether a module has store instructions.
func hasStores(m impl.Module) bool {
	for _, c := range m.Cores {
		if slices.ContainsFunc(c.Code, func(i impl.Ins) bool { return i.Op >= impl.OpStore8 && i.Op <= impl.OpStore64 }) {
			return true
		}
	}
	return false
}

// TestP22Model compares the memory before and after the runs of made-up modules.
func TestP22Model(t *testing.T) {
	r := rand.New(rand.NewSource(187))
	met := map[string]int{}
	for range 1500 {
		mm := someProgram(r)
		m := mm.module
		mem := someMemory(r)
		x, _ := impl.NewMachine(m, m.Cores[0].Name, make([]int64, m.Cores[0].Params))
		for range 20 {
			y, after, _, code := impl.RunMachine(m, x, mem, 200)
			is(t, "the size and the free blocks", all(len(after.Bytes) == len(mem.Bytes), alike(after.Free, mem.Free), impl.MemoryOk(after), code == impl.OK || code == impl.ErrFuel), true, true, true, true)
			if !hasStores(m) {
				is(t, "the contents without stores", all(after.Bytes == mem.Bytes), true)
			}
			met[fmt.Sprint(hasStores(m), after.Bytes != mem.Bytes)]++
			if y.Status != impl.MaHost {
				break
			}
			x, mem = y, after
			if m.Imports[x.Import].Result {
				x, _ = impl.AnswerMachine(m, x, someOperand(r))
			} else {
				x, _ = impl.AnswerMachine(m, x, 0)
			}
		}
	}
	is(t, "enough of all", all(met["true true"] > 100, met["true false"] > 100, met["false false"] > 100), true, true, true)
}

// coreCall are the arguments of the functions of chapter 18.
type coreCall struct {
	M               impl.Module
	X, Other        impl.Machine
	Mem             impl.Memory
	Name            string
	Args            []int64
	Fuel, N, Result int64
}

func TestP1Cores(t *testing.T) {
	call := func(c coreCall) []any {
		x, newCode := impl.NewMachine(c.M, c.Name, c.Args)
		y, mem, stepCode := impl.StepMachine(c.M, c.X, c.Mem)
		z, after, left, runCode := impl.RunMachine(c.M, c.X, c.Mem, c.Fuel)
		w, code := impl.AnswerMachine(c.M, c.X, c.Result)
		return all(x, newCode, y, mem, stepCode, z, after, left, runCode, w, code, impl.MachineOk(c.M, c.X), impl.SameMachine(c.X, c.Other), impl.TrapWord(c.N))
	}
	r := rand.New(rand.NewSource(188))
	numbers := append(edges(), 3, 4, 5, 4000, 4001)
	var modules []*machineModel
	for range 30 {
		modules = append(modules, someProgram(r))
	}
	for _, m := range []impl.Module{{}, {Pages: 1}, plainModule(), greatestModule(), coreIn(t, 0, 0, false, "add"), stateModule(t), coreIn(t, 0, 0, false, "loop 0; br 0; end")} {
		modules = append(modules, machineModelOf(m))
	}
	memories := []impl.Memory{{}, blank(20, 8, 12), filled(100, 9, 1, 20, 30), {Bytes: strings.Repeat("x", 5000)}, {Bytes: "x", Free: []impl.Block{{At: -1, Size: math.MaxInt64}}}}
	for i := range 400 {
		mm := modules[i%len(modules)]
		x := statesOf(t)[int64(i/7%5)]
		if mm.valid && len(mm.cores) > 0 && i%3 > 0 {
			x = someState(r, mm)
			if i%7 == 0 {
				changeState(r, &x)
			}
		}
		other := roomy(x)
		if i%2 == 0 {
			changeState(r, &other)
		}
		name := pick(r, []string{"", "0", "1", "it", "run", "first"})
		n := numbers[i%len(numbers)]
		pure(t, shown(i), coreCall{mm.module, x, other, memories[i/11%len(memories)], name, make([]int64, r.Intn(4)), n, n, n}, call)
		pure(t, shown(i), coreCall{mm.module, x, other, blank(20, 8, 12), name, []int64{1, 2, 3}[:i%4%3], 50, n, 0}, call)
	}
	long := impl.Machine{Status: 1, Frames: make([]impl.CoreFrame, 1000), Stack: make([]int64, 1000), Args: make([]int64, 1000)}
	pure(t, "a long state", coreCall{M: stateModule(t), X: long, Other: long}, call)
}

// TestP1Engines runs machines that share their slices, at the same time.
func TestP1Engines(t *testing.T) {
	m := exampleLoop(t)
	x, _ := impl.NewMachine(m, "it", []int64{100})
	mem := blank(256, 8, 248)
	want, _, _, _ := impl.RunMachine(m, x, mem, 4000)
	found := make(chan bool)
	for range 8 {
		go func() {
			y, _, _, code := impl.RunMachine(m, x, mem, 4000)
			found <- code == impl.OK && impl.SameMachine(y, want)
		}()
	}
	for range 8 {
		is(t, "the same run", all(<-found), true)
	}
	is(t, "the sum", all(want.Result), 5050)
}
