package tests

import (
	"math"
	"math/big"
	"math/rand"
	"slices"
	"strconv"
	"strings"
	"testing"

	"loop.example/g00901/impl"
)

// memoryModel is a memory that knows of each byte whether it is free.
type memoryModel struct {
	bytes []byte
	free  []bool
}

// freshModel is a new memory of size bytes.
func freshModel(size int64) *memoryModel {
	m := &memoryModel{}
	m.grow(size)
	return m
}

// grow appends bytes, which are free from address 8 on.
func (m *memoryModel) grow(more int64) {
	for range more {
		m.free = append(m.free, len(m.bytes) >= 8)
		m.bytes = append(m.bytes, 0)
	}
}

// runs are the free blocks, as long as they can be.
func (m *memoryModel) runs() []impl.Block {
	var list []impl.Block
	for i, free := range m.free {
		switch {
		case !free:
		case i > 0 && m.free[i-1]:
			list[len(list)-1].Size++
		default:
			list = append(list, impl.Block{At: int64(i), Size: 1})
		}
	}
	return list
}

// memory is the memory that the program must have.
func (m *memoryModel) memory() impl.Memory {
	return impl.Memory{Bytes: string(m.bytes), Free: m.runs()}
}

// all reports whether the bytes of a range, which is in bounds, are all free, or all not free.
func (m *memoryModel) all(at, size int64, free bool) bool {
	return !slices.Contains(m.free[at:at+size], !free)
}

func (m *memoryModel) set(at, size int64, free bool) {
	for i := range size {
		m.free[at+i] = free
	}
}

// placeOf is the address at which a range must be allocated: in the first block that has room for it, its lowest place there.
func (m *memoryModel) placeOf(size, align int64) (int64, bool) {
	for _, b := range m.runs() {
		for at := b.At; at+size <= b.At+b.Size; at++ {
			if at%align == 0 {
				return at, true
			}
		}
	}
	return 0, false
}

// isWithin reports whether a range lies in a memory of many bytes.
func isWithin(at, size int64, many int) bool {
	end := new(big.Int).Add(big.NewInt(at), big.NewInt(size))
	return at >= 0 && size >= 0 && end.Cmp(big.NewInt(int64(many))) <= 0
}

// validMemory reports whether m is valid: the blocks are those that one finds after marking their bytes.
func validMemory(m impl.Memory) bool {
	model := memoryModel{free: make([]bool, len(m.Bytes))}
	for _, b := range m.Free {
		if !isWithin(b.At, b.Size, len(m.Bytes)) || b.At < 8 {
			return false
		}
		model.set(b.At, b.Size, true)
	}
	return len(m.Bytes) <= 4096 && slices.Equal(model.runs(), m.Free)
}

// blank is a memory of zero bytes with free blocks at the given addresses and of the given sizes.
func blank(bytes int, numbers ...int64) impl.Memory {
	m := impl.Memory{Bytes: strings.Repeat("\x00", bytes)}
	for pair := range slices.Chunk(numbers, 2) {
		m.Free = append(m.Free, impl.Block{At: pair[0], Size: pair[1]})
	}
	return m
}

// same checks that the program's memory is the one that is wanted.
func same(t *testing.T, what string, got, want impl.Memory) {
	t.Helper()
	if !alike(got, want) {
		t.Errorf("%s: %d bytes, free %v, want %d bytes, free %v", what, len(got.Bytes), got.Free, len(want.Bytes), want.Free)
	}
}

// checkBadMemory checks that everything says that m is invalid, whatever else is wrong.
func checkBadMemory(t *testing.T, what string, m impl.Memory) {
	t.Helper()
	zero(t, what, impl.MemoryOk(m), impl.FreeBytes(m))
	for _, n := range []int64{0, 1, 4, -1, math.MaxInt64, math.MinInt64} {
		for _, at := range []int64{0, 8, -1, int64(len(m.Bytes)), math.MaxInt64} {
			bytes, code := impl.ReadMem(m, at, n)
			is(t, what, all(bytes, code), "", impl.ErrForm)
			w, code := impl.WriteMem(m, at, strings.Repeat("a", int(n&7)))
			is(t, what, all(alike(w, impl.Memory{}), code), true, impl.ErrForm)
			w, code = impl.Release(m, at, n)
			is(t, what, all(alike(w, impl.Memory{}), code), true, impl.ErrForm)
			w, place, code := impl.Alloc(m, n, at)
			is(t, what, all(alike(w, impl.Memory{}), place, code), true, 0, impl.ErrForm)
		}
		w, code := impl.GrowMem(m, n)
		is(t, what, all(alike(w, impl.Memory{}), code), true, impl.ErrForm)
	}
}

// checkAlloc compares an allocation in a valid memory with the model.
func checkAlloc(t *testing.T, m impl.Memory, size, align int64) {
	t.Helper()
	what := "Alloc of " + shown(size, align) + " in " + shown(m.Free)
	w, at, code := impl.Alloc(m, size, align)
	model := memoryModel{[]byte(m.Bytes), make([]bool, len(m.Bytes))}
	for _, b := range m.Free {
		model.set(b.At, b.Size, true)
	}
	want, ok := model.placeOf(size, align)
	if !ok {
		is(t, what, all(alike(w, impl.Memory{}), at, code), true, 0, impl.ErrMany)
		return
	}
	model.set(want, size, false)
	is(t, what, all(at, code, impl.MemoryOk(w), impl.FreeBytes(w)), want, impl.OK, true, impl.FreeBytes(m)-size)
	same(t, what, w, model.memory())
	back, code := impl.Release(w, at, size)
	is(t, what, all(code, impl.SameMemory(back, m)), impl.OK, true)
}

// checkRelease compares a release in a valid memory with the model.
func checkRelease(t *testing.T, m impl.Memory, at, size int64) {
	t.Helper()
	what := "Release of " + shown(at, size) + " in " + shown(m.Free)
	w, code := impl.Release(m, at, size)
	model := memoryModel{[]byte(m.Bytes), make([]bool, len(m.Bytes))}
	for _, b := range m.Free {
		model.set(b.At, b.Size, true)
	}
	switch {
	case size == 0:
		is(t, what, all(code, alike(w, m)), impl.OK, true)
	case at < 8 || !isWithin(at, size, len(m.Bytes)) || !model.all(at, size, false):
		is(t, what, all(code, alike(w, impl.Memory{})), impl.ErrMemory, true)
	default:
		model.set(at, size, true)
		is(t, what, all(code, impl.MemoryOk(w), impl.FreeBytes(w)), impl.OK, true, impl.FreeBytes(m)+size)
		same(t, what, w, model.memory())
		again, code := impl.Release(w, at, size)
		is(t, what+" again", all(code, alike(again, impl.Memory{})), impl.ErrMemory, true)
	}
}

func TestP12MemoryConstants(t *testing.T) {
	is(t, "limits", all(int64(impl.MaxMemory), int64(impl.MinPlace)), 4096, 8)
}

func TestP12MemoryOk(t *testing.T) {
	for _, m := range []impl.Memory{
		{}, {Free: []impl.Block{}}, blank(1), blank(7), blank(8), blank(9), blank(9, 8, 1), blank(32, 8, 24), blank(32, 31, 1), blank(32, 8, 1, 10, 1, 12, 20), blank(32, 9, 3, 13, 18), blank(4096), blank(4096, 8, 4088), blank(4096, 4095, 1), {Bytes: "\xff\x00 bytes", Free: nil},
	} {
		is(t, shown(len(m.Bytes), m.Free), all(impl.MemoryOk(m), validMemory(m)), true, true)
	}
	high, low := int64(math.MaxInt64), int64(math.MinInt64)
	for _, m := range []impl.Memory{
		blank(0, 8, 1), blank(0, 0, 0), blank(8, 8, 0), blank(8, 8, 1), blank(4097), blank(4097, 8, 1), blank(100000, 8, 8), blank(4097, 8, 4089), // too small, and too large
		blank(32, 8, 0), blank(32, 8, -1), blank(32, 32, 0), blank(32, 10, 0, 12, 2), blank(32, 10, 2, 20, 0), blank(32, 10, 2, 20, -1), blank(32, 20, -5), // of size 0, and less
		blank(32, 7, 1), blank(32, 7, 4), blank(32, 0, 1), blank(32, 0, 32), blank(32, -1, 9), blank(32, -8, 4), blank(32, 4, 4, 16, 4), // below MinPlace
		blank(32, 8, 25), blank(32, 31, 2), blank(32, 32, 1), blank(32, 33, 1), blank(32, 8, 4, 16, 17), blank(32, 40, 4), // behind the bytes
		blank(32, 8, 4, 12, 4), blank(32, 8, 1, 9, 1), blank(32, 8, 4, 16, 4, 20, 12), // that touch
		blank(32, 8, 4, 11, 4), blank(32, 8, 8, 8, 8), blank(32, 8, 8, 10, 2), blank(32, 8, 24, 30, 2), blank(32, 8, 8, 8, 4), // that overlap
		blank(32, 20, 4, 8, 4), blank(32, 8, 1, 14, 1, 11, 1), blank(32, 31, 1, 8, 1), // that are not sorted
		blank(32, high, 1), blank(32, 8, high), blank(32, high, high), blank(32, high, low), blank(32, low, high), blank(32, low, low), blank(32, 8, low), blank(32, high-7, 8), blank(32, -8, high), blank(32, 16, high-15), blank(32, 8, high-7), blank(32, high, 2), blank(32, 8, 2, high, high), blank(32, 8, 2, low, 2), blank(32, 1<<32+8, 1), blank(32, 8, 1<<32+1),
	} {
		is(t, "the model", all(validMemory(m)), false)
		checkBadMemory(t, shown(len(m.Bytes), m.Free), m)
	}
}

// TestP12EveryMemoryOk has all lists of up to two blocks, and some of three, in small memories.
func TestP12EveryMemoryOk(t *testing.T) {
	valid := 0
	check := func(m impl.Memory) {
		ok := impl.MemoryOk(m)
		if ok != validMemory(m) {
			t.Errorf("MemoryOk of %d bytes with %v is %v", len(m.Bytes), m.Free, ok)
		}
		if ok {
			valid++
		}
	}
	for _, bytes := range []int{0, 7, 8, 9, 12, 16} {
		check(blank(bytes))
		for a := int64(6); a < 18; a++ {
			for n := int64(-1); n < 10; n++ {
				check(blank(bytes, a, n))
				for b := int64(6); b < 18; b++ {
					for k := int64(-1); k < 10; k++ {
						check(blank(bytes, a, n, b, k))
						check(blank(bytes, a, n, b, k, 15, 1))
					}
				}
			}
		}
	}
	if valid < 200 {
		t.Errorf("%d memories are valid: not enough", valid)
	}
}

func TestP12SameMemory(t *testing.T) {
	base := impl.Memory{Bytes: "a\x00\xff", Free: []impl.Block{{At: 9, Size: 4}, {At: -1, Size: 0}}}
	is(t, "equal memories", all(impl.SameMemory(base, roomy(base)), impl.SameMemory(impl.Memory{}, impl.Memory{}), impl.SameMemory(impl.Memory{Free: []impl.Block{}}, impl.Memory{}), impl.SameMemory(impl.Memory{}, impl.Memory{Free: []impl.Block{}})), true, true, true, true)
	for i, do := range []func(m *impl.Memory){
		func(m *impl.Memory) { m.Bytes = "a\x00\xfe" }, func(m *impl.Memory) { m.Bytes = "a\x00" }, func(m *impl.Memory) { m.Bytes += "\x00" }, func(m *impl.Memory) { m.Bytes = "" }, func(m *impl.Memory) { m.Free = nil }, func(m *impl.Memory) { m.Free = m.Free[:1] }, func(m *impl.Memory) { m.Free = m.Free[1:] },
		func(m *impl.Memory) { m.Free[0].At++ }, func(m *impl.Memory) { m.Free[0].Size-- }, func(m *impl.Memory) { m.Free[1].At = 1 }, func(m *impl.Memory) { m.Free[1].Size += 1 << 32 }, func(m *impl.Memory) { m.Free[0], m.Free[1] = m.Free[1], m.Free[0] }, func(m *impl.Memory) { m.Free = append(m.Free, impl.Block{}) }, func(m *impl.Memory) { m.Free[0] = impl.Block{At: 4, Size: 9} },
	} {
		other := roomy(base)
		do(&other)
		is(t, "change "+strconv.Itoa(i), all(impl.SameMemory(base, other), impl.SameMemory(other, base)), false, false)
	}
	long := blank(100000, slices.Repeat([]int64{8, 1}, 100000)...)
	is(t, "long memories", all(impl.SameMemory(long, roomy(long)), impl.SameMemory(long, blank(100000, 8, 1))), true, false)
}

func TestP12NewMemory(t *testing.T) {
	for size := int64(0); size <= impl.MaxMemory; size++ {
		m, code := impl.NewMemory(size)
		want := blank(int(size))
		if size > 8 {
			want = blank(int(size), 8, size-8)
		}
		if code != impl.OK || !alike(m, want) || !impl.MemoryOk(m) || impl.FreeBytes(m) != max(0, size-8) {
			t.Errorf("NewMemory(%d): %d bytes, free %v, %d", size, len(m.Bytes), m.Free, code)
		}
	}
	for _, size := range append(edges(), 4097, -8) {
		if size < 0 || size > impl.MaxMemory {
			m, code := impl.NewMemory(size)
			is(t, "NewMemory of "+strconv.FormatInt(size, 10), all(alike(m, impl.Memory{}), code), true, impl.ErrRange)
		}
	}
}

// ranges are addresses and sizes at and beyond the ends of a memory.
func ranges(bytes int64) [][2]int64 {
	var list [][2]int64
	numbers := []int64{0, 1, 2, 7, 8, 9, bytes - 9, bytes - 8, bytes - 1, bytes, bytes + 1, -1, -bytes, 4096, 4097, 1 << 31, 1 << 32, math.MaxInt64, math.MaxInt64 - 1, math.MaxInt64 - bytes, math.MaxInt64 - bytes + 1, math.MinInt64, math.MinInt64 + 1, math.MinInt64 + bytes}
	for _, at := range numbers {
		for _, n := range numbers {
			list = append(list, [2]int64{at, n})
		}
	}
	return list
}

func TestP12ReadMem(t *testing.T) {
	for _, m := range []impl.Memory{{Bytes: "0123456789abcdefghijklmnopqrstuv", Free: []impl.Block{{At: 8, Size: 2}, {At: 20, Size: 12}}}, {Bytes: "01234"}, {}, blank(4096, 8, 4088)} {
		for _, c := range ranges(int64(len(m.Bytes))) {
			bytes, code := impl.ReadMem(m, c[0], c[1])
			if isWithin(c[0], c[1], len(m.Bytes)) {
				is(t, "ReadMem of "+shown(c), all(bytes, code), m.Bytes[c[0]:c[0]+c[1]], impl.OK)
			} else {
				is(t, "ReadMem of "+shown(c), all(bytes, code), "", impl.ErrMemory)
			}
		}
	}
	m := impl.Memory{Bytes: "0123456789abcdefghijklmnopqrstuv"}
	for _, c := range []struct {
		at, n int64
		bytes string
		code  int64
	}{
		{0, 0, "", impl.OK}, {0, 4, "0123", impl.OK}, {8, 1, "8", impl.OK}, {31, 1, "v", impl.OK}, {32, 0, "", impl.OK}, {0, 32, m.Bytes, impl.OK}, {30, 2, "uv", impl.OK},
		{31, 2, "", impl.ErrMemory}, {32, 1, "", impl.ErrMemory}, {33, 0, "", impl.ErrMemory}, {0, 33, "", impl.ErrMemory}, {-1, 1, "", impl.ErrMemory}, {-1, 0, "", impl.ErrMemory}, {5, -1, "", impl.ErrMemory}, {math.MaxInt64, 1, "", impl.ErrMemory}, {1, math.MaxInt64, "", impl.ErrMemory},
	} {
		bytes, code := impl.ReadMem(m, c.at, c.n)
		is(t, "ReadMem of "+shown(c.at, c.n), all(bytes, code), c.bytes, c.code)
	}
}

func TestP12WriteMem(t *testing.T) {
	m, _ := impl.NewMemory(32)
	w, code := impl.WriteMem(m, 12, "abcd")
	bytes, read := impl.ReadMem(w, 12, 4)
	is(t, "the example", all(code, bytes, read, w.Bytes[:12], w.Bytes[16:], m.Bytes), impl.OK, "abcd", impl.OK, m.Bytes[:12], m.Bytes[16:], strings.Repeat("\x00", 32))
	is(t, "the free list", all(alike(w.Free, m.Free)), true)
	w, code = impl.WriteMem(m, 30, "abc")
	is(t, "the example of ErrMemory", all(alike(w, impl.Memory{}), code), true, impl.ErrMemory)
	for _, m := range []impl.Memory{{Bytes: "0123456789abcdefghijklmnopqrstuv", Free: []impl.Block{{At: 8, Size: 2}, {At: 20, Size: 12}}}, {Bytes: "01234"}, {}, blank(4096, 8, 4088)} {
		for _, c := range ranges(int64(len(m.Bytes))) {
			if c[1] < 0 || c[1] > 5000 {
				continue
			}
			text := strings.Repeat("\xffz", 2500)[:c[1]]
			w, code := impl.WriteMem(m, c[0], text)
			if isWithin(c[0], c[1], len(m.Bytes)) {
				is(t, "WriteMem of "+shown(c), all(code, w.Bytes), impl.OK, m.Bytes[:c[0]]+text+m.Bytes[c[0]+c[1]:])
				is(t, "WriteMem of "+shown(c), all(alike(w.Free, m.Free)), true)
			} else {
				is(t, "WriteMem of "+shown(c), all(alike(w, impl.Memory{}), code), true, impl.ErrMemory)
			}
		}
	}
}

func TestP12AllocExample(t *testing.T) {
	m, _ := impl.NewMemory(32)
	a, at, code := impl.Alloc(m, 3, 1)
	is(t, "the first range", all(at, code), 8, impl.OK)
	b, next, code := impl.Alloc(a, 4, 4)
	is(t, "the second range", all(next, code, impl.FreeBytes(b)), 12, impl.OK, 17)
	same(t, "both ranges", b, blank(32, 11, 1, 16, 16))
	c, code := impl.Release(b, at, 3)
	is(t, "Release", all(code), impl.OK)
	same(t, "the first one released", c, blank(32, 8, 4, 16, 16))
	d, code := impl.Release(c, next, 4)
	is(t, "both released", all(code, impl.SameMemory(d, m)), impl.OK, true)
	again, code := impl.Release(d, next, 4)
	is(t, "released again", all(alike(again, impl.Memory{}), code), true, impl.ErrMemory)
}

func TestP12Alloc(t *testing.T) {
	for _, c := range []struct {
		m                     impl.Memory
		size, align, at, code int64
		free                  string
	}{
		{blank(32, 8, 24), 24, 8, 8, impl.OK, ""}, {blank(32, 8, 24), 25, 1, 0, impl.ErrMany, ""}, {blank(32, 8, 24), 24, 1, 8, impl.OK, ""}, {blank(32, 8, 24), 23, 1, 8, impl.OK, "{31 1}"}, {blank(32, 8, 24), 1, 1, 8, impl.OK, "{9 23}"}, {blank(32, 8, 24), 1, 8, 8, impl.OK, "{9 23}"}, // of one block
		{blank(32, 9, 4), 4, 1, 9, impl.OK, ""}, {blank(32, 9, 4), 4, 2, 0, impl.ErrMany, ""}, {blank(32, 9, 4), 3, 2, 10, impl.OK, "{9 1}"}, {blank(32, 9, 4), 1, 4, 12, impl.OK, "{9 3}"}, {blank(32, 9, 4), 1, 8, 0, impl.ErrMany, ""}, {blank(32, 9, 4), 2, 4, 0, impl.ErrMany, ""}, // that begins at an odd address
		{blank(32, 9, 14), 2, 8, 16, impl.OK, "{9 7} {18 5}"}, {blank(32, 9, 14), 7, 8, 16, impl.OK, "{9 7}"}, {blank(32, 9, 14), 8, 8, 0, impl.ErrMany, ""}, {blank(32, 9, 14), 11, 4, 12, impl.OK, "{9 3}"}, {blank(32, 9, 14), 13, 2, 10, impl.OK, "{9 1}"}, {blank(32, 9, 14), 14, 1, 9, impl.OK, ""}, {blank(32, 9, 14), 1, 2, 10, impl.OK, "{9 1} {11 12}"},
		{blank(40, 8, 2, 12, 4, 20, 16), 4, 1, 12, impl.OK, "{8 2} {20 16}"}, {blank(40, 8, 2, 12, 4, 20, 16), 3, 1, 12, impl.OK, "{8 2} {15 1} {20 16}"}, {blank(40, 8, 2, 12, 4, 20, 16), 2, 2, 8, impl.OK, "{12 4} {20 16}"}, {blank(40, 8, 2, 12, 4, 20, 16), 5, 1, 20, impl.OK, "{8 2} {12 4} {25 11}"}, // the first block that has room
		{blank(40, 8, 2, 12, 4, 20, 16), 3, 8, 24, impl.OK, "{8 2} {12 4} {20 4} {27 9}"}, {blank(40, 8, 2, 12, 4, 20, 16), 12, 8, 24, impl.OK, "{8 2} {12 4} {20 4}"}, {blank(40, 8, 2, 12, 4, 20, 16), 16, 4, 20, impl.OK, "{8 2} {12 4}"}, {blank(40, 8, 2, 12, 4, 20, 16), 17, 1, 0, impl.ErrMany, ""}, {blank(40, 8, 2, 12, 4, 20, 16), 22, 1, 0, impl.ErrMany, ""}, // all free bytes, but in three blocks
		{blank(40, 13, 3, 17, 3, 21, 3), 1, 8, 0, impl.ErrMany, ""}, {blank(40, 13, 3, 17, 3, 21, 3), 2, 2, 14, impl.OK, "{13 1} {17 3} {21 3}"}, {blank(40, 13, 3, 17, 3, 21, 3), 3, 2, 0, impl.ErrMany, ""}, {blank(40, 13, 3, 17, 3, 22, 4), 3, 2, 22, impl.OK, "{13 3} {17 3} {25 1}"},
		{blank(0), 1, 1, 0, impl.ErrMany, ""}, {blank(8), 1, 1, 0, impl.ErrMany, ""}, {blank(32), 1, 1, 0, impl.ErrMany, ""}, {blank(9, 8, 1), 1, 8, 8, impl.OK, ""}, {blank(4096, 8, 4088), 4088, 8, 8, impl.OK, ""}, {blank(4096, 8, 4088), 4089, 1, 0, impl.ErrMany, ""}, {blank(4096, 4095, 1), 1, 1, 4095, impl.OK, ""}, {blank(4096, 4095, 1), 1, 2, 0, impl.ErrMany, ""}, {blank(4096, 4095, 1), 1, 8, 0, impl.ErrMany, ""},
		{blank(32, 8, 24), math.MaxInt64, 1, 0, impl.ErrMany, ""}, {blank(32, 8, 24), math.MaxInt64, 8, 0, impl.ErrMany, ""}, {blank(32, 8, 24), math.MaxInt64 - 7, 8, 0, impl.ErrMany, ""}, {blank(32, 8, 24), 1 << 32, 4, 0, impl.ErrMany, ""}, {blank(32, 8, 24), 1<<32 + 1, 4, 0, impl.ErrMany, ""}, {blank(0), math.MaxInt64, 8, 0, impl.ErrMany, ""},
	} {
		what := "Alloc of " + shown(c.size, c.align) + " in " + shown(c.m.Free)
		w, at, code := impl.Alloc(c.m, c.size, c.align)
		free := ""
		for _, b := range w.Free {
			free += " {" + strconv.FormatInt(b.At, 10) + " " + strconv.FormatInt(b.Size, 10) + "}"
		}
		is(t, what, all(at, code, strings.TrimSpace(free)), c.at, c.code, c.free)
		if c.code == impl.OK {
			is(t, what, all(w.Bytes), c.m.Bytes)
		} else {
			is(t, what, all(alike(w, impl.Memory{})), true)
		}
	}
}

func TestP12AllocErrors(t *testing.T) {
	for _, m := range []impl.Memory{blank(0), blank(32), blank(32, 8, 24), blank(32, 9, 3, 20, 2), {Bytes: "some bytes", Free: []impl.Block{{At: 9, Size: 1}}}} {
		for _, align := range []int64{1, 2, 4, 8} {
			w, at, code := impl.Alloc(m, 0, align)
			is(t, "Alloc of no bytes", all(at, code, alike(w, m)), 0, impl.OK, true)
			for _, size := range []int64{-1, -8, math.MinInt64, math.MinInt64 + 8} {
				w, at, code = impl.Alloc(m, size, align)
				is(t, "Alloc of "+strconv.FormatInt(size, 10), all(alike(w, impl.Memory{}), at, code), true, 0, impl.ErrRange)
			}
		}
		for _, align := range append(edges(), 3, 5, 6, 12, -4, -8) {
			if slices.Contains([]int64{1, 2, 4, 8}, align) {
				continue
			}
			for _, size := range []int64{0, 1, -1, 100, math.MaxInt64} { // before the check whether there is room
				w, at, code := impl.Alloc(m, size, align)
				is(t, "Alloc with the alignment "+strconv.FormatInt(align, 10), all(alike(w, impl.Memory{}), at, code), true, 0, impl.ErrRange)
			}
		}
	}
}

// TestP12EveryAlloc allocates and releases every range in all memories of up to 14 bytes, and in some of up to 18.
func TestP12EveryAlloc(t *testing.T) {
	for bytes := 8; bytes <= 18; bytes++ {
		for bits := range 1 << (bytes - 8) {
			model := freshModel(int64(bytes))
			for i := range bytes - 8 {
				model.free[8+i] = bits>>i&1 == 1
				model.bytes[i] = byte('a' + i)
			}
			m := model.memory()
			is(t, shown(m.Free), all(impl.MemoryOk(m)), true)
			if bytes > 14 && bits%5 > 0 {
				continue
			}
			for size := int64(1); size < 12; size++ {
				for _, align := range []int64{1, 2, 4, 8} {
					checkAlloc(t, m, size, align)
				}
			}
			for at := int64(6); at < 20; at++ {
				for size := int64(-1); size < 12; size++ {
					checkRelease(t, m, at, size)
				}
			}
		}
	}
}

func TestP12Release(t *testing.T) {
	m := blank(48, 12, 4, 24, 8)
	for _, c := range []struct {
		at, size int64
		free     impl.Memory
	}{
		{8, 2, blank(48, 8, 2, 12, 4, 24, 8)}, {34, 4, blank(48, 12, 4, 24, 8, 34, 4)}, {18, 2, blank(48, 12, 4, 18, 2, 24, 8)}, {47, 1, blank(48, 12, 4, 24, 8, 47, 1)}, {18, 5, blank(48, 12, 4, 18, 5, 24, 8)}, {17, 6, blank(48, 12, 4, 17, 6, 24, 8)}, // merged with none
		{16, 2, blank(48, 12, 6, 24, 8)}, {16, 7, blank(48, 12, 11, 24, 8)}, {32, 1, blank(48, 12, 4, 24, 9)}, {32, 16, blank(48, 12, 4, 24, 24)}, // with the block before
		{8, 4, blank(48, 8, 8, 24, 8)}, {11, 1, blank(48, 11, 5, 24, 8)}, {17, 7, blank(48, 12, 4, 17, 15)}, {23, 1, blank(48, 12, 4, 23, 9)}, // with the block behind
		{16, 8, blank(48, 12, 20)}, // with both
	} {
		w, code := impl.Release(m, c.at, c.size)
		is(t, "Release of "+shown(c.at, c.size), all(code), impl.OK)
		same(t, "Release of "+shown(c.at, c.size), w, c.free)
		checkRelease(t, m, c.at, c.size)
	}
	for _, c := range [][2]int64{
		{12, 4}, {12, 1}, {15, 1}, {24, 8}, {31, 1}, {13, 2}, // free already
		{11, 2}, {8, 5}, {15, 2}, {16, 9}, {8, 40}, {11, 6}, {10, 14}, {23, 10}, {31, 2}, {12, 20}, // in part
		{7, 1}, {0, 8}, {0, 1}, {7, 2}, {-1, 1}, {-8, 16}, {4, 4}, // below MinPlace
		{47, 2}, {48, 1}, {49, 1}, {40, 9}, {100, 4}, // out of bounds
		{16, -1}, {16, -8}, {48, -1}, {24, -8}, {40, math.MinInt64}, // of a negative size
		{math.MaxInt64, 1}, {16, math.MaxInt64}, {math.MaxInt64 - 7, 8}, {math.MaxInt64, math.MaxInt64}, {math.MinInt64, math.MaxInt64}, {math.MinInt64, math.MinInt64}, {math.MaxInt64, math.MinInt64}, {16, math.MaxInt64 - 15}, {16, math.MaxInt64 - 16}, {1<<32 + 16, 1}, {16, 1<<32 + 1},
	} {
		w, code := impl.Release(m, c[0], c[1])
		is(t, "Release of "+shown(c), all(alike(w, impl.Memory{}), code), true, impl.ErrMemory)
	}
	for _, at := range append(edges(), 12, 24, 48, 49, 4096) {
		w, code := impl.Release(m, at, 0)
		is(t, "Release of nothing at "+strconv.FormatInt(at, 10), all(alike(w, m), code), true, impl.OK)
		w, code = impl.Release(impl.Memory{}, at, 0)
		is(t, "Release of nothing in nothing", all(alike(w, impl.Memory{}), code), true, impl.OK)
		w, code = impl.Release(impl.Memory{}, at, 1)
		is(t, "Release in nothing", all(alike(w, impl.Memory{}), code), true, impl.ErrMemory)
	}
	for _, c := range ranges(48) {
		checkRelease(t, m, c[0], c[1])
	}
}

func TestP12GrowMem(t *testing.T) {
	for _, c := range []struct {
		m    impl.Memory
		more int64
		want impl.Memory
	}{
		{blank(32, 8, 24), 8, blank(40, 8, 32)}, {blank(32, 8, 24), 0, blank(32, 8, 24)}, {blank(32, 9, 3, 31, 1), 5, blank(37, 9, 3, 31, 6)}, // the last block is free
		{blank(32), 8, blank(40, 32, 8)}, {blank(32, 8, 23), 1, blank(33, 8, 23, 32, 1)}, {blank(32, 8, 4, 16, 2), 4, blank(36, 8, 4, 16, 2, 32, 4)}, {blank(32), 0, blank(32)}, // the last byte is not
		{blank(0), 0, blank(0)}, {blank(0), 1, blank(1)}, {blank(0), 8, blank(8)}, {blank(0), 9, blank(9, 8, 1)}, {blank(0), 32, blank(32, 8, 24)}, {blank(5), 2, blank(7)}, {blank(5), 3, blank(8)}, {blank(5), 4, blank(9, 8, 1)}, {blank(5), 11, blank(16, 8, 8)}, {blank(7), 1, blank(8)}, {blank(8), 1, blank(9, 8, 1)}, {blank(8), 0, blank(8)}, {blank(9), 1, blank(10, 9, 1)}, // of few bytes
		{blank(0), 4096, blank(4096, 8, 4088)}, {blank(32, 8, 24), 4064, blank(4096, 8, 4088)}, {blank(4095), 1, blank(4096, 4095, 1)}, {blank(4096), 0, blank(4096)}, {blank(4096, 8, 4088), 0, blank(4096, 8, 4088)},
	} {
		w, code := impl.GrowMem(c.m, c.more)
		what := "GrowMem by " + strconv.FormatInt(c.more, 10) + " of " + shown(len(c.m.Bytes), c.m.Free)
		is(t, what, all(code, impl.MemoryOk(w)), impl.OK, true)
		same(t, what, w, c.want)
	}
	for _, m := range []impl.Memory{blank(0), blank(5), blank(32, 8, 24), blank(4096), blank(4096, 8, 4088)} {
		left := impl.MaxMemory - int64(len(m.Bytes))
		for _, more := range append(edges(), left+1, left+2, 4097) {
			w, code := impl.GrowMem(m, more)
			switch {
			case more < 0:
				is(t, "GrowMem", all(alike(w, impl.Memory{}), code), true, impl.ErrRange)
			case more > left:
				is(t, "GrowMem", all(alike(w, impl.Memory{}), code), true, impl.ErrMany)
			default:
				is(t, "GrowMem", all(int64(len(w.Bytes)), code, impl.FreeBytes(w)), int64(len(m.Bytes))+more, impl.OK, impl.FreeBytes(m)+max(0, int64(len(m.Bytes))+more-max(8, int64(len(m.Bytes)))))
			}
		}
	}
	w, code := impl.GrowMem(impl.Memory{Bytes: "some \xff bytes", Free: []impl.Block{{At: 9, Size: 2}}}, 4)
	is(t, "the bytes stay", all(w.Bytes, code), "some \xff bytes\x00\x00\x00\x00", impl.OK)
}

func TestP12FreeBytes(t *testing.T) {
	is(t, "FreeBytes", all(impl.FreeBytes(blank(32, 11, 1, 16, 16)), impl.FreeBytes(impl.Memory{}), impl.FreeBytes(blank(32)), impl.FreeBytes(blank(32, 8, 24)), impl.FreeBytes(blank(4096, 8, 4088)), impl.FreeBytes(blank(4097, 8, 1))), 17, 0, 0, 24, 4088, 0)
}

// piece is a range that has been allocated, with what was stored there.
type piece struct {
	at   int64
	text string
}

// player plays operations with a memory and its model.
type player struct {
	t      *testing.T
	r      *rand.Rand
	m      impl.Memory
	model  *memoryModel
	pieces []piece
	met    map[string]int
}

// alloc allocates a range, which must lie apart from all others, and stores something there.
func (p *player) alloc() {
	size, align := 1+int64(p.r.Intn(20)), int64(1)<<p.r.Intn(4)
	if p.r.Intn(10) == 0 {
		size *= 10
	}
	before := p.m.Bytes
	m, at, code := impl.Alloc(p.m, size, align)
	want, ok := p.model.placeOf(size, align)
	if !ok {
		p.met["no room"]++
		is(p.t, "Alloc", all(code, at, alike(m, impl.Memory{})), impl.ErrMany, 0, true)
		return
	}
	is(p.t, "Alloc", all(code, at, at%align, m.Bytes), impl.OK, want, 0, before)
	for _, other := range p.pieces {
		if at < other.at+int64(len(other.text)) && other.at < at+size || at < 8 {
			p.t.Errorf("the range at %d of %d bytes overlaps with the one at %d of %d", at, size, other.at, len(other.text))
		}
	}
	p.model.set(at, size, false)
	text := strings.Repeat(string(rune('a'+p.r.Intn(26))), int(size))
	p.m, code = impl.WriteMem(m, at, text)
	is(p.t, "WriteMem", all(code), impl.OK)
	copy(p.model.bytes[at:], text)
	p.pieces = append(p.pieces, piece{at, text})
	p.met["alloc"]++
}

// release releases one of the ranges, in which nothing else may have been stored.
func (p *player) release() {
	if len(p.pieces) == 0 {
		return
	}
	i := p.r.Intn(len(p.pieces))
	old := p.pieces[i]
	p.pieces = slices.Delete(p.pieces, i, i+1)
	size := int64(len(old.text))
	bytes, code := impl.ReadMem(p.m, old.at, size)
	is(p.t, "ReadMem", all(bytes, code), old.text, impl.OK)
	m, code := impl.Release(p.m, old.at, size)
	is(p.t, "Release", all(code, m.Bytes), impl.OK, p.m.Bytes)
	p.m = m
	p.model.set(old.at, size, true)
	p.met["release"]++
}

// misuse tries to release any range.
func (p *player) misuse() {
	at, size := int64(p.r.Intn(len(p.model.bytes)+20)-10), int64(p.r.Intn(12)-2)
	if size != 0 && at >= 8 && isWithin(at, size, len(p.model.bytes)) && p.model.all(at, size, false) {
		return
	}
	checkRelease(p.t, p.m, at, size)
	p.met["misuse"]++
}

func (p *player) grow() {
	more := int64(p.r.Intn(30))
	m, code := impl.GrowMem(p.m, more)
	if len(p.model.bytes)+int(more) > impl.MaxMemory {
		is(p.t, "GrowMem", all(code, alike(m, impl.Memory{})), impl.ErrMany, true)
		return
	}
	is(p.t, "GrowMem", all(code), impl.OK)
	p.m = m
	p.model.grow(more)
	p.met["grow"]++
}

// TestP12Model plays operations that are made up, and at last releases everything.
func TestP12Model(t *testing.T) {
	met := map[string]int{}
	for seed := range int64(150) {
		r := rand.New(rand.NewSource(1000 + seed))
		size := []int64{0, 7, 8, 9, 40, 200, 500, 4096}[seed%8]
		m, code := impl.NewMemory(size)
		is(t, "NewMemory", all(code), impl.OK)
		p := &player{t, r, m, freshModel(size), nil, met}
		for range 120 {
			switch r.Intn(12) {
			case 0, 1, 2, 3, 4, 5:
				p.alloc()
			case 6, 7, 8:
				p.release()
			case 9, 10:
				p.misuse()
			case 11:
				p.grow()
			}
			same(t, "after an operation", p.m, p.model.memory())
			is(t, "after an operation", all(impl.MemoryOk(p.m), impl.SameMemory(p.m, p.model.memory())), true, true)
		}
		for len(p.pieces) > 0 {
			p.release()
		}
		fresh, code := impl.NewMemory(int64(len(p.m.Bytes)))
		is(t, "everything released", all(code, alike(p.m.Free, fresh.Free)), impl.OK, true)
	}
	for _, what := range []string{"alloc", "no room", "release", "misuse", "grow"} {
		if met[what] < 100 {
			t.Errorf("%d times %s: not enough", met[what], what)
		}
	}
}

// TestP12ReleaseInAnyOrder fills a memory with ranges and releases them in all orders.
func TestP12ReleaseInAnyOrder(t *testing.T) {
	start, _ := impl.NewMemory(40)
	sizes := [][2]int64{{3, 1}, {4, 4}, {1, 1}, {8, 8}, {5, 2}}
	full, at := start, make([]int64, len(sizes))
	for i, c := range sizes {
		var code int64
		full, at[i], code = impl.Alloc(full, c[0], c[1])
		is(t, "Alloc", all(code), impl.OK)
	}
	is(t, "addresses", all(at[0], at[1], at[2], at[3], at[4]), 8, 12, 11, 16, 24)
	var visit func(m impl.Memory, left []int)
	visit = func(m impl.Memory, left []int) {
		if len(left) == 0 {
			is(t, "everything released", all(impl.SameMemory(m, start)), true)
		}
		for i, j := range left {
			w, code := impl.Release(m, at[j], sizes[j][0])
			is(t, "Release", all(code, impl.MemoryOk(w)), impl.OK, true)
			visit(w, slices.Delete(slices.Clone(left), i, i+1))
		}
	}
	visit(full, []int{0, 1, 2, 3, 4})
}

// memoryCall are the arguments of the functions on memories.
type memoryCall struct {
	M, Other impl.Memory
	At, Size int64
	Bytes    string
}

func TestP1Memory(t *testing.T) {
	t.Parallel()
	call := func(c memoryCall) []any {
		read, readCode := impl.ReadMem(c.M, c.At, c.Size)
		written, writeCode := impl.WriteMem(c.M, c.At, c.Bytes)
		taken, at, takeCode := impl.Alloc(c.M, c.Size, c.At)
		byOne, one, oneCode := impl.Alloc(c.M, c.Size, 1)
		given, giveCode := impl.Release(c.M, c.At, c.Size)
		grown, growCode := impl.GrowMem(c.M, c.Size)
		fresh, freshCode := impl.NewMemory(c.Size)
		return all(read, readCode, written, writeCode, taken, at, takeCode, byOne, one, oneCode, given, giveCode, grown, growCode, fresh, freshCode, impl.MemoryOk(c.M), impl.SameMemory(c.M, c.M), impl.SameMemory(c.M, c.Other), impl.FreeBytes(c.M))
	}
	list := []impl.Memory{
		{}, {Free: []impl.Block{}}, blank(8), blank(32, 8, 24), blank(32, 11, 1, 16, 16), blank(32, 8, 4, 16, 4, 24, 2), blank(32, 9, 1, 11, 1, 13, 1, 15, 1, 17, 1, 19, 1), blank(4096, 8, 4088), // valid
		blank(0, 8, 1), blank(32, 8, 4, 12, 4), blank(4097, 8, 1), blank(32, math.MaxInt64, math.MaxInt64), blank(32, 8, math.MinInt64), blank(32, slices.Repeat([]int64{8, 1}, 1000)...),
	}
	numbers := []int64{0, 1, 2, 4, 8, 9, 12, 31, 32, 33, -1, 4096, 1 << 32, math.MaxInt64, math.MaxInt64 - 8, math.MinInt64, math.MinInt64 + 1}
	for i, m := range list {
		for _, at := range numbers {
			for _, size := range numbers {
				pure(t, shown(m.Free, at, size), memoryCall{m, list[(i+1)%len(list)], at, size, "text"[:size&3]}, call)
			}
		}
	}
	pure(t, "a long text", memoryCall{list[7], list[3], 1, 2, strings.Repeat("a", 1000000)}, call)
}
