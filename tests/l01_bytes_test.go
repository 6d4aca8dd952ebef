package tests

import (
	"math"
	"math/big"
	"strconv"
	"strings"
	"testing"

	"loop.example/g00901/impl"
)

// tails are what follows an encoding in the tests.
var tails = []string{"", "z", "\x00", "\x7f", "\x80", "\xff\xff", "\x80\x80\x80\x80\x80\x80\x80\x80\x80\x80\x01"}

// readLeb decodes by the definition alone: groups of any number in an integer of any size, and then
// what makes an encoding the shortest one of an int64. It is the model for GetLeb and GetSleb.
func readLeb(s string, signed bool) (int64, int64, bool) {
	n := new(big.Int)
	for i := range len(s) {
		group := new(big.Int).SetInt64(int64(s[i] & 0x7f))
		n.Or(n, group.Lsh(group, uint(7*i)))
		if s[i]&0x80 != 0 {
			continue
		}
		superfluous := i > 0 && s[i] == 0
		if signed {
			negative := s[i]&0x40 != 0
			if negative {
				n.Sub(n, new(big.Int).Lsh(big.NewInt(1), uint(7*(i+1))))
			}
			before := i > 0 && s[i-1]&0x40 != 0
			superfluous = i > 0 && (s[i] == 0 && !before || s[i] == 0x7f && before)
		}
		if superfluous || !n.IsInt64() {
			return 0, 0, false
		}
		return n.Int64(), int64(i + 1), true
	}
	return 0, 0, false
}

// checkLeb compares the two decoders with the model, and encodes again what they accept.
func checkLeb(t *testing.T, s string) {
	t.Helper()
	n, many, ok := impl.GetLeb(s)
	wantN, wantMany, wantOk := readLeb(s, false)
	if n != wantN || many != wantMany || ok != wantOk {
		t.Fatalf("GetLeb(%q) is %d, %d, %v, want %d, %d, %v", s, n, many, ok, wantN, wantMany, wantOk)
	}
	if ok && impl.PutLeb(n) != s[:many] {
		t.Fatalf("PutLeb(%d) is %q, want %q", n, impl.PutLeb(n), s[:many])
	}
	n, many, ok = impl.GetSleb(s)
	wantN, wantMany, wantOk = readLeb(s, true)
	if n != wantN || many != wantMany || ok != wantOk {
		t.Fatalf("GetSleb(%q) is %d, %d, %v, want %d, %d, %v", s, n, many, ok, wantN, wantMany, wantOk)
	}
	if ok && impl.PutSleb(n) != s[:many] {
		t.Fatalf("PutSleb(%d) is %q, want %q", n, impl.PutSleb(n), s[:many])
	}
}

func TestP2CodeWord(t *testing.T) {
	words := "ok form range none many state parse type trap fuel memory handle lent cycle version right enter cancel read text"
	codes := []int64{
		impl.OK, impl.ErrForm, impl.ErrRange, impl.ErrNone, impl.ErrMany, impl.ErrState, impl.ErrParse, impl.ErrType, impl.ErrTrap, impl.ErrFuel,
		impl.ErrMemory, impl.ErrHandle, impl.ErrLent, impl.ErrCycle, impl.ErrVersion, impl.ErrRight, impl.ErrEnter, impl.ErrCancel, impl.ErrRead, impl.ErrText,
	}
	for i, word := range strings.Fields(words) {
		is(t, word, all(codes[i], impl.CodeWord(int64(i))), i, word)
	}
	for _, n := range []int64{-1, 20, 21, 256, 1 << 32, math.MaxInt64, math.MinInt64} {
		zero(t, "CodeWord("+strconv.FormatInt(n, 10)+")", impl.CodeWord(n))
	}
}

func TestP2LebExamples(t *testing.T) {
	is(t, "PutLeb(624485)", all(impl.PutLeb(624485)), "\xe5\x8e\x26")
	is(t, "PutLeb(0)", all(impl.PutLeb(0)), "\x00")
	is(t, "PutLeb(127)", all(impl.PutLeb(127)), "\x7f")
	is(t, "PutLeb(128)", all(impl.PutLeb(128)), "\x80\x01")
	is(t, "PutLeb of the greatest", all(impl.PutLeb(math.MaxInt64)), "\xff\xff\xff\xff\xff\xff\xff\xff\x7f")
	zero(t, "PutLeb of negatives", impl.PutLeb(-1), impl.PutLeb(-128), impl.PutLeb(math.MinInt64))

	n, many, ok := impl.GetLeb("\xe5\x8e\x26\x7a")
	is(t, "GetLeb", all(n, many, ok), 624485, 3, true)
	n, many, ok = impl.GetLeb("\xff\xff\xff\xff\xff\xff\xff\xff\x7f\x01")
	is(t, "GetLeb of the greatest", all(n, many, ok), math.MaxInt64, 9, true)

	is(t, "PutSleb(-624485)", all(impl.PutSleb(-624485)), "\x9b\xf1\x59")
	is(t, "PutSleb(64)", all(impl.PutSleb(64)), "\xc0\x00")
	is(t, "PutSleb(63)", all(impl.PutSleb(63)), "\x3f")
	is(t, "PutSleb(-64)", all(impl.PutSleb(-64)), "\x40")
	is(t, "PutSleb(-65)", all(impl.PutSleb(-65)), "\xbf\x7f")
	is(t, "PutSleb of the greatest", all(impl.PutSleb(math.MaxInt64)), "\xff\xff\xff\xff\xff\xff\xff\xff\xff\x00")
	is(t, "PutSleb of the least", all(impl.PutSleb(math.MinInt64)), "\x80\x80\x80\x80\x80\x80\x80\x80\x80\x7f")

	n, many, ok = impl.GetSleb("\x9b\xf1\x59")
	is(t, "GetSleb", all(n, many, ok), -624485, 3, true)
	n, many, ok = impl.GetSleb("\x7f\xff")
	is(t, "GetSleb of -1", all(n, many, ok), -1, 1, true)
}

func TestP2LebRejected(t *testing.T) {
	nines := strings.Repeat("\x80", 9)
	ones := strings.Repeat("\xff", 9)
	for _, s := range []string{
		"", "\x80", "\xff\xff", // cut short
		"\x80\x00", "\x81\x00", "\xff\x80\x00", nines + "\x00", // longer than necessary
		nines + "\x01", ones + "\x01", nines + "\x02", ones + "\x7f", // above the greatest int64
		nines + "\x80\x01", ones + "\xff\x7f", nines, ones, strings.Repeat("\x80", 1000) + "\x01", // too many groups
	} {
		n, many, ok := impl.GetLeb(s)
		zero(t, "GetLeb of "+impl.PutHex(s), n, many, ok)
	}
	for _, s := range []string{
		"", "\x80", "\xff\xff", // cut short
		"\xff\x7f", "\x80\x00", "\xbf\x00", "\xc0\x7f", "\xff\xff\x7f", ones + "\x7f", nines + "\x00", // longer than necessary
		nines + "\x01", ones + "\x01", nines + "\x02", ones + "\x3f", nines + "\x40", ones + "\x7e", // outside int64
		nines + "\x80\x7f", ones + "\xff\x00", nines, ones, strings.Repeat("\xff", 1000) + "\x00", // too many groups
	} {
		n, many, ok := impl.GetSleb(s)
		zero(t, "GetSleb of "+impl.PutHex(s), n, many, ok)
	}
}

func TestP2LebRoundTrip(t *testing.T) {
	for _, n := range edges() {
		checkLebNumber(t, "Sleb", n, impl.PutSleb(n), impl.GetSleb)
		if n >= 0 {
			checkLebNumber(t, "Leb", n, impl.PutLeb(n), impl.GetLeb)
		} else {
			zero(t, "PutLeb of a negative", impl.PutLeb(n))
		}
	}
}

// checkLebNumber decodes the encoding of n with every tail, and then cut short.
func checkLebNumber(t *testing.T, what string, n int64, form string, get func(string) (int64, int64, bool)) {
	t.Helper()
	if form == "" {
		t.Errorf("%s: %d has no encoding", what, n)
	}
	for _, tail := range tails {
		got, many, ok := get(form + tail)
		is(t, what, all(got, many, ok), n, len(form), true)
	}
	for i := range len(form) {
		got, many, ok := get(form[:i])
		zero(t, what+" cut short", got, many, ok)
	}
}

// TestP2LebModel compares with the model all strings of up to two bytes, those of up to five bytes that differ in the bits
// that matter, and those of eight to eleven bytes whose last ones do.
func TestP2LebModel(t *testing.T) {
	checkLeb(t, "")
	for a := range 256 {
		checkLeb(t, string([]byte{byte(a)}))
		for b := range 256 {
			checkLeb(t, string([]byte{byte(a), byte(b)}))
		}
	}
	telling := "\x00\x01\x3f\x40\x7e\x7f\x80\x81\xbf\xc0\xff"
	ends := []string{""}
	for range 5 {
		var longer []string
		for _, end := range ends {
			for i := range len(telling) {
				longer = append(longer, end+telling[i:i+1])
			}
		}
		ends = longer
		for _, end := range ends {
			checkLeb(t, end)
			if len(end) > 3 {
				continue
			}
			for many := 8 - len(end); many <= 10; many++ {
				checkLeb(t, strings.Repeat("\x80", many)+end)
				checkLeb(t, strings.Repeat("\xff", many)+end)
				checkLeb(t, strings.Repeat("\xd5", many)+end)
			}
		}
	}
}

func TestP2Fix(t *testing.T) {
	is(t, "PutFix", all(impl.PutFix(258, 2), impl.PutFix(258, 1), impl.PutFix(258, 3)), "\x02\x01", "\x02", "\x02\x01\x00")
	is(t, "PutFix of -1", all(impl.PutFix(-1, 8), impl.PutFix(-1, 1)), "\xff\xff\xff\xff\xff\xff\xff\xff", "\xff")
	is(t, "PutFix of the greatest", all(impl.PutFix(math.MaxInt64, 8)), "\xff\xff\xff\xff\xff\xff\xff\x7f")
	is(t, "PutFix of the least", all(impl.PutFix(math.MinInt64, 8)), "\x00\x00\x00\x00\x00\x00\x00\x80")
	is(t, "PutFix(n, 0)", all(impl.PutFix(0, 0), impl.PutFix(-1, 0)), "", "")
	is(t, "PutFix of an outside width", all(impl.PutFix(1, -1), impl.PutFix(1, 9), impl.PutFix(1, 256), impl.PutFix(1, math.MaxInt64), impl.PutFix(1, math.MinInt64)), "", "", "", "", "")

	is(t, "GetFix", all(impl.GetFix("\x02\x01"), impl.GetFix("\x02\x01\x00"), impl.GetFix("")), 258, 258, 0)
	is(t, "GetFix of eight bytes", all(impl.GetFix(strings.Repeat("\xff", 8)), impl.GetFix("\x00\x00\x00\x00\x00\x00\x00\x80")), -1, math.MinInt64)
	is(t, "GetFix of seven bytes", all(impl.GetFix(strings.Repeat("\xff", 7))), 1<<56-1)
	is(t, "GetFix of more", all(impl.GetFix("\x01\x00\x00\x00\x00\x00\x00\x00\x00"), impl.GetFix(strings.Repeat("\xff", 9)), impl.GetFix(strings.Repeat("\x01", 264))), 0, 0, 0)
}

func TestP2FixRoundTrip(t *testing.T) {
	for _, n := range edges() {
		is(t, "PutFix and GetFix", all(impl.GetFix(impl.PutFix(n, 8))), n)
		for many := range int64(8) {
			form := impl.PutFix(n, many)
			low := int64(uint64(n) % (1 << (8 * many)))
			is(t, "PutFix and GetFix", all(len(form) == int(many), impl.GetFix(form)), true, low)
		}
	}
}

func TestP2Bytes(t *testing.T) {
	is(t, "PutBytes", all(impl.PutBytes("abc"), impl.PutBytes(""), impl.PutBytes("\xff\x00")), "\x03abc", "\x00", "\x02\xff\x00")
	s, many, ok := impl.GetBytes("\x03abcd")
	is(t, "GetBytes", all(s, many, ok), "abc", 4, true)
	s, many, ok = impl.GetBytes("\x00")
	is(t, "GetBytes of an empty string", all(s, many, ok), "", 1, true)

	for _, size := range []int{0, 1, 127, 128, 129, 16383, 16384} {
		s := strings.Repeat("\xe9", size)
		form := impl.PutBytes(s)
		is(t, "PutBytes", all(form), impl.PutLeb(int64(size))+s)
		for _, tail := range tails {
			got, many, ok := impl.GetBytes(form + tail)
			is(t, "GetBytes", all(got, many, ok), s, len(form), true)
		}
		got, many, ok := impl.GetBytes(form[:len(form)-1])
		zero(t, "GetBytes cut short", got, many, ok)
	}
	for _, form := range []string{
		"", "\x80", "\x80\x00", "\x83\x00abc", // prefixes that are malformed
		"\x01", "\x03ab", "\x80\x01" + strings.Repeat("a", 127), // strings cut short
		impl.PutLeb(math.MaxInt64) + "abc", impl.PutLeb(math.MaxInt64-8) + "abc", impl.PutLeb(1<<32) + "abc", impl.PutLeb(1<<32+3) + "abc",
		strings.Repeat("\xff", 9) + "\x01abc",
	} {
		got, many, ok := impl.GetBytes(form)
		zero(t, "GetBytes of "+impl.PutHex(form), got, many, ok)
	}
}

func TestP2Hex(t *testing.T) {
	is(t, "PutHex", all(impl.PutHex("\x0a\xbc"), impl.PutHex(""), impl.PutHex("\x00\xff"), impl.PutHex("é")), "0abc", "", "00ff", "c3a9")
	s, ok := impl.GetHex("00ff")
	is(t, "GetHex", all(s, ok), "\x00\xff", true)
	s, ok = impl.GetHex("")
	is(t, "GetHex of an empty string", all(s, ok), "", true)
	every := make([]byte, 256)
	for b := range every {
		every[b] = byte(b)
		hex := impl.PutHex(string(every[b : b+1]))
		want := strconv.FormatInt(int64(256+b), 16)[1:]
		is(t, "PutHex of a byte", all(hex), want)
	}
	s, ok = impl.GetHex(impl.PutHex(string(every)))
	is(t, "GetHex of every byte", all(s, ok), string(every), true)
	for _, hex := range []string{"0", "000", "FF", "fF", "Ff", "0g", "g0", "/0", ":0", "`0", "0x00", " 0", "00 ", "é", "\xff0", "0\xff", "00é", "é00", "\u0660\u0661", "\ufffd0", "0\x00"} {
		s, ok := impl.GetHex(hex)
		zero(t, "GetHex of "+hex, s, ok)
	}
	for b := range every {
		digit := strings.IndexByte("0123456789abcdef", byte(b)) >= 0
		_, high := impl.GetHex(string(every[b:b+1]) + "0")
		_, low := impl.GetHex("0" + string(every[b:b+1]))
		is(t, "GetHex with the byte "+strconv.Itoa(b), all(high, low), digit, digit)
	}
}

func TestP1Bytes(t *testing.T) {
	texts := []string{"", "\x00", "abc", "00ff", "é", "\xff", strings.Repeat("\x80", 20), strings.Repeat("\xff", 7) + "\x00", strings.Repeat("a", 100000)}
	for _, s := range texts {
		twice(t, "GetLeb", func() string { return shown(impl.GetLeb(s)) })
		twice(t, "GetSleb", func() string { return shown(impl.GetSleb(s)) })
		twice(t, "GetFix", func() string { return shown(impl.GetFix(s)) })
		twice(t, "PutBytes", func() string { return shown(impl.PutBytes(s)) })
		twice(t, "GetBytes", func() string { return shown(impl.GetBytes(s)) })
		twice(t, "PutHex", func() string { return shown(impl.PutHex(s)) })
		twice(t, "GetHex", func() string { return shown(impl.GetHex(s)) })
	}
	for _, n := range edges() {
		twice(t, "CodeWord", func() string { return shown(impl.CodeWord(n)) })
		twice(t, "PutLeb", func() string { return shown(impl.PutLeb(n)) })
		twice(t, "PutSleb", func() string { return shown(impl.PutSleb(n)) })
		twice(t, "PutFix", func() string { return shown(impl.PutFix(n, n), impl.PutFix(1, n), impl.PutFix(n, 8)) })
	}
}
