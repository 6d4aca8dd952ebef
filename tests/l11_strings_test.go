package tests

import (
	"encoding/binary"
	"encoding/hex"
	"math"
	"math/rand"
	"slices"
	"strconv"
	"strings"
	"testing"
	"unicode/utf16"
	"unicode/utf8"

	"loop.example/g00901/impl"
)

// unitSizes are the sizes of the code units of the three encodings.
var unitSizes = map[int64]int64{1: 1, 2: 2, 3: 1}

// encodings are the three encodings.
var encodings = []int64{impl.EnUtf8, impl.EnUtf16, impl.EnLatin}

// pointTable has code points with their bytes in EnUtf8 and in EnUtf16, and in EnLatin if they have them.
var pointTable = []struct {
	point              int64
	utf8, utf16, latin string
}{
	{0, "00", "0000", "00"}, {1, "01", "0100", "01"}, {97, "61", "6100", "61"}, {127, "7f", "7f00", "7f"}, {128, "c280", "8000", "80"}, {233, "c3a9", "e900", "e9"}, {254, "c3be", "fe00", "fe"}, {255, "c3bf", "ff00", "ff"},
	{256, "c480", "0001", ""}, {257, "c481", "0101", ""}, {2047, "dfbf", "ff07", ""}, {2048, "e0a080", "0008", ""}, {8364, "e282ac", "ac20", ""}, {55294, "ed9fbe", "fed7", ""}, {55295, "ed9fbf", "ffd7", ""},
	{57344, "ee8080", "00e0", ""}, {57345, "ee8081", "01e0", ""}, {65279, "efbbbf", "fffe", ""}, {65533, "efbfbd", "fdff", ""}, {65534, "efbfbe", "feff", ""}, {65535, "efbfbf", "ffff", ""},
	{65536, "f0908080", "00d800dc", ""}, {65537, "f0908081", "00d801dc", ""}, {66559, "f0908fbf", "00d8ffdf", ""}, {66560, "f0909080", "01d800dc", ""}, {128512, "f09f9880", "3dd800de", ""},
	{131071, "f09fbfbf", "3fd8ffdf", ""}, {131072, "f0a08080", "40d800dc", ""}, {1048575, "f3bfbfbf", "bfdbffdf", ""}, {1048576, "f4808080", "c0db00dc", ""}, {1114110, "f48fbfbe", "ffdbfedf", ""}, {1114111, "f48fbfbf", "ffdbffdf", ""},
}

// noPointTable has numbers that are no code points, with what their bytes would be.
var noPointTable = []struct {
	point       int64
	utf8, utf16 string
}{
	{55296, "eda080", "00d8"}, {55297, "eda081", "01d8"}, {56319, "edafbf", "ffdb"}, {56320, "edb080", "00dc"}, {57342, "edbfbe", "fedf"}, {57343, "edbfbf", "ffdf"}, {1114112, "f4908080", "00dc00dc"},
}

// noUtf8 are bytes that are no UTF-8, beside the surrogates.
var noUtf8 = strings.Fields("80 bf c080 c0af c1bf e08080 e09fbf f0808080 f08fbfbf f4908080 f5808080 f888808080 fc8480808080 fe ff c2 e2 e282 f0 f090 f09080 f48fbf 61e282 e28261 e261ac c2c280 6180 e282acac 8061 c3a9a9 eda0bdedb880 c1 ed80 ff61 61ff")

// noUtf16 are bytes of EnUtf16 that are not those of a text.
var noUtf16 = strings.Fields("61 00 d8 3dd8 00de 3dd83dd8 00de3dd8 00de00de 3dd800 3dd800de00 3dd8de 61003dd8 3dd86100 610000de 00de6100 3dd83dd800de 3dd800de00de 3dd800de3dd8 00d8 00dc ffdb ffdf 00d8ffdb 00d800d8 ffdbffdb 00dc00d8 ffdfffdb 00d800e0 00d8ffd7 ffd700dc 00e000dc ffdb00e0 610062 ffffff")

// unhex returns the bytes that the test needs.
func unhex(t *testing.T, s string) string {
	t.Helper()
	bytes, err := hex.DecodeString(s)
	if err != nil {
		t.Fatal(err)
	}
	return string(bytes)
}

// pointModel returns the bytes of a code point in an encoding, and whether it has any.
func pointModel(enc, n int64) (string, bool) {
	switch enc {
	case impl.EnUtf16:
		var bytes []byte
		for _, unit := range utf16.Encode([]rune{rune(n)}) {
			bytes = binary.LittleEndian.AppendUint16(bytes, unit)
		}
		return string(bytes), true
	case impl.EnLatin:
		return string([]byte{byte(n)}), n <= 255
	}
	switch b := func(shift, head int64) byte { return byte(head + n>>shift&0x3f) }; {
	case n < 0x80:
		return string([]byte{byte(n)}), true
	case n < 0x800:
		return string([]byte{b(6, 0xc0), b(0, 0x80)}), true
	case n < 0x10000:
		return string([]byte{b(12, 0xe0), b(6, 0x80), b(0, 0x80)}), true
	default:
		return string([]byte{b(18, 0xf0), b(12, 0x80), b(6, 0x80), b(0, 0x80)}), true
	}
}

// encodeModel returns the bytes of code points in an encoding, and whether it can represent all of them.
func encodeModel(enc int64, points []int64) (string, bool) {
	text, all := "", true
	for _, n := range points {
		bytes, ok := pointModel(enc, n)
		text += bytes
		all = all && ok
	}
	return text, all
}

// firstPoint returns the code point with which bytes start, and the number of its bytes, which is 0 if there is none.
func firstPoint(enc int64, bytes string) (rune, int) {
	switch {
	case enc == impl.EnLatin:
		return rune(bytes[0]), 1
	case enc == impl.EnUtf8:
		c, size := utf8.DecodeRuneInString(bytes)
		if c == utf8.RuneError && size == 1 {
			return 0, 0
		}
		return c, size
	case len(bytes) < 2:
		return 0, 0
	}
	unit := rune(binary.LittleEndian.Uint16([]byte(bytes)))
	if !utf16.IsSurrogate(unit) {
		return unit, 2
	}
	if len(bytes) < 4 {
		return 0, 0
	}
	c := utf16.DecodeRune(unit, rune(binary.LittleEndian.Uint16([]byte(bytes[2:]))))
	if c == 0xfffd {
		return 0, 0
	}
	return c, 4
}

// decodeModel returns the text that the bytes stand for, and whether there is one.
func decodeModel(enc int64, bytes string) (string, bool) {
	text := ""
	for bytes != "" {
		c, size := firstPoint(enc, bytes)
		if size == 0 {
			return "", false
		}
		text += string(c)
		bytes = bytes[size:]
	}
	if len(text) > 24 {
		return "", false
	}
	return text, true
}

// noEncodings are numbers that are no encodings.
func noEncodings() []int64 {
	list := []int64{0, 4, 5, -1, -2, -3, 1<<32 + 1, 1<<32 + 2, 1<<32 + 3, 256 + 1, 65536 + 2, math.MaxInt64, math.MinInt64, math.MinInt64 + 1, math.MinInt64 + 3}
	for _, n := range edges() {
		if n < 1 || n > 3 {
			list = append(list, n)
		}
	}
	return list
}

// checkText compares what the program says of the code points of a valid text with the model, in all encodings.
func checkText(t *testing.T, points []int64) {
	t.Helper()
	what := shown(points)
	s, _ := encodeModel(impl.EnUtf8, points)
	text, isText := impl.TextOf(points)
	list, isList := impl.PointsOf(s)
	is(t, what, all(text, isText, isList, alike(list, points)), s, true, true, true)
	for _, enc := range encodings {
		want, ok := encodeModel(enc, points)
		bytes, code := impl.Encode(enc, s)
		units, unitsCode := impl.UnitsOf(enc, s)
		if !ok {
			is(t, what, all(bytes, code, units, unitsCode), "", impl.ErrText, 0, impl.ErrText)
			continue
		}
		is(t, what, all(bytes, code, units, unitsCode), want, impl.OK, int64(len(want))/unitSizes[enc], impl.OK)
		back, code := impl.Decode(enc, bytes)
		is(t, what+" decoded", all(back, code), s, impl.OK)
		for _, to := range encodings {
			other, ok := encodeModel(to, points)
			got, code := impl.Transcode(enc, to, bytes)
			if !ok {
				is(t, what+" transcoded", all(got, code), "", impl.ErrText)
				continue
			}
			is(t, what+" transcoded", all(got, code), other, impl.OK)
			got, code = impl.Transcode(to, enc, got)
			is(t, what+" transcoded and back", all(got, code), bytes, impl.OK)
		}
	}
}

// checkNoText checks that everything says that s is not valid, whatever else is wrong.
func checkNoText(t *testing.T, s string) {
	t.Helper()
	what := "bytes " + hex.EncodeToString([]byte(s[:min(len(s), 40)]))
	points, ok := impl.PointsOf(s)
	is(t, what, all(points == nil, ok), true, false)
	for _, enc := range append(noEncodings()[:8], encodings...) {
		bytes, code := impl.Encode(enc, s)
		units, unitsCode := impl.UnitsOf(enc, s)
		is(t, what, all(bytes, code, units, unitsCode), "", impl.ErrForm, 0, impl.ErrForm)
	}
}

// checkBytes compares what the program says of any bytes with the model, and reports whether they are those of a text.
func checkBytes(t *testing.T, enc int64, bytes string) bool {
	t.Helper()
	want, ok := decodeModel(enc, bytes)
	got, code := impl.Decode(enc, bytes)
	if ok {
		again, againCode := impl.Encode(enc, want)
		if got != want || code != impl.OK || again != bytes || againCode != impl.OK {
			t.Errorf("encoding %d, bytes %x: Decode returns %q, %d, want %q; Encode %x, %d", enc, bytes, got, code, want, again, againCode)
		}
		return true
	}
	if got != "" || code != impl.ErrText {
		t.Errorf("encoding %d, bytes %x: Decode returns %q, %d, want no text", enc, bytes, got, code)
	}
	return false
}

// checkNoBytes checks that the bytes are those of no text in an encoding.
func checkNoBytes(t *testing.T, enc int64, bytes string) {
	t.Helper()
	what := "encoding " + strconv.FormatInt(enc, 10) + ", bytes " + hex.EncodeToString([]byte(bytes[:min(len(bytes), 40)]))
	text, code := impl.Decode(enc, bytes)
	is(t, what, all(text, code), "", impl.ErrText)
	for _, to := range encodings {
		other, code := impl.Transcode(enc, to, bytes)
		is(t, what+" transcoded", all(other, code), "", impl.ErrText)
	}
}

func TestP13Encodings(t *testing.T) {
	is(t, "constants", all(int64(impl.EnUtf8), int64(impl.EnUtf16), int64(impl.EnLatin)), 1, 2, 3)
	for _, enc := range encodings {
		is(t, strconv.FormatInt(enc, 10), all(impl.EncodingOk(enc), impl.UnitSize(enc)), true, unitSizes[enc])
	}
	for _, enc := range noEncodings() {
		is(t, strconv.FormatInt(enc, 10), all(impl.EncodingOk(enc), impl.UnitSize(enc)), false, 0)
	}
}

func TestP13PointTable(t *testing.T) {
	for _, c := range pointTable {
		what := strconv.FormatInt(c.point, 10)
		s := unhex(t, c.utf8)
		text, isText := impl.TextOf([]int64{c.point})
		points, isPoints := impl.PointsOf(s)
		is(t, what, all(text, isText, alike(points, []int64{c.point}), isPoints), s, true, true, true)
		for _, enc := range encodings {
			want := unhex(t, []string{c.utf8, c.utf16, c.latin}[enc-1])
			bytes, code := impl.Encode(enc, s)
			units, unitsCode := impl.UnitsOf(enc, s)
			if want == "" {
				is(t, what, all(bytes, code, units, unitsCode), "", impl.ErrText, 0, impl.ErrText)
				continue
			}
			is(t, what, all(bytes, code, units, unitsCode), want, impl.OK, int64(len(want))/unitSizes[enc], impl.OK)
			back, code := impl.Decode(enc, want)
			is(t, what, all(back, code), s, impl.OK)
		}
		checkText(t, []int64{c.point})
		checkText(t, []int64{97, c.point, 98})
		checkText(t, []int64{c.point, c.point})
	}
	for _, a := range pointTable {
		for _, b := range pointTable {
			checkText(t, []int64{a.point, b.point})
			checkText(t, []int64{b.point, a.point, 65536, b.point})
		}
	}
}

// TestP13NoPoints has numbers that are no code points, beside other numbers and alone.
func TestP13NoPoints(t *testing.T) {
	numbers := []int64{-1, -97, 1114113, 1 << 31, 1<<31 - 1, 1 << 32, 1<<32 + 97, 1<<32 + 8364, -1<<32 + 97, math.MaxInt64, math.MaxInt64 - 1, math.MinInt64, math.MinInt64 + 97}
	for n := int64(55296); n <= 57343; n++ {
		numbers = append(numbers, n)
	}
	for _, c := range noPointTable {
		numbers = append(numbers, c.point)
		checkNoText(t, unhex(t, c.utf8))
		checkNoText(t, "a"+unhex(t, c.utf8)+"b")
		checkNoBytes(t, impl.EnUtf8, unhex(t, c.utf8))
		checkNoBytes(t, impl.EnUtf16, unhex(t, c.utf16))
		checkNoBytes(t, impl.EnUtf16, "a\x00"+unhex(t, c.utf16)+"b\x00")
	}
	for _, n := range numbers {
		for _, points := range [][]int64{{n}, {97, n}, {n, 97}, {n, n}, {97, n, 8364}, {65536, 97, n}, append(slices.Repeat([]int64{97}, 23), n), append(slices.Repeat([]int64{97}, 25), n)} {
			s, ok := impl.TextOf(points)
			is(t, shown(points), all(s, ok), "", false)
		}
	}
	for _, n := range edges() {
		s, ok := impl.TextOf([]int64{n})
		if n < 0 || n > 1114111 || n >= 55296 && n <= 57343 {
			is(t, strconv.FormatInt(n, 10), all(s, ok), "", false)
		} else {
			is(t, strconv.FormatInt(n, 10), all(s, ok), string(rune(n)), true)
		}
	}
}

func TestP13Examples(t *testing.T) {
	for _, c := range []struct {
		enc         int64
		text, bytes string
		units       int64
	}{
		{1, "", "", 0}, {2, "", "", 0}, {3, "", "", 0}, {1, "a", "61", 1}, {2, "a", "6100", 1}, {3, "a", "61", 1}, {2, "a\U0001f600", "61003dd800de", 3}, {1, "a\U0001f600", "61f09f9880", 5}, {2, "\U0001f600a", "3dd800de6100", 3},
		{1, "\u00e9", "c3a9", 2}, {2, "\u00e9", "e900", 1}, {3, "\u00e9", "e9", 1}, {3, "a\u00ff\x00", "61ff00", 3}, {2, "hi", "68006900", 2}, {2, "\U0001f600\U0001f600", "3dd800de3dd800de", 4}, {2, "\u20ac\x00", "ac200000", 2}, {1, "\ufffd", "efbfbd", 3}, {2, "\ufffd", "fdff", 1}, {2, "\ufeffa", "fffe6100", 2}, {1, "\ufeffa", "efbbbf61", 4},
	} {
		bytes, code := impl.Encode(c.enc, c.text)
		text, textCode := impl.Decode(c.enc, unhex(t, c.bytes))
		units, unitsCode := impl.UnitsOf(c.enc, c.text)
		is(t, c.text, all(impl.PutHex(bytes), code, text, textCode, units, unitsCode), c.bytes, impl.OK, c.text, impl.OK, c.units, impl.OK)
		checkBytes(t, c.enc, unhex(t, c.bytes))
	}
	for _, s := range []string{"", "a", "é", "€", "a€", "€a", "\U0001f600", "a\x00b", "\ufffd"} {
		var points []int64
		for _, c := range []rune(s) {
			points = append(points, int64(c))
		}
		checkText(t, points)
	}
	text, ok := impl.TextOf([]int64{97, 8364})
	none, noneOk := impl.TextOf(nil)
	empty, emptyOk := impl.TextOf([]int64{})
	points, pointsOk := impl.PointsOf("")
	is(t, "code points", all(text, ok, none, noneOk, empty, emptyOk, int64(len(points)), pointsOk), "a\xe2\x82\xac", true, "", true, "", true, 0, true)
}

// TestP13NotLatin has code points that EnLatin cannot represent, alone and together with other errors.
func TestP13NotLatin(t *testing.T) {
	for _, s := range []string{"\u0100", "\u20ac", "\ud7ff", "\ue000", "\ufffd", "\U00010000", "\U0010ffff", "\U00010041", "a\u0100", "\u0100a", "\u00ff\u0100\u00ff", "\u0161", strings.Repeat("a", 22) + "\u0100", strings.Repeat("€", 8), strings.Repeat("\U0001f600", 6)} {
		bytes, code := impl.Encode(impl.EnLatin, s)
		units, unitsCode := impl.UnitsOf(impl.EnLatin, s)
		is(t, s, all(bytes, code, units, unitsCode), "", impl.ErrText, 0, impl.ErrText)
		wide, _ := impl.Encode(impl.EnUtf16, s)
		for _, from := range []int64{impl.EnUtf8, impl.EnUtf16} {
			bytes, code = impl.Transcode(from, impl.EnLatin, []string{"", s, wide}[from])
			is(t, s, all(bytes, code), "", impl.ErrText)
		}
		checkNoText(t, s+"\xff")
		checkNoText(t, "\xff"+s)
		checkNoText(t, s+strings.Repeat("a", 24))
		checkNoText(t, strings.Repeat("€", 8)+s)
		for _, enc := range noEncodings() {
			bytes, code := impl.Encode(enc, s)
			units, unitsCode := impl.UnitsOf(enc, s)
			is(t, s, all(bytes, code, units, unitsCode), "", impl.ErrForm, 0, impl.ErrForm)
		}
	}
}

// TestP13NoEncodings checks which error comes first where an encoding is none.
func TestP13NoEncodings(t *testing.T) {
	for _, enc := range noEncodings() {
		what := "encoding " + strconv.FormatInt(enc, 10)
		for _, s := range []string{"", "a", "é", "€", "\xff", "\xe2\x82", "\xed\xa0\x80", "\x3d\xd8", "\x3d\xd8\x00\xde", strings.Repeat("a", 24), strings.Repeat("a", 25), strings.Repeat("€", 9), strings.Repeat("a", 49)} {
			bytes, code := impl.Encode(enc, s)
			units, unitsCode := impl.UnitsOf(enc, s)
			text, textCode := impl.Decode(enc, s)
			is(t, what, all(bytes, code, units, unitsCode, text, textCode), "", impl.ErrForm, 0, impl.ErrForm, "", impl.ErrForm)
			for _, other := range append(noEncodings()[:3], encodings...) {
				from, fromCode := impl.Transcode(enc, other, s)
				to, toCode := impl.Transcode(other, enc, s)
				is(t, what+" transcoded", all(from, fromCode, to, toCode), "", impl.ErrForm, "", impl.ErrForm)
			}
		}
	}
}

func TestP13NoBytes(t *testing.T) {
	for _, s := range noUtf8 {
		s = unhex(t, s)
		checkNoText(t, s)
		for _, s := range []string{s, "a" + s, s + "a", "é" + s + "€", strings.Repeat("a", 20) + s} {
			checkNoText(t, s)
			checkNoBytes(t, impl.EnUtf8, s)
		}
	}
	for _, s := range noUtf16 {
		s = unhex(t, s)
		checkNoBytes(t, impl.EnUtf16, s)
		checkNoBytes(t, impl.EnUtf16, "a\x00"+s)
		checkNoBytes(t, impl.EnUtf16, strings.Repeat("a\x00", 20)+s)
		checkNoBytes(t, impl.EnUtf16, strings.Repeat("a\x00", 24)+s)
	}
	for many := range 60 {
		if many%2 == 1 {
			checkNoBytes(t, impl.EnUtf16, strings.Repeat("a", many))
			checkNoBytes(t, impl.EnUtf16, strings.Repeat("\x00", many))
		}
	}
}

// TestP13Limits has texts of MaxText bytes and of one more: as they are given, and as they come out.
func TestP13Limits(t *testing.T) {
	for _, s := range []string{
		strings.Repeat("a", 24), strings.Repeat("\x00", 24), strings.Repeat("é", 12), strings.Repeat("€", 8), strings.Repeat("\U0001f600", 6), strings.Repeat("€", 7) + "aaa", strings.Repeat("é", 11) + "aa", strings.Repeat("\U0001f600", 5) + "€a", "a" + strings.Repeat("é", 11) + "b", strings.Repeat("\u00ff", 12), strings.Repeat("\u0100", 12),
	} {
		var points []int64
		for _, c := range []rune(s) {
			points = append(points, int64(c))
		}
		is(t, s, all(int64(len(s))), impl.MaxText)
		checkText(t, points)
		checkText(t, points[1:])
		for _, more := range []string{"a", "é", "€", "\U0001f600", "\x00"} {
			for _, long := range []string{s + more, more + s} {
				points := []int64{}
				for _, c := range []rune(long) {
					points = append(points, int64(c))
				}
				text, ok := impl.TextOf(points)
				is(t, "more than "+s, all(text, ok), "", false)
				checkNoText(t, long)
				for _, enc := range encodings {
					bytes, _ := encodeModel(enc, points)
					if enc == impl.EnLatin && !checkLatin(long) {
						continue
					}
					checkNoBytes(t, enc, bytes)
				}
			}
		}
	}
	for _, enc := range encodings {
		for _, s := range []string{strings.Repeat("a", 49), strings.Repeat("a", 50), strings.Repeat("\x00", 100), strings.Repeat("\xe9", 50), strings.Repeat("a", 100000), strings.Repeat("a\x00", 25), strings.Repeat("\xe9\x00", 13)} {
			checkNoBytes(t, enc, s)
		}
	}
	text, ok := impl.TextOf(slices.Repeat([]int64{0}, 100000))
	is(t, "very many code points", all(text, ok), "", false)
}

// checkLatin reports whether all code points of s are below 256.
func checkLatin(s string) bool {
	return !strings.ContainsFunc(s, func(c rune) bool { return c > 255 })
}

// TestP13EveryPoint has all code points below 70000, and of the others those beside the multiples of 1024 and some more.
func TestP13EveryPoint(t *testing.T) {
	many := 0
	for n := int64(0); n < 1114112; n++ {
		near := n%1024 < 2 || n%1024 == 1023
		if n >= 70000 && !near && n%97 > 0 || n >= 55296 && n <= 57343 {
			continue
		}
		many++
		checkText(t, []int64{n})
	}
	is(t, "enough", all(many > 80000), true)
}

// TestP13EveryBytes has all strings of up to two bytes, and longer ones of bytes and units at which something changes.
func TestP13EveryBytes(t *testing.T) {
	good := map[int64]int{}
	check := func(enc int64, bytes string) {
		if checkBytes(t, enc, bytes) {
			good[enc]++
		}
	}
	for _, enc := range encodings {
		check(enc, "")
		for a := range 256 {
			check(enc, string([]byte{byte(a)}))
			for b := range 256 {
				check(enc, string([]byte{byte(a), byte(b)}))
				check(enc, string([]byte{'a', byte(a), byte(b)}))
			}
		}
	}
	heads := unhex(t, "00617f808f909fa0bfc0c1c2dfe0e1ecedeeeff0f1f3f4f5ff")
	for _, a := range []byte(heads) {
		for _, b := range []byte(heads) {
			for _, c := range []byte(heads) {
				check(impl.EnUtf8, string([]byte{a, b, c}))
				for _, d := range []byte(heads) {
					check(impl.EnUtf8, string([]byte{a, b, c, d}))
				}
			}
		}
	}
	units := []uint16{0, 0x61, 0x7f, 0x80, 0xff, 0x100, 0x7ff, 0x800, 0xd7ff, 0xd800, 0xd801, 0xd83d, 0xdbff, 0xdc00, 0xdc01, 0xde00, 0xdfff, 0xe000, 0xfffd, 0xfffe, 0xffff}
	for _, a := range units {
		for _, b := range units {
			for _, c := range units {
				bytes := binary.LittleEndian.AppendUint16(binary.LittleEndian.AppendUint16(binary.LittleEndian.AppendUint16(nil, a), b), c)
				for n := 3; n <= 6; n++ {
					check(impl.EnUtf16, string(bytes[:n]))
				}
				check(impl.EnUtf16, string(bytes)+"\x3d\xd8\x00\xde")
			}
		}
	}
	is(t, "enough bytes of a text", all(good[1] > 5000, good[2] > 10000, good[3] > 60000), true, true, true)
}

// TestP13Pairs has every high surrogate and every low one, with others beside them.
func TestP13Pairs(t *testing.T) {
	for unit := uint16(0xd7f0); unit < 0xe010; unit++ {
		for _, other := range []uint16{0x61, 0xd7ff, 0xd800, 0xdbff, 0xdc00, 0xdfff, 0xe000, unit} {
			checkBytes(t, impl.EnUtf16, string(binary.LittleEndian.AppendUint16(binary.LittleEndian.AppendUint16(nil, unit), other)))
			checkBytes(t, impl.EnUtf16, string(binary.LittleEndian.AppendUint16(binary.LittleEndian.AppendUint16(nil, other), unit)))
		}
		checkBytes(t, impl.EnUtf16, string(binary.LittleEndian.AppendUint16(nil, unit)))
	}
}

// TestP13SomeTexts has texts that are made up, and their bytes with something changed.
func TestP13SomeTexts(t *testing.T) {
	r := rand.New(rand.NewSource(111))
	good, bad := 0, 0
	for range 4000 {
		v, _ := someValue(r, impl.Type{Kind: impl.TyText})
		var points []int64
		for _, c := range []rune(v.Text) {
			if r.Intn(3) == 0 {
				c %= 256
			}
			points = append(points, int64(c))
		}
		checkText(t, points)
		for _, enc := range encodings {
			text, _ := encodeModel(enc, points)
			bytes := []byte(text)
			for range r.Intn(3) {
				if len(bytes) > 0 {
					bytes[r.Intn(len(bytes))] = []byte{0, 97, 0x80, 0xd8, 0xdc, 0xdf, 0xe0, 0xff, byte(r.Intn(256))}[r.Intn(9)]
				}
			}
			bytes = bytes[:len(bytes)-min(len(bytes), r.Intn(3))]
			if checkBytes(t, enc, string(bytes)) {
				good++
			} else {
				bad++
			}
		}
	}
	is(t, "enough of both", all(good > 1000, bad > 1000), true, true)
}

// stringCall are the arguments of the functions on encodings.
type stringCall struct {
	From, To int64
	Text     string
	Points   []int64
}

func TestP1Strings(t *testing.T) {
	call := func(c stringCall) []any {
		points, isPoints := impl.PointsOf(c.Text)
		again, isAgain := impl.PointsOf(c.Text)
		text, isText := impl.TextOf(c.Points)
		bytes, code := impl.Encode(c.From, c.Text)
		plain, plainCode := impl.Decode(c.From, c.Text)
		units, unitsCode := impl.UnitsOf(c.From, c.Text)
		other, otherCode := impl.Transcode(c.From, c.To, c.Text)
		return all(points, isPoints, again, isAgain, text, isText, bytes, code, plain, plainCode, units, unitsCode, other, otherCode, impl.EncodingOk(c.From), impl.UnitSize(c.From))
	}
	texts := []string{"", "a", "é", "a€b", "\U0001f600", "\xff", "\xe2\x82", "\xed\xa0\x80", "a\x00", "\x3d\xd8", "\x3d\xd8\x00\xde", "\x00\xde\x3d\xd8", strings.Repeat("a", 24), strings.Repeat("a", 25), strings.Repeat("€", 8), strings.Repeat("a\x00", 24)}
	lists := [][]int64{nil, {}, {97}, {97, 8364}, {65536, 0}, {55296}, {-1}, {1114112}, {math.MaxInt64, math.MinInt64}, slices.Repeat([]int64{97}, 24), slices.Repeat([]int64{97}, 25), slices.Repeat([]int64{8364}, 9)}
	for _, from := range append(noEncodings(), encodings...) {
		for _, to := range append(encodings, 0, 4, math.MaxInt64, math.MinInt64) {
			for i, text := range texts {
				pure(t, shown(from, to, text), stringCall{from, to, text, lists[i%len(lists)]}, call)
			}
		}
	}
	for _, enc := range append(encodings, 4) {
		for _, s := range []string{"a", "\xff", "\x3d\xd8", "é", "\x00"} {
			c := stringCall{enc, 2, strings.Repeat(s, 1000000), slices.Repeat([]int64{97}, 1000000)}
			twice(t, "a long text", func() string { return shown(call(c)...) })
		}
	}
}
