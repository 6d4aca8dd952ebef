package impl

import (
	"math"
	"strings"
)

// Constants of chapter 1.
const (
	OK         = 0
	ErrForm    = 1
	ErrRange   = 2
	ErrNone    = 3
	ErrMany    = 4
	ErrState   = 5
	ErrParse   = 6
	ErrType    = 7
	ErrTrap    = 8
	ErrFuel    = 9
	ErrMemory  = 10
	ErrHandle  = 11
	ErrLent    = 12
	ErrCycle   = 13
	ErrVersion = 14
	ErrRight   = 15
	ErrEnter   = 16
	ErrCancel  = 17
	ErrRead    = 18
	ErrText    = 19
)

const (
	// lebMax is the length of the longest encoding: 64 bits in groups of seven.
	lebMax = 10
	// fixMax is the length of the widest fixed-width integer.
	fixMax    = 8
	hexDigits = "0123456789abcdef"
)

// codeWords holds the name of each error code at its number.
var codeWords = [...]string{
	"ok", "form", "range", "none", "many",
	"state", "parse", "type", "trap", "fuel",
	"memory", "handle", "lent", "cycle", "version",
	"right", "enter", "cancel", "read", "text",
}

// lebForm is a LEB128 encoding, with zeros after its last byte. The last byte is the first one
// without bit 7, so two encodings are equal exactly if their forms are.
type lebForm [lebMax]byte

// fixForm is a little-endian integer of eight bytes.
type fixForm [fixMax]byte

// integer is what LEB128 encodes: shifted to the right, an int64 repeats its sign and a uint64
// is filled with zeros.
type integer interface {
	int64 | uint64
}

// CodeWord returns the name of an error code.
func CodeWord(code int64) string {
	if code < 0 || code >= int64(len(codeWords)) {
		return ""
	}
	return codeWords[code]
}

// PutLeb returns the shortest unsigned LEB128 encoding of n, which has at least one byte.
func PutLeb(n int64) string {
	if n < 0 {
		return ""
	}
	form, many := lebOf(uint64(n), endsUnsigned)
	return string(form[:many])
}

// GetLeb decodes an unsigned LEB128 integer from the start of s and returns it, the number of
// bytes consumed, and true.
func GetLeb(s string) (int64, int64, bool) {
	form, many := lebAt(s)
	n := groupsIn(form, many)
	if many == 0 || n > math.MaxInt64 || !isShortest(form, n, endsUnsigned) {
		return 0, 0, false
	}
	return int64(n), int64(many), true
}

// PutSleb returns the shortest signed LEB128 encoding of n: as many seven-bit groups of the two's
// complement of n as are needed for the sign extension of the last group (its bit 6) to yield the
// remaining bits of n.
func PutSleb(n int64) string {
	form, many := lebOf(n, endsSigned)
	return string(form[:many])
}

// GetSleb decodes a signed LEB128 integer from the start of s and returns it, the number of bytes
// consumed, and true.
func GetSleb(s string) (int64, int64, bool) {
	form, many := lebAt(s)
	if many == 0 {
		return 0, 0, false
	}
	bits := groupsIn(form, many)
	if form[many-1]&0x40 != 0 {
		bits |= ^uint64(0) << (7 * many)
	}
	n := int64(bits)
	if !isShortest(form, n, endsSigned) {
		return 0, 0, false
	}
	return n, int64(many), true
}

// lebOf returns the encoding of n and its length; ends tells whether what is left of n fits into
// one last group.
func lebOf[N integer](n N, ends func(rest N) bool) (lebForm, int) {
	var form lebForm
	many := 0
	for !ends(n) {
		form[many] = byte(n) | 0x80
		n >>= 7
		many++
	}
	form[many] = byte(n) & 0x7f
	return form, many + 1
}

func endsUnsigned(rest uint64) bool {
	return rest < 0x80
}

func endsSigned(rest int64) bool {
	return -0x40 <= rest && rest < 0x40
}

// isShortest reports whether form is the encoding that n has. Encodings with superfluous groups
// and those with bits above 63, which groupsIn loses, are not.
func isShortest[N integer](form lebForm, n N, ends func(rest N) bool) bool {
	shortest, _ := lebOf(n, ends)
	return form == shortest
}

// lebAt returns the encoding at the start of s and its length, which is 0 if no encoding ends
// within the first lebMax bytes.
func lebAt(s string) (lebForm, int) {
	var form lebForm
	for i := range min(len(s), lebMax) {
		form[i] = s[i]
		if s[i] < 0x80 {
			return form, i + 1
		}
	}
	return lebForm{}, 0
}

// groupsIn returns the low 64 bits of the integer in the first many groups of form.
func groupsIn(form lebForm, many int) uint64 {
	var n uint64
	for i := range many {
		n |= uint64(form[i]&0x7f) << (7 * i)
	}
	return n
}

// PutFix returns the least significant many bytes of the two's complement of n in little-endian
// order.
func PutFix(n int64, many int64) string {
	if many < 0 || many > fixMax {
		return ""
	}
	var form fixForm
	for i := range form {
		form[i] = byte(n >> (8 * i))
	}
	return string(form[:many])
}

// GetFix returns the little-endian integer in s.
func GetFix(s string) int64 {
	if len(s) > fixMax {
		return 0
	}
	var form fixForm
	copy(form[:], s)
	var n int64
	for i, b := range form {
		n |= int64(b) << (8 * i)
	}
	return n
}

// PutBytes returns PutLeb of the length of s, followed by s.
func PutBytes(s string) string {
	return PutLeb(int64(len(s))) + s
}

// GetBytes decodes a length-prefixed string, as returned by PutBytes, from the start of s and
// returns it, the number of bytes consumed, and true.
func GetBytes(s string) (string, int64, bool) {
	size, start, ok := GetLeb(s)
	// The subtraction cannot overflow, while start+size could.
	if !ok || size > int64(len(s))-start {
		return "", 0, false
	}
	end := start + size
	return s[start:end], end, true
}

// PutHex returns s in hexadecimal: two digits (0 to 9, a to f) for each byte, high nibble first.
func PutHex(s string) string {
	digits := make([]byte, 0, 2*len(s))
	for i := range len(s) {
		digits = append(digits, hexDigits[s[i]>>4], hexDigits[s[i]&0x0f])
	}
	return string(digits)
}

// GetHex returns the string whose PutHex is s, and true.
func GetHex(s string) (string, bool) {
	if len(s)%2 != 0 {
		return "", false
	}
	decoded := make([]byte, len(s)/2)
	// Only single-byte runes are digits, so i counts the digits until a rune is rejected.
	for i, digit := range s {
		nibble := strings.IndexRune(hexDigits, digit)
		if nibble < 0 {
			return "", false
		}
		decoded[i/2] = decoded[i/2]<<4 | byte(nibble)
	}
	return string(decoded), true
}
