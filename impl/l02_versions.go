package impl

import (
	"cmp"
	"slices"
	"strconv"
	"strings"
)

// Constants of chapter 2.
const (
	MaxPart = 999
)

const (
	minorStep = 1000
	majorStep = 1000000
	// versionEnd is above the numbers of all versions.
	versionEnd = 1000000000
	// operators are those of the table of ranges, in its order.
	operators = "=~^>"
)

// Range is described in chapter 2.
type Range struct {
	Low   int64
	Below int64
}

// version holds the parts of a version.
type version struct {
	major, minor, patch int64
}

// order is a direction in which versions are sorted.
type order int

const (
	upward   order = 1
	downward order = -1
)

// VersionOk reports whether s is a version.
func VersionOk(s string) bool {
	_, ok := readVersion(s)
	return ok
}

// VersionNumber returns the number of the version s, and true.
func VersionNumber(s string) (int64, bool) {
	v, ok := readVersion(s)
	return v.number(), ok
}

// VersionOf returns the version whose number is n, or the empty string if n is not in
// 0..999999999.
func VersionOf(n int64) string {
	if n < 0 || n >= versionEnd {
		return ""
	}
	return versionAt(n).text()
}

// CompareVersions returns -1, 0 or 1 if the number of a is less than, equal to or greater than
// the number of b, and OK.
func CompareVersions(a string, b string) (int64, int64) {
	v, vOk := readVersion(a)
	w, wOk := readVersion(b)
	if !vOk || !wOk {
		return 0, ErrVersion
	}
	return int64(upward.compare(v, w)), OK
}

// Serves reports whether the version have may be used where the version want is required: both
// are versions, they have the same major version, have is not less than want, and, if the major
// version is 0, they have the same minor version.
func Serves(have string, want string) bool {
	h, hOk := readVersion(have)
	w, wOk := readVersion(want)
	return hOk && wOk && h.line() == w.line() && upward.compare(w, h) <= 0
}

// readVersion returns the parts of the version s, and true.
func readVersion(s string) (version, bool) {
	// A fourth piece holds all that follows a third dot, however much it is.
	pieces := strings.SplitN(s, ".", 4)
	if len(pieces) != 3 {
		return version{}, false
	}
	major, majorOk := readPart(pieces[0])
	minor, minorOk := readPart(pieces[1])
	patch, patchOk := readPart(pieces[2])
	if !majorOk || !minorOk || !patchOk {
		return version{}, false
	}
	return version{major, minor, patch}, true
}

// readPart returns the decimal integer s, which has no leading zeros, and true.
func readPart(s string) (int64, bool) {
	if s == "" || s[0] == '0' && s != "0" {
		return 0, false
	}
	var n int64
	for _, digit := range s {
		if digit < '0' || digit > '9' {
			return 0, false
		}
		n = 10*n + int64(digit-'0')
		if n > MaxPart {
			return 0, false
		}
	}
	return n, true
}

// versionAt returns the version whose number is n, which is in 0..versionEnd-1.
func versionAt(n int64) version {
	return version{n / majorStep, n % majorStep / minorStep, n % minorStep}
}

func (v version) number() int64 {
	return v.major*majorStep + v.minor*minorStep + v.patch
}

// compare returns -1, 0 or 1 if v stands before, beside or after w.
func (o order) compare(v, w version) int {
	return int(o) * cmp.Compare(v.number(), w.number())
}

func (v version) text() string {
	major := strconv.FormatInt(v.major, 10)
	minor := strconv.FormatInt(v.minor, 10)
	patch := strconv.FormatInt(v.patch, 10)
	return major + "." + minor + "." + patch
}

// line returns the least version that has in common with v what compatible versions share: the
// major version, and below 1.0.0, where minor versions break compatibility, the minor version.
func (v version) line() version {
	if v.major == 0 {
		return version{minor: v.minor}
	}
	return version{major: v.major}
}

// below returns the end of the range that op makes of its lower bound v.
func (v version) below(op rune) int64 {
	minorEnd := version{major: v.major, minor: v.minor}.number() + minorStep
	switch {
	case op == '=':
		return v.number() + 1
	case op == '~' || op == '^' && v.major == 0:
		return minorEnd
	case op == '^':
		return v.line().number() + majorStep
	}
	return versionEnd
}

// RangeOk reports whether r is valid.
func RangeOk(r Range) bool {
	return 0 <= r.Low && r.Low < r.Below && r.Below <= versionEnd
}

// RangeOf parses the text of a range and returns the range and OK.
func RangeOf(s string) (Range, int64) {
	if s == "" || strings.IndexByte(operators, s[0]) < 0 {
		return Range{}, ErrParse
	}
	low, ok := readVersion(s[1:])
	if !ok {
		return Range{}, ErrParse
	}
	return Range{low.number(), low.below(rune(s[0]))}, OK
}

// RangeText returns the text of a valid range, with the first operator, in the order of the
// table, for which Below is as the table says.
func RangeText(r Range) string {
	if !RangeOk(r) {
		return ""
	}
	low := versionAt(r.Low)
	for _, op := range operators {
		if low.below(op) == r.Below {
			return string(op) + low.text()
		}
	}
	// Below is the number of a version: the last operator stands for all versions from Low on.
	return ">" + low.text() + " <" + versionAt(r.Below).text()
}

// InRange reports whether v is a version, r is valid, and the number of v lies in r.
func InRange(v string, r Range) bool {
	n, ok := VersionNumber(v)
	return ok && RangeOk(r) && r.Low <= n && n < r.Below
}

// Meet returns the intersection of two valid ranges, and true.
func Meet(a Range, b Range) (Range, bool) {
	both := Range{max(a.Low, b.Low), min(a.Below, b.Below)}
	if !RangeOk(a) || !RangeOk(b) || !RangeOk(both) {
		return Range{}, false
	}
	return both, true
}

// BestIn returns the greatest version of list that lies in r, and true.
func BestIn(list []string, r Range) (string, bool) {
	var found []version
	for _, s := range list {
		if InRange(s, r) {
			v, _ := readVersion(s)
			found = append(found, v)
		}
	}
	if len(found) == 0 {
		return "", false
	}
	slices.SortFunc(found, downward.compare)
	return found[0].text(), true
}
