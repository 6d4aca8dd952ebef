package tests

import (
	"math"
	"slices"
	"strconv"
	"strings"
	"testing"

	"loop.example/g00901/impl"
)

// someVersions are the versions made of parts at which something changes, in ascending order.
func someVersions() []string {
	parts := []string{"0", "1", "2", "10", "999"}
	var list []string
	for _, major := range parts {
		for _, minor := range parts {
			for _, patch := range parts {
				list = append(list, major+"."+minor+"."+patch)
			}
		}
	}
	return list
}

// noVersions are strings that are no versions.
func noVersions() []string {
	return []string{
		"", ".", "..", "...", "1", "1.2", "1.2.", ".1.2", "1..2", "1.2.3.", "1.2.3.4", ".1.2.3",
		"01.0.0", "0.00.0", "0.0.00", "1.02.3", "1.2.03", "000.0.0", "1.0.010", "0001.0.0",
		"1.0.1000", "1.1000.0", "1000.0.0", "1.0.9999999999999999999", "18446744073709551617.0.0", "4294967297.0.0",
		"-1.0.0", "+1.0.0", "1.-0.0", "1.0.+1", " 1.0.0", "1.0.0 ", "1.0. 0", "1.0.0\n", "1_0.0.0", "0x1.0.0", "1e1.0.0",
		"v1.0.0", "1.0.0-a", "1.0.0+a", "a.b.c", "1.2.x", "1,2,3", "1.2.3\x00", "1.2.\xff", "1.2.é", "١.0.0", "1.0.٠", "1.2./", "1.2.:",
		"^1.2.3", "=1.2.3", "1.0.0.1.0.0", strings.Repeat(".", 1000), strings.Repeat("9", 1000), strings.Repeat("1.0.0", 1000), strings.Repeat("0", 99) + "1.0.0",
	}
}

// modelOf computes the number of a version in another way than the program: a part is what prints as it
// stands.
func modelOf(s string) (int64, bool) {
	parts := strings.Split(s, ".")
	if len(parts) != 3 {
		return 0, false
	}
	var number int64
	for _, part := range parts {
		n, err := strconv.Atoi(part)
		if err != nil || n < 0 || n > 999 || strconv.Itoa(n) != part {
			return 0, false
		}
		number = number*1000 + int64(n)
	}
	return number, true
}

// someRanges are valid ranges, among them some that touch, overlap and lie in each other.
func someRanges() []impl.Range {
	ends := []int64{0, 1, 999, 1000, 1001, 2000, 999999, 1000000, 1000001, 1002003, 2000000, 999999999, 1000000000}
	var list []impl.Range
	for i, low := range ends {
		for _, below := range ends[i+1:] {
			list = append(list, impl.Range{Low: low, Below: below})
		}
	}
	return list
}

// noRanges are invalid ranges.
func noRanges() []impl.Range {
	return []impl.Range{
		{}, {Low: -1, Below: 1}, {Low: 5, Below: 5}, {Low: 5, Below: 4}, {Low: 0, Below: 1000000001},
		{Low: 1000000000, Below: 1000000000}, {Low: 1000000000, Below: 1000000001}, {Low: math.MinInt64, Below: math.MaxInt64},
		{Low: math.MaxInt64, Below: math.MinInt64}, {Low: 0, Below: math.MaxInt64}, {Low: 0, Below: math.MinInt64}, {Low: math.MinInt64, Below: 1}, {Low: math.MaxInt64, Below: math.MaxInt64},
	}
}

func TestP3VersionNumber(t *testing.T) {
	n, ok := impl.VersionNumber("1.2.3")
	is(t, "VersionNumber", all(n, ok, impl.VersionOk("1.2.3")), 1002003, true, true)
	n, ok = impl.VersionNumber("0.0.0")
	is(t, "VersionNumber of the least", all(n, ok), 0, true)
	n, ok = impl.VersionNumber("999.999.999")
	is(t, "VersionNumber of the greatest", all(n, ok), 999999999, true)
	is(t, "MaxPart", all(int64(impl.MaxPart)), 999)
	for _, s := range append(noVersions(), someVersions()...) {
		want, wantOk := modelOf(s)
		n, ok := impl.VersionNumber(s)
		is(t, "VersionNumber of "+s, all(n, ok, impl.VersionOk(s)), want, wantOk, wantOk)
	}
	for _, s := range noVersions() {
		n, ok := impl.VersionNumber(s)
		zero(t, "VersionNumber of "+s, n, ok, impl.VersionOk(s))
	}
}

func TestP3VersionOf(t *testing.T) {
	is(t, "VersionOf", all(impl.VersionOf(1002003), impl.VersionOf(0), impl.VersionOf(999999999), impl.VersionOf(1000), impl.VersionOf(999)), "1.2.3", "0.0.0", "999.999.999", "0.1.0", "0.0.999")
	zero(t, "VersionOf outside", impl.VersionOf(-1), impl.VersionOf(1000000000), impl.VersionOf(math.MaxInt64), impl.VersionOf(math.MinInt64))
	for n := int64(0); n < 1000000000; n += 9997 {
		got, ok := impl.VersionNumber(impl.VersionOf(n))
		if got != n || !ok {
			t.Fatalf("VersionOf(%d) is %q, whose number is %d, %v", n, impl.VersionOf(n), got, ok)
		}
	}
	for _, s := range someVersions() {
		n, _ := impl.VersionNumber(s)
		is(t, "VersionOf", all(impl.VersionOf(n)), s)
	}
}

func TestP3CompareVersions(t *testing.T) {
	list := someVersions()
	for i, a := range list {
		for j, b := range list {
			sign, code := impl.CompareVersions(a, b)
			want := 0
			if i < j {
				want = -1
			} else if i > j {
				want = 1
			}
			is(t, "CompareVersions of "+a+" and "+b, all(sign, code), want, impl.OK)
		}
	}
	sign, code := impl.CompareVersions("1.10.0", "1.9.9")
	is(t, "CompareVersions", all(sign, code), 1, impl.OK)
	for _, s := range noVersions() {
		sign, code = impl.CompareVersions(s, "1.0.0")
		is(t, "CompareVersions of "+s, all(sign, code), 0, impl.ErrVersion)
		sign, code = impl.CompareVersions("1.0.0", s)
		is(t, "CompareVersions with "+s, all(sign, code), 0, impl.ErrVersion)
		sign, code = impl.CompareVersions(s, s)
		is(t, "CompareVersions with itself of "+s, all(sign, code), 0, impl.ErrVersion)
	}
}

func TestP3ServesExamples(t *testing.T) {
	for _, c := range []struct {
		have, want string
		serves     bool
	}{
		{"1.3.0", "1.2.9", true}, {"1.2.9", "1.3.0", false}, {"1.2.3", "1.2.3", true}, {"1.2.4", "1.2.3", true}, {"1.2.2", "1.2.3", false},
		{"2.0.0", "1.0.0", false}, {"1.0.0", "2.0.0", false}, {"1.0.0", "0.9.0", false}, {"1.0.0", "1.0.1", false}, {"11.0.0", "1.0.0", false},
		{"0.2.0", "0.1.0", false}, {"0.1.0", "0.2.0", false}, {"0.1.5", "0.1.0", true}, {"0.1.0", "0.1.5", false}, {"0.0.2", "0.0.1", true},
		{"0.1.0", "0.0.9", false}, {"0.0.0", "0.0.0", true}, {"1.1.0", "0.1.0", false}, {"999.999.999", "999.0.0", true},
	} {
		is(t, "Serves "+c.have+" for "+c.want, all(impl.Serves(c.have, c.want)), c.serves)
	}
	for _, s := range noVersions() {
		zero(t, "Serves of "+s, impl.Serves(s, "1.0.0"), impl.Serves("1.0.0", s), impl.Serves("0.0.0", s), impl.Serves(s, "0.0.0"), impl.Serves(s, s))
	}
}

// TestP3ServesLaws checks reflexivity and transitivity, and that no two versions serve each other.
func TestP3ServesLaws(t *testing.T) {
	list := someVersions()
	for _, a := range list {
		if !impl.Serves(a, a) {
			t.Errorf("%s does not serve itself", a)
		}
		for _, b := range list {
			if !impl.Serves(a, b) {
				continue
			}
			if a != b && impl.Serves(b, a) {
				t.Errorf("%s and %s serve each other", a, b)
			}
			for _, c := range list {
				if impl.Serves(b, c) && !impl.Serves(a, c) {
					t.Errorf("%s serves %s, which serves %s, but not %s", a, b, c, c)
				}
			}
		}
	}
}

func TestP3CaretIsServes(t *testing.T) {
	list := append(someVersions(), noVersions()...)
	for _, low := range someVersions() {
		caret, code := impl.RangeOf("^" + low)
		is(t, "RangeOf", all(code), impl.OK)
		for _, v := range list {
			if impl.InRange(v, caret) != impl.Serves(v, low) {
				t.Errorf("%s in ^%s is %v, but Serves says %v", v, low, impl.InRange(v, caret), impl.Serves(v, low))
			}
		}
	}
}

func TestP3RangeOk(t *testing.T) {
	for _, r := range someRanges() {
		is(t, "RangeOk of "+shown(r), all(impl.RangeOk(r)), true)
	}
	for _, r := range noRanges() {
		is(t, "RangeOk of "+shown(r), all(impl.RangeOk(r), impl.RangeText(r), impl.InRange("0.0.0", r), impl.InRange("0.0.5", r), impl.InRange("999.999.999", r)), false, "", false, false, false)
		best, ok := impl.BestIn(someVersions(), r)
		zero(t, "BestIn of "+shown(r), best, ok)
	}
}

func TestP3RangeOf(t *testing.T) {
	for _, c := range []struct {
		text       string
		low, below int64
	}{
		{"=1.2.3", 1002003, 1002004}, {"~1.2.3", 1002003, 1003000}, {"^1.2.3", 1002003, 2000000}, {">1.2.3", 1002003, 1000000000},
		{"=0.1.2", 1002, 1003}, {"~0.1.2", 1002, 2000}, {"^0.1.2", 1002, 2000}, {">0.1.2", 1002, 1000000000},
		{"=0.0.0", 0, 1}, {"~0.0.0", 0, 1000}, {"^0.0.0", 0, 1000}, {">0.0.0", 0, 1000000000}, {"^0.999.1", 999001, 1000000},
		{"~1.999.5", 1999005, 2000000}, {"^1.0.0", 1000000, 2000000}, {"~1.0.0", 1000000, 1001000}, {"^12.34.56", 12034056, 13000000},
		{"=999.999.999", 999999999, 1000000000}, {"~999.999.999", 999999999, 1000000000}, {"^999.999.999", 999999999, 1000000000}, {">999.999.999", 999999999, 1000000000},
	} {
		r, code := impl.RangeOf(c.text)
		is(t, "RangeOf "+c.text, all(r, code, impl.RangeOk(r)), impl.Range{Low: c.low, Below: c.below}, impl.OK, true)
	}
	for _, s := range []string{
		"", "=", "~", "^", ">", "1.2.3", "^^1.2.3", "^ 1.2.3", " ^1.2.3", "^1.2.3 ", "<1.2.3", ">=1.2.3", "==1.2.3", "!1.2.3", "*1.2.3", "v1.2.3",
		">1.0.0 <3.0.0", "1.2.3^", "=01.0.0", "^1.2", "~1.0.1000", "\xff1.2.3", "é1.2.3", "\u033d1.2.3", "\x001.2.3", "\u013d1.2.3",
	} {
		r, code := impl.RangeOf(s)
		is(t, "RangeOf "+s, all(r, code), impl.Range{}, impl.ErrParse)
	}
	for _, s := range noVersions() {
		for _, op := range []string{"=", "~", "^", ">"} {
			if r, code := impl.RangeOf(op + s); code != impl.ErrParse || r != (impl.Range{}) {
				t.Errorf("RangeOf %s%s is %v, %d", op, s, r, code)
			}
		}
	}
}

func TestP3RangeText(t *testing.T) {
	for _, c := range []struct {
		low, below int64
		text       string
	}{
		{1002003, 2000000, "^1.2.3"}, {1002, 2000, "~0.1.2"}, {1000000, 3000000, ">1.0.0 <3.0.0"}, {1002003, 1002004, "=1.2.3"},
		{1002003, 1003000, "~1.2.3"}, {1002003, 1000000000, ">1.2.3"}, {1999005, 2000000, "~1.999.5"}, {1999999, 2000000, "=1.999.999"},
		{1001999, 1002000, "=1.1.999"}, {1999, 2000, "=0.1.999"}, {0, 1000000000, ">0.0.0"}, {0, 1, "=0.0.0"}, {0, 1000, "~0.0.0"},
		{0, 1000000, ">0.0.0 <1.0.0"}, {0, 999999999, ">0.0.0 <999.999.999"}, {999999999, 1000000000, "=999.999.999"},
		{999999998, 1000000000, "~999.999.998"}, {999000000, 1000000000, "^999.0.0"}, {998000000, 1000000000, ">998.0.0"}, {5, 7, ">0.0.5 <0.0.7"},
	} {
		is(t, "RangeText", all(impl.RangeText(impl.Range{Low: c.low, Below: c.below})), c.text)
	}
	for _, r := range someRanges() {
		back, code := impl.RangeOf(impl.RangeText(r))
		if strings.Contains(impl.RangeText(r), " <") {
			is(t, "RangeOf of both ends", all(back, code), impl.Range{}, impl.ErrParse)
		} else {
			is(t, "RangeOf of RangeText", all(back, code), r, impl.OK)
		}
	}
}

func TestP3InRange(t *testing.T) {
	caret := impl.Range{Low: 1002003, Below: 2000000}
	is(t, "InRange", all(impl.InRange("1.9.9", caret), impl.InRange("2.0.0", caret), impl.InRange("1.2.3", caret), impl.InRange("1.2.2", caret), impl.InRange("1.999.999", caret)), true, false, true, false, true)
	for _, r := range someRanges() {
		for _, v := range someVersions() {
			n, _ := modelOf(v)
			if impl.InRange(v, r) != (r.Low <= n && n < r.Below) {
				t.Errorf("InRange(%s, %v) is %v", v, r, impl.InRange(v, r))
			}
		}
		for _, v := range noVersions() {
			zero(t, "InRange of "+v, impl.InRange(v, r))
		}
	}
}

// TestP3Meet checks that a version lies in an intersection exactly if it lies in both ranges.
func TestP3Meet(t *testing.T) {
	r, ok := impl.Meet(impl.Range{Low: 1002003, Below: 2000000}, impl.Range{Low: 1500000, Below: 1600000})
	is(t, "Meet", all(r, ok), impl.Range{Low: 1500000, Below: 1600000}, true)
	r, ok = impl.Meet(impl.Range{Low: 5, Below: 10}, impl.Range{Low: 10, Below: 20})
	is(t, "Meet of ranges that touch", all(r, ok), impl.Range{}, false)
	r, ok = impl.Meet(impl.Range{Low: 5, Below: 11}, impl.Range{Low: 10, Below: 20})
	is(t, "Meet of ranges that share one version", all(r, ok), impl.Range{Low: 10, Below: 11}, true)

	// Versions next to both ends of every range tell the ends of an intersection apart.
	var numbers []int64
	for _, r := range someRanges() {
		numbers = append(numbers, r.Low-1, r.Low, r.Low+1, r.Below-1, r.Below, r.Below+1)
	}
	slices.Sort(numbers)
	numbers = slices.Compact(numbers)
	for _, a := range someRanges() {
		for _, b := range someRanges() {
			both, ok := impl.Meet(a, b)
			some := false
			for _, n := range numbers {
				v := impl.VersionOf(n)
				want := impl.InRange(v, a) && impl.InRange(v, b)
				some = some || want
				if impl.InRange(v, both) != want {
					t.Fatalf("%s in the intersection %v of %v and %v: want %v", v, both, a, b, want)
				}
			}
			if ok != some || !ok && both != (impl.Range{}) {
				t.Fatalf("Meet(%v, %v) is %v, %v", a, b, both, ok)
			}
		}
	}
	for _, bad := range noRanges() {
		for _, other := range append(someRanges(), bad) {
			a, aOk := impl.Meet(bad, other)
			b, bOk := impl.Meet(other, bad)
			is(t, "Meet with "+shown(bad), all(a, aOk, b, bOk), impl.Range{}, false, impl.Range{}, false)
		}
	}
}

func TestP3BestIn(t *testing.T) {
	caret := impl.Range{Low: 1002003, Below: 2000000}
	for _, c := range []struct {
		list []string
		best string
		ok   bool
	}{
		{[]string{"1.2.0", "1.9.1", "x", "2.0.0", "1.3.0"}, "1.9.1", true}, {[]string{"1.9.0", "1.10.0", "1.2.9"}, "1.10.0", true},
		{[]string{"1.2.3"}, "1.2.3", true}, {[]string{"2.0.0", "1.2.2"}, "", false}, {[]string{"x", "", "01.9.0", "1.9"}, "", false},
		{[]string{"1.3.0", "1.3.0"}, "1.3.0", true}, {[]string{"x", "1.3.0", "1.4.0 "}, "1.3.0", true}, {nil, "", false}, {[]string{}, "", false},
	} {
		best, ok := impl.BestIn(c.list, caret)
		is(t, "BestIn of "+strings.Join(c.list, ", "), all(best, ok), c.best, c.ok)
	}
	list := append(someVersions(), noVersions()...)
	back := slices.Clone(list)
	slices.Reverse(back)
	for _, r := range someRanges() {
		want := ""
		for _, v := range someVersions() {
			if impl.InRange(v, r) {
				want = v
			}
		}
		best, ok := impl.BestIn(list, r)
		is(t, "BestIn", all(best, ok), want, want != "")
		best, ok = impl.BestIn(back, r)
		is(t, "BestIn from the end", all(best, ok), want, want != "")
	}
	best, ok := impl.BestIn([]string{"0.0.0"}, impl.Range{Low: 0, Below: 1})
	is(t, "BestIn of the least", all(best, ok), "0.0.0", true)
}

func TestP1Versions(t *testing.T) {
	texts := slices.Concat(noVersions(), []string{"1.2.3", "0.1.2", "^1.2.3", "~0.1.2", ">1.0.0 <3.0.0"})
	ranges := append(noRanges(), impl.Range{Low: 1002003, Below: 2000000})
	for _, s := range texts {
		twice(t, "VersionNumber", func() string { return shown(impl.VersionNumber(s)) })
		twice(t, "CompareVersions", func() string { return shown(impl.CompareVersions(s, "1.2.3")) })
		twice(t, "RangeOf", func() string { return shown(impl.RangeOf(s)) })
		twice(t, "VersionOk and Serves", func() string { return shown(impl.VersionOk(s), impl.Serves(s, "1.2.3"), impl.Serves("1.2.3", s)) })
		for _, r := range ranges {
			twice(t, "InRange", func() string { return shown(impl.InRange(s, r)) })
		}
	}
	for _, n := range edges() {
		twice(t, "VersionOf", func() string { return shown(impl.VersionOf(n)) })
		r := impl.Range{Low: n, Below: n + 1}
		twice(t, "RangeText", func() string { return shown(impl.RangeOk(r), impl.RangeText(r)) })
	}
	for _, r := range ranges {
		twice(t, "Meet", func() string { return shown(impl.Meet(r, ranges[0])) })
		twice(t, "RangeText", func() string { return shown(impl.RangeText(r)) })
	}
}

// TestP1BestInKeepsList checks that neither the elements of the list nor its unused capacity change.
func TestP1BestInKeepsList(t *testing.T) {
	whole := []string{"1.2.0", "1.9.1", "x", "2.0.0", "1.3.0", "9.9.9", "spare", ""}
	before := slices.Clone(whole)
	for _, r := range append(someRanges(), noRanges()...) {
		twice(t, "BestIn", func() string { return shown(impl.BestIn(whole[:5], r)) })
		if !slices.Equal(whole, before) {
			t.Fatalf("BestIn changed its list to %q", whole)
		}
	}
}
