package tests

import (
	"fmt"
	"math"
	"testing"
)

// all collects the results of a call, so that they can be compared at once.
func all(results ...any) []any {
	return results
}

// is compares got with want, types included: a result is an int64, not an int.
func is(t *testing.T, what string, got []any, want ...any) {
	t.Helper()
	if len(got) != len(want) {
		t.Fatalf("%s: %d results, want %d", what, len(got), len(want))
	}
	for i := range got {
		if n, ok := want[i].(int); ok {
			want[i] = int64(n)
		}
		if got[i] != want[i] {
			t.Errorf("%s: result %d is %#v, want %#v", what, i, got[i], want[i])
		}
	}
}

// zero checks that every result is its zero value.
func zero(t *testing.T, what string, results ...any) {
	t.Helper()
	for i, r := range results {
		switch r {
		case "", int64(0), false:
		default:
			t.Errorf("%s: result %d is %#v, want the zero value", what, i, r)
		}
	}
}

// twice calls f two times and checks that it neither panics nor changes its mind.
func twice(t *testing.T, what string, f func() string) {
	t.Helper()
	defer func() {
		if p := recover(); p != nil {
			t.Errorf("%s panics: %v", what, p)
		}
	}()
	if a, b := f(), f(); a != b {
		t.Errorf("%s: first %s, then %s", what, a, b)
	}
}

// shown is a text that equal results have in common.
func shown(results ...any) string {
	return fmt.Sprintf("%#v", results)
}

// edges are the integers at which an encoding becomes longer, with their neighbours, and others.
func edges() []int64 {
	list := []int64{
		0, 1, -1, 2, -2, 258, 624485, -624485,
		math.MaxInt64, math.MaxInt64 - 1, math.MinInt64, math.MinInt64 + 1,
	}
	for i := range 63 {
		n := int64(1) << i
		list = append(list, n-1, n, n+1, -n-1, -n, -n+1)
	}
	return list
}
