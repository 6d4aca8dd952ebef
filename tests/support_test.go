package tests

import (
	"cmp"
	"fmt"
	"math"
	"reflect"
	"slices"
	"strconv"
	"testing"
)

// all collects the results of a call, so that they can be compared at once.
func all(results ...any) []any {
	return results
}

// is compares got with want, types included: a result is an int64, not an int.
func is(t *testing.T, what string, got []any, want ...any) {
	t.Helper()
	if len(got) != len(want) {
		t.Fatalf("%s: %d results, want %d", what, len(got), len(want))
	}
	for i := range got {
		if n, ok := want[i].(int); ok {
			want[i] = int64(n)
		}
		if got[i] != want[i] {
			t.Errorf("%s: result %d is %#v, want %#v", what, i, got[i], want[i])
		}
	}
}

// zero checks that every result is its zero value.
func zero(t *testing.T, what string, results ...any) {
	t.Helper()
	for i, r := range results {
		switch r {
		case "", int64(0), false:
		default:
			t.Errorf("%s: result %d is %#v, want the zero value", what, i, r)
		}
	}
}

// twice calls f two times and checks that it neither panics nor changes its mind.
func twice(t *testing.T, what string, f func() string) {
	t.Helper()
	defer func() {
		if p := recover(); p != nil {
			t.Errorf("%s panics: %v", what, p)
		}
	}()
	if a, b := f(), f(); a != b {
		t.Errorf("%s: first %s, then %s", what, a, b)
	}
}

// shown is a text that equal results have in common.
func shown(results ...any) string {
	return fmt.Sprintf("%#v", results)
}

// edges are the integers at which an encoding becomes longer, with their neighbours, and others.
func edges() []int64 {
	list := []int64{
		0, 1, -1, 2, -2, 258, 624485, -624485,
		math.MaxInt64, math.MaxInt64 - 1, math.MinInt64, math.MinInt64 + 1,
	}
	for i := range 63 {
		n := int64(1) << i
		list = append(list, n-1, n, n+1, -n-1, -n, -n+1)
	}
	return list
}

// alike reports whether a and b are equal, a nil slice and an empty one being the same.
func alike(a, b any) bool {
	return alikeIn(reflect.ValueOf(a), reflect.ValueOf(b))
}

func alikeIn(a, b reflect.Value) bool {
	if a.IsValid() != b.IsValid() || a.IsValid() && a.Type() != b.Type() {
		return false
	}
	switch a.Kind() {
	case reflect.Interface:
		return alikeIn(a.Elem(), b.Elem())
	case reflect.Slice:
		if a.Len() != b.Len() {
			return false
		}
		for i := range a.Len() {
			if !alikeIn(a.Index(i), b.Index(i)) {
				return false
			}
		}
		return true
	case reflect.Struct:
		for i := range a.NumField() {
			if !alikeIn(a.Field(i), b.Field(i)) {
				return false
			}
		}
		return true
	}
	return reflect.DeepEqual(a.Interface(), b.Interface())
}

// roomy returns a copy of x whose slices all have an unused capacity, with something in it.
func roomy[X any](x X) X {
	return roomyIn(reflect.ValueOf(x)).Interface().(X)
}

func roomyIn(x reflect.Value) reflect.Value {
	copied := reflect.New(x.Type()).Elem()
	switch x.Kind() {
	case reflect.Slice:
		copied.Set(reflect.MakeSlice(x.Type(), x.Len()+2, x.Len()+2))
		for i := range x.Len() {
			copied.Index(i).Set(roomyIn(x.Index(i)))
		}
		for i := x.Len(); i < copied.Len(); i++ {
			fill(copied.Index(i))
		}
		return copied.Slice(0, x.Len())
	case reflect.Struct:
		for i := range x.NumField() {
			copied.Field(i).Set(roomyIn(x.Field(i)))
		}
		return copied
	}
	copied.Set(x)
	return copied
}

// fill stores something in x, but for its slices.
func fill(x reflect.Value) {
	switch x.Kind() {
	case reflect.String:
		x.SetString("spare")
	case reflect.Int64:
		x.SetInt(77)
	case reflect.Bool:
		x.SetBool(true)
	case reflect.Struct:
		for i := range x.NumField() {
			fill(x.Field(i))
		}
	}
}

// span is the memory of a slice, from its first byte up to the end of its capacity.
type span struct {
	low, below uintptr
}

// spansOf returns the memory of all slices in x, those in unused capacities included.
func spansOf(list []span, x reflect.Value) []span {
	switch x.Kind() {
	case reflect.Interface:
		return spansOf(list, x.Elem())
	case reflect.Slice:
		size := uintptr(x.Cap()) * x.Type().Elem().Size()
		if size > 0 {
			list = append(list, span{x.Pointer(), x.Pointer() + size})
		}
		for i := range x.Cap() {
			list = spansOf(list, x.Slice(0, x.Cap()).Index(i))
		}
	case reflect.Struct:
		for i := range x.NumField() {
			list = spansOf(list, x.Field(i))
		}
	}
	return list
}

// apart checks that no two slices anywhere in the parts share memory.
func apart(t *testing.T, what string, parts ...any) {
	t.Helper()
	list := spansOf(nil, reflect.ValueOf(parts))
	slices.SortFunc(list, func(a, b span) int { return cmp.Compare(a.low, b.low) })
	for i := 1; i < len(list); i++ {
		if list[i].low < list[i-1].below {
			t.Errorf("%s: two slices share memory", what)
			return
		}
	}
}

// unused returns x with every slice of it up to the end of its capacity.
func unused(x reflect.Value) string {
	switch x.Kind() {
	case reflect.Slice:
		text := "["
		for i := range x.Cap() {
			text += unused(x.Slice(0, x.Cap()).Index(i)) + " "
		}
		return text + "]" + strconv.Itoa(x.Len())
	case reflect.Struct:
		text := "{"
		for i := range x.NumField() {
			text += unused(x.Field(i)) + " "
		}
		return text + "}"
	}
	return fmt.Sprintf("%#v", x.Interface())
}

// pure calls a function two times with an argument that has unused capacities, and checks that it does not panic,
// changes nothing, answers the same, and that no answer shares memory with the argument or the other answer.
func pure[A any](t *testing.T, what string, argument A, call func(A) []any) {
	t.Helper()
	defer func() {
		if p := recover(); p != nil {
			t.Errorf("%s panics: %v", what, p)
		}
	}()
	argument = roomy(argument)
	before := unused(reflect.ValueOf(argument))
	first := call(argument)
	second := call(argument)
	if unused(reflect.ValueOf(argument)) != before {
		t.Errorf("%s changes its argument", what)
	}
	if !alike(first, second) {
		t.Errorf("%s: first %#v, then %#v", what, first, second)
	}
	apart(t, what, argument, first, second)
}
