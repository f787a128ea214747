package tests

import (
	"fmt"
	"reflect"
	"slices"
	"strings"
	"testing"
)

// pools are the values with which the functions of a chapter are called, for each type of an argument.
type pools map[reflect.Type][]any

// add puts values into the pool of their type.
func (p pools) add(values ...any) {
	for _, v := range values {
		p[reflect.TypeOf(v)] = append(p[reflect.TypeOf(v)], v)
	}
}

// checkSafety calls a function with all combinations of the values of its pools. It must not panic, must
// leave its arguments alone and depend on nothing else, must share no memory, and must return zero values
// together with a false, if its last result of several is a bool.
func checkSafety(t *testing.T, name string, function any, p pools) {
	t.Helper()
	f := reflect.ValueOf(function)
	choice := make([]any, f.Type().NumIn())
	var choose func(i int)
	choose = func(i int) {
		if i < len(choice) {
			for _, v := range p[f.Type().In(i)] {
				choice[i] = v
				choose(i + 1)
			}
			return
		}
		if complaint := complaintOf(f, choice); complaint != "" {
			t.Errorf("%s of %.200s %s", name, fmt.Sprint(choice...), complaint)
		}
	}
	choose(0)
}

func complaintOf(f reflect.Value, choice []any) (complaint string) {
	defer func() {
		if r := recover(); r != nil {
			complaint = fmt.Sprint("panics: ", r)
		}
	}()
	first, second := copiesOf(choice, 0), copiesOf(choice, 1)
	one, other := f.Call(first), f.Call(second)
	if !sameValues(one, other) {
		return "has two answers"
	}
	if !areUntouched(choice, first, 0) || !areUntouched(choice, second, 1) {
		return "modifies an argument"
	}
	if !areApart(slices.Concat(first, second, one, other)) {
		return "has an answer that shares memory"
	}
	if n := len(one); n > 1 && one[n-1].Kind() == reflect.Bool && !one[n-1].Bool() {
		for _, v := range one[:n-1] {
			if !sameValue(v, reflect.Zero(v.Type())) {
				return "fails with an answer that is not zero"
			}
		}
	}
	return ""
}

// spare is how much room copies have behind the lengths of their slices.
const spare = 9

// copiesOf returns values with memory of their own, whose slices have room behind them, filled with numbers.
func copiesOf(values []any, filling int64) []reflect.Value {
	var copies []reflect.Value
	for _, v := range values {
		copies = append(copies, copyOf(reflect.ValueOf(v), filling))
	}
	return copies
}

func copyOf(v reflect.Value, filling int64) reflect.Value {
	switch v.Kind() {
	case reflect.Slice:
		if v.IsNil() {
			return v
		}
		list := reflect.MakeSlice(v.Type(), v.Len()+spare, v.Len()+spare)
		for i := range list.Len() {
			if i < v.Len() {
				list.Index(i).Set(copyOf(v.Index(i), filling))
			} else {
				fill(list.Index(i), filling)
			}
		}
		return list.Slice(0, v.Len())
	case reflect.Struct:
		s := reflect.New(v.Type()).Elem()
		for i := range v.NumField() {
			s.Field(i).Set(copyOf(v.Field(i), filling))
		}
		return s
	}
	return v
}

// fill sets a number, or all numbers of a struct.
func fill(v reflect.Value, filling int64) {
	switch v.Kind() {
	case reflect.Int:
		v.SetInt(filling)
	case reflect.Struct:
		for i := range v.NumField() {
			fill(v.Field(i), filling)
		}
	}
}

// areUntouched reports whether arguments and the room behind them are as copiesOf made them.
func areUntouched(values []any, used []reflect.Value, filling int64) bool {
	for i, v := range copiesOf(values, filling) {
		if !isUntouched(v, used[i]) {
			return false
		}
	}
	return true
}

func isUntouched(v, used reflect.Value) bool {
	switch v.Kind() {
	case reflect.Slice:
		if v.Len() != used.Len() || v.Cap() != used.Cap() {
			return false
		}
		v, used = v.Slice(0, v.Cap()), used.Slice(0, used.Cap())
		for i := range v.Len() {
			if !isUntouched(v.Index(i), used.Index(i)) {
				return false
			}
		}
		return true
	case reflect.Struct:
		for i := range v.NumField() {
			if !isUntouched(v.Field(i), used.Field(i)) {
				return false
			}
		}
		return true
	}
	return v.Equal(used)
}

func sameValues(a, b []reflect.Value) bool {
	return slices.EqualFunc(a, b, sameValue)
}

// sameValue compares values, for which a nil slice and an empty one are the same.
func sameValue(a, b reflect.Value) bool {
	switch a.Kind() {
	case reflect.Slice:
		if a.Len() != b.Len() {
			return false
		}
		for i := range a.Len() {
			if !sameValue(a.Index(i), b.Index(i)) {
				return false
			}
		}
		return true
	case reflect.Struct:
		for i := range a.NumField() {
			if !sameValue(a.Field(i), b.Field(i)) {
				return false
			}
		}
		return true
	}
	return a.Equal(b)
}

// region is the memory of a slice, with the room behind it.
type region struct{ begin, end uintptr }

// areApart reports whether no two slices in values share memory.
func areApart(values []reflect.Value) bool {
	var regions []region
	for _, v := range values {
		regions = regionsOf(v, regions)
	}
	slices.SortFunc(regions, func(a, b region) int {
		if a.begin < b.begin {
			return -1
		}
		return 1
	})
	for i := 1; i < len(regions); i++ {
		if regions[i].begin < regions[i-1].end {
			return false
		}
	}
	return true
}

func regionsOf(v reflect.Value, regions []region) []region {
	switch v.Kind() {
	case reflect.Slice:
		size := uintptr(v.Cap()) * v.Type().Elem().Size()
		if size > 0 {
			regions = append(regions, region{v.Pointer(), v.Pointer() + size})
		}
		for i := range v.Len() {
			regions = regionsOf(v.Index(i), regions)
		}
	case reflect.Struct:
		for i := range v.NumField() {
			regions = regionsOf(v.Field(i), regions)
		}
	}
	return regions
}

// The functions below break what checkSafety is to find.

type pair struct{ A, B []int }

type point struct{ X, Y int }

func panics(list []int) (int, bool)        { return list[3], true }
func writes(list []int) bool               { return len(list) > 0 && clearFirst(list) }
func writesBehind(list []int) bool         { return len(append(list, 5)) > 0 }
func readsBehind(list []int) (int, bool)   { return sumOf(list[:cap(list)]), true }
func readsPointBehind(list []point) int    { return list[:cap(list)][len(list)].Y }
func handsBack(list []int) ([]int, bool)   { return list, true }
func handsEnd(list []int) ([]int, bool)    { return list[len(list):], true }
func failsWithMore(list []int) (int, bool) { return 1, false }
func failsWithList([]int) ([]int, bool)    { return []int{0}, false }

func sharesInside(list []int) (pair, bool) {
	own := slices.Clone(list)
	return pair{own, own}, true
}

func clearFirst(list []int) bool {
	list[0] = 99
	return true
}

func sumOf(list []int) int {
	sum := 0
	for _, n := range list {
		sum += n
	}
	return sum
}

func TestCheckSafetyFindsBreaches(t *testing.T) {
	for want, functions := range map[string][]any{
		"panics":                   {panics},
		"modifies an argument":     {writes, writesBehind},
		"has two answers":          {readsBehind, readsPointBehind},
		"shares memory":            {handsBack, handsEnd, sharesInside},
		"an answer that is not ze": {failsWithMore, failsWithList},
		"":                         {slices.Clone[[]int], sumOf},
	} {
		for _, f := range functions {
			argument := any([]int{1, 2, 3})
			if reflect.TypeOf(f).In(0) == reflect.TypeFor[[]point]() {
				argument = []point{{1, 2}, {3, 4}}
			}
			got := complaintOf(reflect.ValueOf(f), []any{argument})
			if !strings.Contains(got, want) || want == "" && got != "" {
				t.Errorf("%v: complaint %q, want %q", reflect.TypeOf(f), got, want)
			}
		}
	}
}
