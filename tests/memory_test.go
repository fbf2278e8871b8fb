package tests

import (
	"fmt"
	"reflect"
	"slices"
	"testing"
	"time"

	"loop.example/g01109/impl"
)

// piece is the memory of a slice up to its capacity: what an append may write to belongs to it.
type piece struct {
	from, to uintptr
}

// piecesOf collects the memory of all slices in the values, those within slices included.
func piecesOf(values ...reflect.Value) []piece {
	var pieces []piece
	for _, v := range values {
		switch v.Kind() {
		case reflect.Slice:
			if v.Cap() > 0 {
				size := uintptr(v.Cap()) * v.Type().Elem().Size()
				pieces = append(pieces, piece{v.Pointer(), v.Pointer() + size})
			}
			for i := range v.Len() {
				pieces = append(pieces, piecesOf(v.Index(i))...)
			}
		case reflect.Struct:
			for i := range v.NumField() {
				pieces = append(pieces, piecesOf(v.Field(i))...)
			}
		}
	}
	return pieces
}

// share reports whether two pieces of memory have a common byte.
func share(a piece, b piece) bool {
	return a.from < b.to && b.from < a.to
}

// deepCopy returns a value with slices of its own.
func deepCopy(v reflect.Value) reflect.Value {
	c := reflect.New(v.Type()).Elem()
	c.Set(v)
	switch v.Kind() {
	case reflect.Slice:
		if v.IsNil() {
			return c
		}
		c.Set(reflect.MakeSlice(v.Type(), v.Len(), v.Len()))
		for i := range v.Len() {
			c.Index(i).Set(deepCopy(v.Index(i)))
		}
	case reflect.Struct:
		for i := range v.NumField() {
			c.Field(i).Set(deepCopy(v.Field(i)))
		}
	}
	return c
}

// sameValues compares values with all that they hold.
func sameValues(a []reflect.Value, b []reflect.Value) bool {
	for i := range a {
		if !reflect.DeepEqual(a[i].Interface(), b[i].Interface()) {
			return false
		}
	}
	return true
}

// isZero reports whether a value is a zero value, an empty slice being like nil.
func isZero(v reflect.Value) bool {
	switch v.Kind() {
	case reflect.Slice:
		return v.Len() == 0
	case reflect.Struct:
		for i := range v.NumField() {
			if !isZero(v.Field(i)) {
				return false
			}
		}
		return true
	}
	return v.IsZero()
}

// valuesOf returns the arguments as values.
func valuesOf(arguments []any) []reflect.Value {
	var values []reflect.Value
	for _, a := range arguments {
		values = append(values, reflect.ValueOf(a))
	}
	return values
}

// checkCall calls a function twice and checks what holds for all functions: the same results
// for the same arguments, which stay as they are; results with memory of their own; and zero
// values beside a false.
func checkCall(t *testing.T, name string, function any, arguments ...any) {
	t.Helper()
	in := valuesOf(arguments)
	var before []reflect.Value
	for _, v := range in {
		before = append(before, deepCopy(v))
	}
	first := reflect.ValueOf(function).Call(in)
	second := reflect.ValueOf(function).Call(in)
	if !sameValues(in, before) {
		t.Fatalf("%s of %v changed its arguments to %v", name, before, in)
	}
	if !sameValues(first, second) {
		t.Fatalf("%s of %v: %v and then %v", name, before, first, second)
	}
	given := piecesOf(in...)
	got := append(piecesOf(first...), piecesOf(second...)...)
	for i, a := range got {
		for _, b := range append(given, got[:i]...) {
			if share(a, b) {
				t.Fatalf("%s of %v: shared memory", name, before)
			}
		}
	}
	last := len(first) - 1
	if last > 0 && first[last].Kind() == reflect.Bool && !first[last].Bool() {
		checkZero(t, name, first[:last])
	}
}

// checkWithRoom makes checks for Graphs that have room behind their edges, which an append to these
// would write to, and for Graphs that are not valid.
func checkWithRoom(t *testing.T, graphs []impl.Graph, check func(t *testing.T, g impl.Graph)) {
	t.Helper()
	for _, g := range graphs {
		room := append(slices.Clone(g.Edges), [2]int{-7, 7}, [2]int{-8, 8})
		behind := room[len(g.Edges):]
		check(t, impl.Graph{Size: g.Size, Edges: room[:len(g.Edges)]})
		if !slices.Equal(behind, [][2]int{{-7, 7}, {-8, 8}}) {
			t.Fatal("written behind the edges", g, behind)
		}
	}
	for _, g := range brokenGraphs() {
		if len(g.Edges) < 100 {
			check(t, g)
		}
	}
}

// checkZero checks that all results are zero values.
func checkZero(t *testing.T, name string, results []reflect.Value) {
	t.Helper()
	for _, v := range results {
		if !isZero(v) {
			t.Fatalf("%s fails with %v", name, v)
		}
	}
}

// checkFails checks that a function fails, that is, returns false behind zero values.
func checkFails(t *testing.T, name string, function any, arguments ...any) {
	t.Helper()
	results := reflect.ValueOf(function).Call(valuesOf(arguments))
	last := len(results) - 1
	if results[last].Bool() {
		text := fmt.Sprint(arguments...)
		t.Errorf("%s does not fail for %s", name, text[:min(len(text), 200)])
	}
	checkZero(t, name, results[:last])
}

// checkInTime checks that calls return before long.
func checkInTime(t *testing.T, calls func()) {
	t.Helper()
	done := make(chan bool)
	go func() {
		defer close(done)
		calls()
	}()
	select {
	case <-done:
	case <-time.After(time.Minute):
		t.Fatal("too slow")
	}
}

func TestSharedMemoryIsSeen(t *testing.T) {
	whole := [][]int{{1, 2, 3}, {4}}
	apart := deepCopy(reflect.ValueOf(whole))
	joined := piecesOf(reflect.ValueOf(whole[0][:1]), reflect.ValueOf(whole[0][2:]))
	if len(piecesOf(apart)) != 3 || !share(joined[0], joined[1]) || share(piecesOf(apart)[1], joined[0]) {
		t.Error(joined)
	}
}
