package lower

import (
	"reflect"
	"slices"
	"strings"
	"testing"
	"unsafe"

	"kiln/api"
)

// spans are the pieces of memory that a value points to: of texts and lists.
func spans(v reflect.Value, l *[][2]uintptr) {
	switch v.Kind() {
	case reflect.String:
		if v.Len() > 0 {
			from := uintptr(unsafe.Pointer(unsafe.StringData(v.String())))
			*l = append(*l, [2]uintptr{from, from + uintptr(v.Len())})
		}
	case reflect.Slice:
		if v.Cap() > 0 {
			from := v.Pointer()
			*l = append(*l, [2]uintptr{from, from + uintptr(v.Cap())*v.Type().Elem().Size()})
		}
		for i := range v.Len() {
			spans(v.Index(i), l)
		}
	case reflect.Struct:
		for i := range v.NumField() {
			spans(v.Field(i), l)
		}
	}
}

// shared tells whether two of these answers, or two lists or texts of one of them, or an answer and another value, share memory.
func shared(answers []any, others ...any) bool {
	var mine, all [][2]uintptr
	for _, a := range answers {
		spans(reflect.ValueOf(a), &mine)
	}
	for _, a := range others {
		spans(reflect.ValueOf(a), &all)
	}
	for i, x := range mine {
		for _, y := range slices.Concat(mine[:i], all) {
			if x[0] < y[1] && y[0] < x[1] {
				return true
			}
		}
	}
	return false
}

// copied is something of lists, texts and structs in new memory.
func copied(v reflect.Value) reflect.Value {
	c := reflect.New(v.Type()).Elem()
	switch v.Kind() {
	case reflect.String:
		c.SetString(strings.Clone(v.String()))
	case reflect.Slice:
		if !v.IsNil() {
			c.Set(reflect.MakeSlice(v.Type(), v.Len(), v.Len()))
		}
		for i := range v.Len() {
			c.Index(i).Set(copied(v.Index(i)))
		}
	case reflect.Struct:
		for i := range v.NumField() {
			c.Field(i).Set(copied(v.Field(i)))
		}
	default:
		c.Set(v)
	}
	return c
}

func copiedUnits(l []api.Unit) []api.Unit {
	return copied(reflect.ValueOf(l)).Interface().([]api.Unit)
}

// Rule 4: what is handed in is not changed, and what is told is one's own; rule 5: it hangs on nothing else.
func TestMemory(t *testing.T) {
	l := slices.Concat(sampleUnits(t), unitsOf(t, `exception Some_long_name of string val text = "some text of it"
		val _ = Prim.print text val _ = Prim.print text val _ = Prim.print (Prim.input ()) val _ = Prim.print (Prim.substring (text, 0, 15))
		fun f "some text of it" = "other text" | f "other text" = text | f "third" = "x" | f (s as "fourth") = s | f _ = "fifth" val _ = Prim.print (f text) val _ = Prim.print (f (f text))
		fun g ("some text of it", 1) = 1 | g (_, 2) = 2 | g _ = 3 val _ = g (text, 1) val _ = raise Some_long_name text`))
	ownMemory(t, l)
	var merged []api.Unit
	for _, u := range l {
		merged = append(merged, mergedUnit(u))
	}
	if !slices.ContainsFunc(newUnits(merged), hasRepeats) {
		t.Fatal("no node stands at several places")
	}
	ownMemory(t, merged)
}

// ownMemory fails the test, if units are changed, or an answer shares memory with another value, or is kept.
func ownMemory(t *testing.T, l []api.Unit) {
	t.Helper()
	input := []string{"a line of it", "a line of it", strings.Repeat("x", api.MaxString)}
	was, lines := copiedUnits(l), slices.Clone(input)
	o, e := Run(l, input, api.MaxRun)
	again, _ := Run(l, input, api.MaxRun)
	p, e2 := Lower(l)
	q, _ := Lower(l)
	if e != api.OK || e2 != api.OK || o.Status != api.Uncaught || o.Exn != "Some_long_name" || len(o.Out) != 8 {
		t.Fatalf("%s, %d, %d", showOutcome(o), e, e2)
	}
	if !reflect.DeepEqual(l, was) || !slices.Equal(input, lines) {
		t.Fatal("an argument was changed")
	}
	if !reflect.DeepEqual(o, again) || !reflect.DeepEqual(p, q) {
		t.Error("other answers to the same")
	}
	if shared([]any{o, again, p, q}, l, input) {
		t.Error("shared memory")
	}
	turned := reflect.ValueOf(&p).Elem()
	scratch(turned)
	clear(o.Out)
	if third, _ := Lower(l); !reflect.DeepEqual(q, third) || !reflect.DeepEqual(again, must(Run(l, input, api.MaxRun))) {
		t.Error("what was told is kept")
	}
}

func must(o api.Outcome, _ api.Errno) api.Outcome { return o }

// scratch sets all numbers in lists to another one.
func scratch(v reflect.Value) {
	switch v.Kind() {
	case reflect.Int, reflect.Int64:
		v.SetInt(-77)
	case reflect.Slice:
		for i := range v.Len() {
			scratch(v.Index(i))
		}
	case reflect.Struct:
		for i := range v.NumField() {
			scratch(v.Field(i))
		}
	}
}
