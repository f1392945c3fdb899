package tests

import (
	"reflect"
	"testing"
)

// stretch is a piece of memory that a list may write into.
type stretch struct {
	from, to uintptr
	path     string
}

// plain elements hold no list. Files are long lists of such, so they are copied at once.
func plain(t reflect.Type) bool { return t.Kind() != reflect.Slice && t.Kind() != reflect.Struct }

// stretches are those of all lists in a value, with all the room that they have.
func stretches(v reflect.Value, path string) []stretch {
	var out []stretch
	switch v.Kind() {
	case reflect.Slice:
		if v.Cap() > 0 && v.Type().Elem().Size() > 0 {
			out = append(out, stretch{v.Pointer(), v.Pointer() + uintptr(v.Cap())*v.Type().Elem().Size(), path})
		}
		for i := range v.Len() {
			if plain(v.Type().Elem()) {
				break
			}
			out = append(out, stretches(v.Index(i), path+"[]")...)
		}
	case reflect.Struct:
		for i := range v.NumField() {
			out = append(out, stretches(v.Field(i), path+"."+v.Type().Field(i).Name)...)
		}
	}
	return out
}

func meet(a, b stretch) bool { return a.from < b.to && b.from < a.to }

// roomy is a value of the same content whose lists have spare room, with marks in it.
func roomy(v reflect.Value) reflect.Value {
	out := reflect.New(v.Type()).Elem()
	switch v.Kind() {
	case reflect.Slice:
		n := v.Len()
		list := reflect.MakeSlice(v.Type(), n+3, n+3)
		if reflect.Copy(list, v); !plain(v.Type().Elem()) {
			for i := range n {
				list.Index(i).Set(roomy(v.Index(i)))
			}
		}
		for i := n; i < n+3; i++ {
			mark(list.Index(i))
		}
		out.Set(list.Slice(0, n))
	case reflect.Struct:
		for i := range v.NumField() {
			out.Field(i).Set(roomy(v.Field(i)))
		}
	default:
		out.Set(v)
	}
	return out
}

func mark(v reflect.Value) {
	switch v.Kind() {
	case reflect.Struct:
		for i := range v.NumField() {
			mark(v.Field(i))
		}
	case reflect.String:
		v.SetString("mark")
	case reflect.Int64, reflect.Int:
		v.SetInt(77)
	case reflect.Uint8, reflect.Uint32:
		v.SetUint(0xa5)
	case reflect.Bool:
		v.SetBool(true)
	}
}

// frozen is a value with its spare room laid open, so that a write behind a list's end shows.
func frozen(v reflect.Value) reflect.Value {
	out := reflect.New(v.Type()).Elem()
	switch v.Kind() {
	case reflect.Slice:
		whole := v.Slice(0, v.Cap())
		list := reflect.MakeSlice(v.Type(), whole.Len(), whole.Len())
		if reflect.Copy(list, whole); !plain(v.Type().Elem()) {
			for i := range whole.Len() {
				list.Index(i).Set(frozen(whole.Index(i)))
			}
		}
		out.Set(list)
	case reflect.Struct:
		for i := range v.NumField() {
			out.Field(i).Set(frozen(v.Field(i)))
		}
	default:
		out.Set(v)
	}
	return out
}

// callCleanly calls f with roomy copies of the arguments; it tells when one of them is changed, when the answer shares memory with one, and when two lists of the answer share memory.
func callCleanly(t *testing.T, what string, f any, args ...any) {
	t.Helper()
	var in, before []reflect.Value
	for _, a := range args {
		v := roomy(reflect.ValueOf(a))
		in = append(in, v)
		before = append(before, frozen(v))
	}
	out := reflect.ValueOf(f).Call(in)
	var given, gotten []stretch
	for i, v := range in {
		if !reflect.DeepEqual(frozen(v).Interface(), before[i].Interface()) {
			t.Errorf("%s: argument %d is changed", what, i)
		}
		given = append(given, stretches(v, "argument")...)
	}
	for _, v := range out {
		gotten = append(gotten, stretches(v, "answer")...)
	}
	for i, g := range gotten {
		for _, a := range given {
			if meet(g, a) {
				t.Errorf("%s: %s shares memory with %s", what, g.path, a.path)
				return
			}
		}
		for _, h := range gotten[:i] {
			if meet(g, h) {
				t.Errorf("%s: %s shares memory with %s", what, g.path, h.path)
				return
			}
		}
	}
}
