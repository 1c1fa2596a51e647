package scope

import (
	"fmt"
	"reflect"
	"slices"
	"strings"
	"testing"
)

// The functions of this file work on values of any types, with all their fields.

// shown writes a value, so that two values are equal if what is written is: an empty list may be nil.
func shown(x any) string { return strings.ReplaceAll(fmt.Sprintf("%#v", x), "(nil)", "{}") }

// short writes a value that may be too large for a message.
func short(x any) string { return fmt.Sprintf("%.400s", fmt.Sprintf("%+v", x)) }

// changed returns a copy of a value, in which each list is replaced by what a function makes of its copy.
func changed[T any](x T, list func(l reflect.Value) reflect.Value) T {
	return changedValue(reflect.ValueOf(x), list).Interface().(T)
}

func changedValue(v reflect.Value, list func(l reflect.Value) reflect.Value) reflect.Value {
	switch v.Kind() {
	case reflect.Slice:
		l := reflect.MakeSlice(v.Type(), v.Len(), v.Len())
		for i := range v.Len() {
			l.Index(i).Set(changedValue(v.Index(i), list))
		}
		return list(l)
	case reflect.Struct:
		s := reflect.New(v.Type()).Elem()
		for i := range v.NumField() {
			s.Field(i).Set(changedValue(v.Field(i), list))
		}
		return s
	}
	return v
}

// copyOf returns a copy that shares no memory with a value.
func copyOf[T any](x T) T { return changed(x, func(l reflect.Value) reflect.Value { return l }) }

// roomy returns a copy whose lists have room behind their ends, and a value in it that would be noticed if it were used.
func roomy[T any](x T) T {
	return changed(x, func(l reflect.Value) reflect.Value {
		behind := reflect.New(l.Type().Elem()).Elem()
		behind.FieldByName("Name").SetString("behind")
		return reflect.Append(l, behind).Slice(0, l.Len())
	})
}

// lists calls visit for all lists in a value, each with what is behind its end.
func lists(v reflect.Value, visit func(l reflect.Value)) {
	switch v.Kind() {
	case reflect.Slice:
		whole := v.Slice(0, v.Cap())
		visit(whole)
		for i := range whole.Len() {
			lists(whole.Index(i), visit)
		}
	case reflect.Struct:
		for i := range v.NumField() {
			lists(v.Field(i), visit)
		}
	}
}

// contents returns the fields of all elements of the lists in a value, and the lengths of those that are lists.
func contents(v reflect.Value) []any {
	var all []any
	lists(v, func(l reflect.Value) {
		for i := range l.Len() {
			for k := range l.Index(i).NumField() {
				field := l.Index(i).Field(k)
				if field.Kind() == reflect.Slice {
					field = reflect.ValueOf(field.Len())
				}
				all = append(all, field.Interface())
			}
		}
	})
	return all
}

// watch returns a function that reports whether the lists of a value, to which x points, have changed since.
func watch(t *testing.T, x any) func() {
	t.Helper()
	v := reflect.ValueOf(x).Elem()
	before := contents(v)
	return func() {
		t.Helper()
		if !slices.Equal(contents(v), before) {
			t.Errorf("an argument has changed: %s", short(v.Interface()))
		}
	}
}

// checkOwn checks that no two lists of a value, to which x points, share memory, also behind their ends.
func checkOwn(t *testing.T, x any) {
	t.Helper()
	owned := map[uintptr]bool{}
	lists(reflect.ValueOf(x).Elem(), func(l reflect.Value) {
		for i := range l.Len() {
			at := l.Index(i).Addr().Pointer()
			if owned[at] {
				t.Errorf("two lists share memory in %s", short(x))
			}
			owned[at] = true
		}
	})
}

// scribble overwrites the lists of a value, to which x points, and what is behind them.
func scribble(x any) {
	lists(reflect.ValueOf(x).Elem(), func(l reflect.Value) {
		for i := range l.Len() {
			l.Index(i).FieldByName("Name").SetString("scribbled")
		}
	})
}
