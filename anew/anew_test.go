package anew

import (
	"reflect"
	"strconv"
	"testing"

	"damask/api"
)

// fill gives every field of a value something of its own, with two items in every list, so many levels deep.
func fill(v reflect.Value, depth int, made *int) {
	*made++
	switch v.Kind() {
	case reflect.Int:
		v.SetInt(int64(*made))
	case reflect.String:
		v.SetString("s" + strconv.Itoa(*made))
	case reflect.Bool:
		v.SetBool(true)
	case reflect.Struct:
		for i := range v.NumField() {
			fill(v.Field(i), depth, made)
		}
	case reflect.Slice:
		if depth > 0 {
			v.Set(reflect.MakeSlice(v.Type(), 2, 2))
			for i := range 2 {
				fill(v.Index(i), depth-1, made)
			}
		}
	}
}

// spoil sets all strings and numbers to zero.
func spoil(v reflect.Value) {
	switch v.Kind() {
	case reflect.Struct:
		for i := range v.NumField() {
			spoil(v.Field(i))
		}
	case reflect.Slice:
		for i := range v.Len() {
			spoil(v.Index(i))
		}
	default:
		v.SetZero()
	}
}

// check copies a value that has something in every field, spoils the copy, and looks at the value again.
func check[T any](t *testing.T, depth int, anew func(*T) T) {
	t.Helper()
	var v, again T
	made := 0
	fill(reflect.ValueOf(&v).Elem(), depth, &made)
	made = 0
	fill(reflect.ValueOf(&again).Elem(), depth, &made)
	c := anew(&v)
	if !reflect.DeepEqual(c, v) {
		t.Errorf("another %T", v)
	}
	spoil(reflect.ValueOf(&c).Elem())
	if !reflect.DeepEqual(v, again) {
		t.Errorf("memory of a %T is shared", v)
	}
	var zero T
	if !reflect.DeepEqual(anew(&zero), zero) {
		t.Errorf("of nothing there is a %T", v)
	}
}

func TestAnew(t *testing.T) {
	check(t, 3, Type)
	check(t, 4, Program)
	check(t, 4, Env)
	check(t, 3, DataCon)
	check(t, 4, Problem)
	check(t, 4, func(d *api.Decl) api.Decl { return Decls([]api.Decl{*d})[0] })
	check(t, 3, func(l *[]api.Type) []api.Type { return Types(*l) })
}
