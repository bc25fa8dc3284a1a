package decl

import (
	"reflect"
	"strings"
)

// changed returns a value in new memory, with other strings in it.
func changed[T any](v T, change func(string) string) T {
	return changedValue(reflect.ValueOf(v), change).Interface().(T)
}

// strip leaves out the name of the module in all names.
func strip[T any](v T) T {
	return changed(v, func(s string) string { return strings.Replace(s, "M.", "", 1) })
}

func changedValue(v reflect.Value, change func(string) string) reflect.Value {
	c := reflect.New(v.Type()).Elem()
	switch v.Kind() {
	case reflect.Struct:
		for i := range v.NumField() {
			c.Field(i).Set(changedValue(v.Field(i), change))
		}
	case reflect.Slice:
		if v.IsNil() {
			return c
		}
		c.Set(reflect.MakeSlice(v.Type(), v.Len(), v.Len()))
		for i := range v.Len() {
			c.Index(i).Set(changedValue(v.Index(i), change))
		}
	case reflect.String:
		c.SetString(change(v.String()))
	default:
		c.Set(v)
	}
	return c
}

// spoil changes all strings of a value, each once: what is there twice would be changed already.
func spoil(v reflect.Value) {
	switch v.Kind() {
	case reflect.Struct:
		for i := range v.NumField() {
			spoil(v.Field(i))
		}
	case reflect.Slice:
		for i := range v.Len() {
			spoil(v.Index(i))
		}
	case reflect.String:
		if strings.HasPrefix(v.String(), "?") {
			panic("memory is shared within a result")
		}
		v.SetString("?" + v.String())
	}
}
