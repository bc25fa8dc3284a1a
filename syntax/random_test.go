package syntax

import (
	"math/rand"
	"reflect"
	"testing"

	"damask/api"
	"damask/internal/sample"
	"damask/lexis"
)

// maker makes random parts that are well built, and changes them.
type maker struct {
	*rand.Rand
	sample.Maker
}

func newMaker(seed int64) maker {
	random := rand.New(rand.NewSource(seed))
	return maker{random, sample.Maker{Choose: random.Intn}}
}

// places collects what can be changed in a value.
func places(v reflect.Value, found *[]reflect.Value) {
	switch v.Kind() {
	case reflect.Struct:
		for i := range v.NumField() {
			places(v.Field(i), found)
		}
	case reflect.Slice:
		*found = append(*found, v)
		for i := range v.Len() {
			places(v.Index(i), found)
		}
	default:
		*found = append(*found, v)
	}
}

// change changes one thing in a value.
func (m maker) change(v reflect.Value) {
	var l []reflect.Value
	places(v, &l)
	p := l[m.Intn(len(l))]
	switch p.Kind() {
	case reflect.String:
		p.SetString(m.One("", "x", "A", "+", "'A", "->", "~", "let", "'", "''A", "_", "1", "infix", "A long name", "averylongnameqqqqq", "--"))
	case reflect.Int:
		p.SetInt(int64(m.Intn(18) - 2))
	case reflect.Bool:
		p.SetBool(!p.Bool())
	case reflect.Slice:
		n := p.Len()
		switch r := m.Intn(4); {
		case n > 0 && r == 0:
			p.Set(p.Slice(0, n-1))
		case n > 0 && r == 1:
			p.Set(reflect.Append(p.Slice3(0, n, n), p.Index(m.Intn(n))))
		case n > 1 && r == 2:
			p.Set(p.Slice(1, n))
		default:
			p.Set(reflect.Append(p.Slice3(0, n, n), reflect.Zero(p.Type().Elem())))
		}
	}
}

// TestWellBuilt holds Check against the reader: a module is well built just if its text is read as it is.
func TestWellBuilt(t *testing.T) {
	m := newMaker(3)
	count := map[api.Errno]int{}
	for i := range 3 * rounds {
		x := m.Module()
		if i%3 > 0 {
			m.change(reflect.ValueOf(&x).Elem())
		}
		text := moduleText(x)
		l, at, e := Modules(text)
		if e == api.ErrFull {
			continue
		}
		got := Check(x)
		count[got]++
		again := e == api.OK && len(l) == 1 && Same(l[0], x)
		if i%3 == 0 && got != api.OK || again != (got == api.OK) {
			t.Fatalf("%v, read %d %v\n%s\n%+v", got, at, e, text, x)
		}
	}
	if count[api.OK] < rounds || count[api.ErrArg] < rounds/2 || count[api.ErrFull] > 0 {
		t.Error("modules are too much alike:", count)
	}
}

// TestChanged holds Same against a deep comparison.
func TestChanged(t *testing.T) {
	m := newMaker(4)
	for range 300 {
		seed := m.Int63()
		x, y := newMaker(seed).Module(), newMaker(seed).Module()
		if !Same(x, y) {
			t.Fatal("not the same:", moduleText(x))
		}
		before := moduleText(y)
		m.change(reflect.ValueOf(&y).Elem())
		if Same(x, y) != reflect.DeepEqual(x, y) || Same(y, x) != Same(x, y) {
			t.Fatalf("%+v\n%+v", x, y)
		}
		if moduleText(x) != before {
			t.Fatal("memory is shared")
		}
	}
}

// TestBlanks holds the second part of P2.3 against modules: what stands between tokens does not matter.
func TestBlanks(t *testing.T) {
	m := newMaker(5)
	for range 300 {
		text := moduleText(m.Module())
		tokens, _, _ := lexis.Tokens(text)
		spread := ""
		for _, x := range tokens {
			spread += x.Text
			if x.Text != "'" { // which stands directly before its name
				spread += m.One(" ", "\n", "\t\r ", " -- } ; \"\n", " --\n\n")
			}
		}
		l, _, e := Modules(text)
		l2, _, e2 := Modules(spread)
		if len(spread) > api.MaxSource || e != api.OK {
			continue
		}
		if e2 != api.OK || len(l2) != 1 || !Same(l[0], l2[0]) {
			t.Fatal(text, spread)
		}
	}
}
