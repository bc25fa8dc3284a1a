package cover

import (
	"iter"
	"slices"

	"damask/anew"
	"damask/api"
)

// row is a list of forms.
type row = list[api.Pat]

// matrix has columns of types, and rows of as many patterns.
type matrix struct {
	known *knowledge
	types *list[api.Type]
	rows  []*row
}

// part is what becomes of a matrix for the values that have one form in the first column.
type part struct {
	head  api.Pat // the form, without what is in it
	args  int     // how many columns are in the place of the first one
	known *knowledge
	types func() *list[api.Type] // which can be too large, and so are made for those parts alone that are looked at
}

func newRow(l []api.Pat) *row { return before(anew.Each(l, form), nil) }

// row returns what becomes of a row, if it can match values of the form.
func (p *part) row(r *row) (*row, bool) {
	switch f := &r.first; {
	case f.Op == api.PWild:
		return before(slices.Repeat([]api.Pat{*f}, p.args), r.rest), true
	case areAlike(f, &p.head):
		return before(anew.Each(f.Args, form), r.rest), true
	}
	return nil, false
}

func (p *part) of(m *matrix) *matrix { return &matrix{p.known, p.types(), chosen(m.rows, p.row)} }

// closed puts the form before what is missing in its part.
func (p *part) closed(missing *list[api.Pat]) *list[api.Pat] {
	head := p.head
	head.Args, missing = taken(missing, p.args)
	return &list[api.Pat]{head, missing}
}

// parts are those by which the values of the first column are told apart: its numbers or constructors decide, with those of one more row, if there is one.
func (m *matrix) parts(own ...*row) iter.Seq[part] {
	return func(yield func(part) bool) {
		forms := chosen(slices.Concat(m.rows, own), func(r *row) (api.Pat, bool) { return r.first, r.first.Op != api.PWild })
		if len(forms) == 0 {
			yield(m.others())
			return
		}
		t := m.known.normal(m.types.first)
		for i := range forms {
			m.known.mustFit(&forms[i], t)
		}
		if forms[0].Op == api.PInt {
			m.byNumbers(forms)(yield)
		} else {
			m.byConstructors(slices.Collect(m.known.possible(t)))(yield)
		}
	}
}

// others is the part of all values that no row asks for.
func (m *matrix) others() part { return part{head: wild(), known: m.known, types: m.rest} }

func (m *matrix) rest() *list[api.Type] { return m.types.rest }

func (m *matrix) byNumbers(forms []api.Pat) iter.Seq[part] {
	slices.SortFunc(forms, func(a, b api.Pat) int { return a.N - b.N }) // none is negative
	return func(yield func(part) bool) {
		for i, f := range forms {
			if i > 0 && f.N == forms[i-1].N {
				continue
			}
			if !yield(part{head: f, known: m.known, types: m.rest}) {
				return
			}
		}
		yield(m.others())
	}
}

func (m *matrix) byConstructors(possible []option) iter.Seq[part] {
	return func(yield func(part) bool) {
		for _, o := range possible {
			head := api.Pat{Op: api.PCon, S: o.con.Name}
			types := func() *list[api.Type] { return before(o.args(), m.types.rest) }
			if !yield(part{head, len(o.con.Args), o.known, types}) {
				return
			}
		}
	}
}

// missing returns the missing rows of a matrix.
func (m *matrix) missing() []*list[api.Pat] {
	m.known.look()
	if m.types == nil {
		if len(m.rows) > 0 {
			return nil
		}
		return []*list[api.Pat]{nil}
	}
	var found []*list[api.Pat]
	for p := range m.parts() {
		for _, l := range p.of(m).missing() {
			found = append(found, p.closed(l))
		}
	}
	return found
}

// isUseful reports whether a row matches something that no row of a matrix does.
func (m *matrix) isUseful(own *row) bool {
	m.known.look()
	if m.types == nil {
		return len(m.rows) == 0
	}
	for p := range m.parts(own) {
		if rest, ok := p.row(own); ok && p.of(m).isUseful(rest) {
			return true
		}
	}
	return false
}

// missing returns the rows that are missing among those that are not guarded.
func missing(k *knowledge, columns []api.Type, rows [][]api.Pat, guarded []bool) [][]api.Pat {
	m := &matrix{known: k, types: before(columns, nil)}
	for i := range rows {
		if !guarded[i] {
			m.rows = append(m.rows, newRow(rows[i]))
		}
	}
	found := m.missing()
	mustBeFew(len(found), api.MaxDecls, api.ErrFull)
	var made [][]api.Pat
	for _, l := range found {
		items, _ := taken(l, len(columns))
		made = append(made, items)
	}
	return made
}

// useless holds each row against those before it that are not guarded.
func useless(k *knowledge, columns []api.Type, rows [][]api.Pat, guarded []bool) []int {
	m := &matrix{known: k, types: before(columns, nil)}
	var l []int
	for i := range rows {
		own := newRow(rows[i])
		if !m.isUseful(own) {
			l = append(l, i)
		}
		if !guarded[i] {
			m.rows = append(m.rows, own)
		}
	}
	return l
}
