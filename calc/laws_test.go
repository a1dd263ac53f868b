package calc

import (
	"slices"
	"testing"

	"colonnade/api"
	"colonnade/value"
)

// pair makes two fields whose plain fields are of a type, and an array of each, both of one length.
func (c *chance) pair(t testing.TB, typ api.Type) ([]api.Field, []api.Data) {
	t.Helper()
	l := []api.Field{c.around("a", typ), c.around("b", typ)}
	return l, c.arrays(t, l, c.columns(l))
}

// turnedRound is a list the other way round.
func turnedRound[T any](l []T) []T { return []T{l[1], l[0]} }

// sameRows holds what two answers denote against each other: their fields may have other names.
func sameRows(t testing.TB, what string, a, b answer, op, other int, l, m []api.Field) {
	t.Helper()
	if a.e != b.e || a.at != b.at {
		t.Fatalf("%s: %d at %d, and %d at %d", what, a.e, a.at, b.e, b.at)
	}
	if a.e == api.OK && !slices.EqualFunc(denoted(t, op, l, a), denoted(t, other, m, b), value.Same) {
		t.Fatalf("%s: %v and %v", what, a, b)
	}
}

// P17.4: Add and Mul don't hang on the order of the two, whole numbers and others; And and Or neither.
func TestOrderOfTwo(t *testing.T) {
	c := newChance(11)
	for range 3000 {
		op := c.of([]int{api.OpAdd, api.OpMul, api.OpAnd, api.OpOr, api.OpEq, api.OpNe})
		l, d := c.pair(t, c.taken(op))
		sameRows(t, "turned round", doOf(op, l, d...), doOf(op, turnedRound(l), turnedRound(d)...), op, op, l, turnedRound(l))
	}
}

// P17.4: Sub of Add gives the first one back, where neither is refused.
func TestSubOfAdd(t *testing.T) {
	c := newChance(12)
	held := 0
	for range 6000 {
		l, d := c.pair(t, api.Type{Kind: c.of(wholes)})
		sum := doOf(api.OpAdd, l, d...)
		if sum.e != api.OK {
			continue
		}
		f, _ := Type(api.OpAdd, l)
		m := []api.Field{f, l[1]}
		back := doOf(api.OpSub, m, sum.d, d[1])
		if back.e != api.OK {
			t.Fatalf("Sub of Add: %d at %d", back.e, back.at)
		}
		first := denoted(t, api.OpElse, []api.Field{l[0], l[0]}, doOf(api.OpElse, []api.Field{l[0], l[0]}, d[0], d[0]))
		for i, v := range denoted(t, api.OpSub, m, back) {
			held++
			if !v.Null && !value.Same(v, first[i]) {
				t.Fatalf("Sub of Add: %v, not %v", v, first[i])
			}
		}
	}
	if held < 2000 {
		t.Errorf("only %d", held)
	}
}

// P17.4: Div times the divisor and Rem together are the dividend.
func TestDivAndRem(t *testing.T) {
	c := newChance(13)
	held := 0
	for range 6000 {
		l, d := c.pair(t, api.Type{Kind: c.of(wholes)})
		div, rem := doOf(api.OpDiv, l, d...), doOf(api.OpRem, l, d...)
		if rem.e == api.ErrZero && div.e == api.OK || rem.e == api.ErrOverflow {
			t.Fatalf("Div %d, Rem %d", div.e, rem.e)
		}
		if div.e != api.OK {
			continue
		}
		f, _ := Type(api.OpDiv, l)
		times := doOf(api.OpMul, []api.Field{f, l[1]}, div.d, d[1])
		g, _ := Type(api.OpMul, []api.Field{f, l[1]})
		all := doOf(api.OpAdd, []api.Field{g, f}, times.d, rem.d)
		if times.e != api.OK || all.e != api.OK {
			t.Fatalf("Mul %d, Add %d", times.e, all.e)
		}
		first := denoted(t, api.OpElse, []api.Field{l[0], l[0]}, doOf(api.OpElse, []api.Field{l[0], l[0]}, d[0], d[0]))
		for i, v := range denoted(t, api.OpAdd, []api.Field{g, f}, all) {
			held++
			if !v.Null && !value.Same(v, first[i]) {
				t.Fatalf("together %v, not %v", v, first[i])
			}
		}
	}
	if held < 2000 {
		t.Errorf("only %d", held)
	}
}

// P17.4: Lt of two is Gt of the two the other way round, Le Ge; and each comparison is the Not of another one.
func TestComparisonsTurned(t *testing.T) {
	c := newChance(14)
	round := map[int]int{api.OpLt: api.OpGt, api.OpLe: api.OpGe, api.OpGt: api.OpLt, api.OpGe: api.OpLe, api.OpEq: api.OpEq, api.OpNe: api.OpNe}
	not := map[int]int{api.OpLt: api.OpGe, api.OpLe: api.OpGt, api.OpGt: api.OpLe, api.OpGe: api.OpLt, api.OpEq: api.OpNe, api.OpNe: api.OpEq}
	for range 3000 {
		op := c.of(compares)
		l, d := c.pair(t, c.taken(op))
		got := doOf(op, l, d...)
		sameRows(t, "turned round", got, doOf(round[op], turnedRound(l), turnedRound(d)...), op, round[op], l, turnedRound(l))
		f, _ := Type(not[op], l)
		m := []api.Field{f}
		sameRows(t, "the Not of another one", got, doOf(api.OpNot, m, doOf(not[op], l, d...).d), op, api.OpNot, l, m)
	}
}

// P17.4: Not of And is Or of Nots, and the other way round.
func TestNotOfAnd(t *testing.T) {
	c := newChance(15)
	for range 1500 {
		l, d := c.pair(t, api.Type{Kind: api.Bool})
		a, o := api.OpAnd, api.OpOr
		if c.in(2) {
			a, o = o, a
		}
		f, _ := Type(a, l)
		left := doOf(api.OpNot, []api.Field{f}, doOf(a, l, d...).d)
		x, y := doOf(api.OpNot, l[:1], d[0]), doOf(api.OpNot, l[1:], d[1])
		g, _ := Type(api.OpNot, l[:1])
		h, _ := Type(api.OpNot, l[1:])
		same(t, "Not of And", left, doOf(o, []api.Field{g, h}, x.d, y.d))
	}
}

// P17.4: Else of the same two is the first one, and If of the same two, whatever the condition is.
func TestElseOfTheSame(t *testing.T) {
	c := newChance(16)
	for range 3000 {
		f := c.around("a", c.taken(api.OpElse))
		l := []api.Field{f, f}
		if modelError(api.OpElse, l) != api.OK {
			continue
		}
		column := c.column(f, c.Intn(6))
		d, other := c.anyhow(t, f, column), c.anyhow(t, f, column)
		got := doOf(api.OpElse, l, d, other)
		if got.e != api.OK || !slices.EqualFunc(denoted(t, api.OpElse, l, got), column, value.Same) {
			t.Fatalf("Else: %v, not %v", got, column)
		}
		on := c.around("a", api.Type{Kind: api.Bool})
		same(t, "If", doOf(api.OpIf, append([]api.Field{on}, l...), c.anyhow(t, on, c.column(on, len(column))), d, other), got)
	}
}
