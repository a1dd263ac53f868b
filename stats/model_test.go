package stats

import (
	"encoding/binary"
	"fmt"
	"math/big"
	"slices"
	"strings"
	"testing"

	"colonnade/api"
	"colonnade/array"
	"colonnade/build"
	"colonnade/expr"
	"colonnade/kind"
	"colonnade/value"
)

var null = api.Value{Null: true}

func num(n int64) api.Value { return api.Value{Num: n} }

func text(s string) api.Value { return api.Value{Text: s} }

// fieldOf reads a field, as `a list(i int8)?`.
func fieldOf(t testing.TB, text string) api.Field {
	t.Helper()
	f, e, at := kind.ParseField(text)
	if e != api.OK {
		t.Fatalf("%s: %d at %d", text, e, at)
	}
	return f
}

// schemaOf reads a schema.
func schemaOf(t testing.TB, text string) api.Schema {
	t.Helper()
	s, e, at := kind.Parse(text)
	if e != api.OK {
		t.Fatalf("%s: %d at %d", text, e, at)
	}
	return s
}

// exprOf reads an expression.
func exprOf(t testing.TB, text string) api.Expr {
	t.Helper()
	e, x, at := expr.Parse(text)
	if x != api.OK {
		t.Fatalf("%s: %d at %d", text, x, at)
	}
	return e
}

// formOf is the build form of values.
func formOf(t testing.TB, f api.Field, l []api.Value) api.Data {
	t.Helper()
	d, e, at := build.Of(f, l)
	if e != api.OK {
		t.Fatalf("build.Of: %d at %d", e, at)
	}
	return d
}

// statOfValues is what Of tells of the build form of values.
func statOfValues(t testing.TB, f api.Field, l ...api.Value) api.Stat {
	t.Helper()
	x, e := Of(f, formOf(t, f, l))
	if e != api.OK {
		t.Fatalf("Of: %d", e)
	}
	return x
}

// op makes a node of arguments.
func op(n int, args ...api.Expr) api.Expr { return api.Expr{Op: n, Args: args} }

// named makes a column.
func named(name string) api.Expr { return api.Expr{Op: api.OpColumn, Name: name} }

// lit makes a literal.
func lit(f api.Field, v api.Value) api.Expr { return api.Expr{Op: api.OpLiteral, Field: f, Value: v} }

// told tells a stat: two alike ones are told alike.
func told(x api.Stat) string {
	s := fmt.Sprintf("%d rows, %d nulls", x.Rows, x.Nulls)
	if x.Has || !value.Same(x.Least, api.Value{}) || !value.Same(x.Most, api.Value{}) {
		s += fmt.Sprintf(", %v: %v %d %q %v to %v %d %q %v", x.Has, x.Least.Null, x.Least.Num, x.Least.Text, x.Least.List, x.Most.Null, x.Most.Num, x.Most.Text, x.Most.List)
	}
	return s
}

// same holds a stat and an error against what they must be.
func same(t testing.TB, what string, x api.Stat, e api.Errno, want api.Stat, err api.Errno) {
	t.Helper()
	if e != err || told(x) != told(want) {
		t.Fatalf("%s: %s, %d, not %s, %d", what, told(x), int(e), told(want), int(err))
	}
}

// plain is a field's plain field.
func plain(f api.Field) api.Field {
	switch f.Type.Kind {
	case api.Dict:
		g := f.Type.Fields[0]
		g.Nullable = f.Nullable
		return plain(g)
	case api.Runs:
		return plain(f.Type.Fields[0])
	}
	return f
}

// boundedKinds are those of which the chapter says so.
var boundedKinds = []int{api.Bool, api.Int8, api.Int16, api.Int32, api.Int64, api.Uint8, api.Uint16, api.Uint32, api.Uint64, api.Float64, api.Text, api.Bytes, api.Fixed}

// isBounded tells whether the plain kind of a field has bounds.
func isBounded(f api.Field) bool { return slices.Contains(boundedKinds, plain(f).Type.Kind) }

// isLetters tells whether a kind's values are texts.
func isLetters(k int) bool { return k >= api.Text && k <= api.Fixed }

// place is where a number, or the bits of one, stands in the order of its kind, as a number of any size.
func place(k int, n int64) *big.Int {
	switch k {
	case api.Uint64:
		return new(big.Int).SetUint64(uint64(n))
	case api.Float64:
		size := new(big.Int).SetUint64(uint64(n) << 1 >> 1)
		if uint64(n)>>63 == 1 { // behind it, as -0 stands ahead of 0
			return size.Neg(size.Add(size, big.NewInt(1)))
		}
		return size
	}
	return big.NewInt(n)
}

// inOrder tells which of two values of a kind that has bounds stands ahead.
func inOrder(k int, a, b api.Value) int {
	if isLetters(k) {
		return strings.Compare(a.Text, b.Text)
	}
	return place(k, a.Num).Cmp(place(k, b.Num))
}

// isNumberOf tells whether a kind has a number.
func isNumberOf(k int, n int64) bool {
	from, to := map[int]int64{api.Int8: -128, api.Int16: -32768, api.Int32: -2147483648}, map[int]int64{
		api.Bool: 1, api.Int8: 127, api.Int16: 32767, api.Int32: 2147483647, api.Uint8: 255, api.Uint16: 65535, api.Uint32: 4294967295,
	}
	most, ok := to[k]
	return !ok || n >= from[k] && n <= most
}

// modelIsStat tells by the chapter's words whether a stat is one of a field that may be.
func modelIsStat(f api.Field, x api.Stat) bool {
	if x.Rows < 0 || x.Rows > 1048576 || x.Nulls < 0 || x.Nulls > x.Rows {
		return false
	}
	k := plain(f).Type.Kind
	for _, v := range []api.Value{x.Least, x.Most} {
		zero := !v.Null && v.Num == 0 && v.Text == "" && len(v.List) == 0
		switch {
		case !x.Has:
			if !zero {
				return false
			}
		case v.Null || len(v.List) > 0:
			return false
		case isLetters(k):
			if v.Num != 0 || len(v.Text) > 16 {
				return false
			}
		default:
			if v.Text != "" || !isNumberOf(k, v.Num) {
				return false
			}
		}
	}
	return !x.Has || isBounded(f) && x.Nulls < x.Rows && inOrder(k, x.Least, x.Most) <= 0
}

// modelOf is Of by the chapter's words, of the values that are denoted.
func modelOf(f api.Field, l []api.Value) api.Stat {
	x := api.Stat{Rows: len(l)}
	k := plain(f).Type.Kind
	var some []api.Value
	for _, v := range l {
		if v.Null {
			x.Nulls++
		} else {
			some = append(some, v)
		}
	}
	if !isBounded(f) || len(some) == 0 {
		return x
	}
	slices.SortFunc(some, func(a, b api.Value) int { return inOrder(k, a, b) })
	least, most := some[0], some[len(some)-1]
	if len(least.Text) > 16 {
		least.Text = least.Text[:16]
	}
	if len(most.Text) > 16 {
		n := 16
		for n > 0 && most.Text[n-1] == 255 {
			n--
		}
		if n == 0 {
			return x
		}
		most.Text = most.Text[:n-1] + string([]byte{most.Text[n-1] + 1})
	}
	x.Has, x.Least, x.Most = true, least, most
	return x
}

// modelMerge is Merge by the chapter's words.
func modelMerge(f api.Field, a, b api.Stat) (api.Stat, api.Errno) {
	switch {
	case kind.CheckField(f).Err != api.OK:
		return api.Stat{}, api.ErrType
	case !modelIsStat(f, a) || !modelIsStat(f, b):
		return api.Stat{}, api.ErrValue
	case a.Rows+b.Rows > 1048576:
		return api.Stat{}, api.ErrRows
	}
	x := api.Stat{}
	switch k := plain(f).Type.Kind; {
	case a.Rows == a.Nulls:
		x = b
	case b.Rows == b.Nulls:
		x = a
	case a.Has && b.Has:
		x = a
		if inOrder(k, b.Least, a.Least) < 0 {
			x.Least = b.Least
		}
		if inOrder(k, b.Most, a.Most) > 0 {
			x.Most = b.Most
		}
	}
	x.Rows, x.Nulls = a.Rows+b.Rows, a.Nulls+b.Nulls
	return x, api.OK
}

// modelWrong tells by the chapter's words what is wrong with the stats of a schema.
func modelWrong(s api.Schema, l []api.Stat) api.Errno {
	if kind.Check(s).Err != api.OK {
		return api.ErrType
	}
	if len(l) != len(s.Fields) {
		return api.ErrUnlike
	}
	for i, f := range s.Fields {
		if !modelIsStat(f, l[i]) {
			return api.ErrValue
		}
	}
	return api.OK
}

// modelPut is Put by the chapter's words.
func modelPut(s api.Schema, l []api.Stat) ([]byte, api.Errno) {
	if e := modelWrong(s, l); e != api.OK {
		return nil, e
	}
	var b []byte
	for i, x := range l {
		b = binary.LittleEndian.AppendUint32(b, uint32(x.Rows))
		b = binary.LittleEndian.AppendUint32(b, uint32(x.Nulls))
		if !x.Has {
			b = append(b, 0)
			continue
		}
		b = append(b, 1)
		for _, v := range []api.Value{x.Least, x.Most} {
			if isLetters(plain(s.Fields[i]).Type.Kind) {
				b = append(append(b, byte(len(v.Text))), v.Text...)
			} else {
				b = binary.LittleEndian.AppendUint64(b, uint64(v.Num))
			}
		}
	}
	return b, api.OK
}

// The outcomes of an expression, by their names.
type outcomeSet map[string]int

// comes tells a set of outcomes.
func comes(names ...string) outcomeSet {
	o := outcomeSet{}
	for _, n := range names {
		o[n]++
	}
	return o
}

// nameOf is the name of a value of Bool.
func nameOf(v api.Value) string {
	switch {
	case v.Null:
		return "null"
	case v.Num == 1:
		return "true"
	}
	return "false"
}

// model is what May is asked.
type model struct {
	s api.Schema
	l []api.Stat
}

// column tells a column's field and stat.
func (m model) column(e api.Expr) (api.Field, api.Stat) {
	for i, f := range m.s.Fields {
		if f.Name == e.Name {
			return f, m.l[i]
		}
	}
	panic("no such column")
}

// sure tells whether all of an expression is known never to be refused.
func (m model) sure(e api.Expr) bool {
	sure := e.Op >= api.OpEq && e.Op <= api.OpIsNull || e.Op == api.OpColumn || e.Op == api.OpLiteral
	if e.Op == api.OpColumn {
		f, _ := m.column(e)
		sure = isBounded(f)
	}
	if e.Op == api.OpLiteral {
		_, err, _ := build.Of(e.Field, []api.Value{e.Value})
		sure = err == api.OK
	}
	return sure && !slices.ContainsFunc(e.Args, func(a api.Expr) bool { return !m.sure(a) })
}

// outcomes tells those of an expression of Bool, by the chapter's table.
func (m model) outcomes(e api.Expr) outcomeSet {
	ops := ""
	for _, a := range e.Args {
		ops += map[int]string{api.OpColumn: "c", api.OpLiteral: "l"}[a.Op]
	}
	switch {
	case e.Op == api.OpLiteral:
		return comes(nameOf(e.Value))
	case e.Op == api.OpColumn:
		return m.truth(e)
	case e.Op == api.OpIsNull && ops == "c":
		_, x := m.column(e.Args[0])
		o := comes()
		if x.Nulls > 0 {
			o["true"]++
		}
		if x.Nulls < x.Rows {
			o["false"]++
		}
		return o
	case e.Op == api.OpIsNull && ops == "l":
		return comes(fmt.Sprint(e.Args[0].Value.Null))
	case e.Op <= api.OpGe && ops == "cl":
		return m.held(e.Op, e.Args[0], e.Args[1].Value, 1)
	case e.Op <= api.OpGe && ops == "lc":
		return m.held(e.Op, e.Args[1], e.Args[0].Value, -1)
	case e.Op <= api.OpGe && ops == "ll":
		return m.literals(e)
	case e.Op == api.OpAnd || e.Op == api.OpOr || e.Op == api.OpNot:
		return m.logic(e)
	}
	return comes("true", "false", "null")
}

// truth tells the outcomes of a column of Bool.
func (m model) truth(e api.Expr) outcomeSet {
	_, x := m.column(e)
	o := comes()
	if x.Nulls > 0 {
		o["null"]++
	}
	for n := int64(0); n < 2 && x.Nulls < x.Rows; n++ {
		if !x.Has || x.Least.Num <= n && n <= x.Most.Num {
			o[nameOf(num(n))]++
		}
	}
	return o
}

// held tells the outcomes of a column held against a literal: what comes of the bounds, and of the literal itself, if it lies between. The other way round: turn is -1.
func (m model) held(n int, column api.Expr, c api.Value, turn int) outcomeSet {
	f, x := m.column(column)
	if c.Null {
		return comes("null")
	}
	o := comes()
	if x.Nulls > 0 {
		o["null"]++
	}
	if x.Nulls == x.Rows {
		return o
	}
	if !x.Has {
		o["true"]++
		o["false"]++
		return o
	}
	k := plain(f).Type.Kind
	values := []api.Value{x.Least, x.Most}
	if inOrder(k, x.Least, c) <= 0 && inOrder(k, c, x.Most) <= 0 {
		values = append(values, c)
	}
	for _, v := range values {
		o[fmt.Sprint(isSo(n, turn*inOrder(k, v, c)))]++
	}
	return o
}

// isSo tells whether a comparison is true of two values of which the first one stands so to the second one.
func isSo(n, c int) bool {
	return map[int][]bool{
		api.OpEq: {false, true, false}, api.OpNe: {true, false, true},
		api.OpLt: {true, false, false}, api.OpLe: {true, true, false},
		api.OpGt: {false, false, true}, api.OpGe: {false, true, true},
	}[n][c+1]
}

// literals tells the outcome of an expression that asks no column.
func (m model) literals(e api.Expr) outcomeSet {
	f, _ := expr.Type(api.Schema{}, e)
	d, x := expr.Eval(api.Schema{}, api.Batch{Rows: 1}, e)
	a, y := array.Open(f, d)
	if x.Err != api.OK || y.Err != api.OK {
		panic("literals that are refused")
	}
	v, _ := a.Get(0)
	return comes(nameOf(v))
}

// logic tells the outcomes of OpAnd, OpOr, OpNot, by those of the arguments.
func (m model) logic(e api.Expr) outcomeSet {
	o := comes()
	if e.Op == api.OpNot {
		for x := range m.outcomes(e.Args[0]) {
			o[map[string]string{"true": "false", "false": "true", "null": "null"}[x]]++
		}
		return o
	}
	by := map[int]string{api.OpAnd: "false", api.OpOr: "true"}[e.Op]
	for x := range m.outcomes(e.Args[0]) {
		for y := range m.outcomes(e.Args[1]) {
			switch {
			case x == by || y == by:
				o[by]++
			case x == "null" || y == "null":
				o["null"]++
			default:
				o[x]++ // both are the other one
			}
		}
	}
	return o
}

// modelMay is May by the chapter's words.
func modelMay(s api.Schema, e api.Expr, l []api.Stat) (bool, api.Errno) {
	if err := modelWrong(s, l); err != api.OK {
		return false, err
	}
	f, x := expr.Type(s, e)
	if x.Err != api.OK {
		return false, x.Err
	}
	if plain(f).Type.Kind != api.Bool {
		return false, api.ErrType
	}
	for _, x := range l {
		if x.Rows == 0 {
			return false, api.OK
		}
	}
	m := model{s, l}
	return !m.sure(e) || m.outcomes(e)["true"] > 0, api.OK
}
