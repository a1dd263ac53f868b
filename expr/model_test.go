package expr

import (
	"fmt"
	"reflect"
	"slices"
	"strings"
	"testing"

	"colonnade/api"
	"colonnade/array"
	"colonnade/build"
	"colonnade/calc"
	"colonnade/cast"
	"colonnade/kind"
	"colonnade/value"
)

var null = api.Value{Null: true}

// fieldOf reads a field, as `a list(i int8)?`.
func fieldOf(t testing.TB, text string) api.Field {
	t.Helper()
	f, e, at := kind.ParseField(text)
	if e != api.OK {
		t.Fatalf("%s: %d at %d", text, e, at)
	}
	return f
}

// schemaOf reads a schema.
func schemaOf(t testing.TB, text string) api.Schema {
	t.Helper()
	s, e, at := kind.Parse(text)
	if e != api.OK {
		t.Fatalf("%s: %d at %d", text, e, at)
	}
	return s
}

// formOf is the build form of values.
func formOf(t testing.TB, f api.Field, l []api.Value) api.Data {
	t.Helper()
	d, e, at := build.Of(f, l)
	if e != api.OK {
		t.Fatalf("Of: %d at %d", e, at)
	}
	return d
}

// valuesOf reads values, as `1 null 3`.
func valuesOf(t testing.TB, f api.Field, texts string) []api.Value {
	t.Helper()
	var l []api.Value
	for _, s := range strings.Fields(texts) {
		v, e, at := value.Parse(f, s)
		if e != api.OK {
			t.Fatalf("%s: %d at %d", s, e, at)
		}
		l = append(l, v)
	}
	return l
}

// batchOf is the batch whose columns have such values.
func batchOf(t testing.TB, s api.Schema, columns ...string) api.Batch {
	t.Helper()
	var b api.Batch
	for k, texts := range columns {
		l := valuesOf(t, s.Fields[k], texts)
		b.Rows = len(l)
		b.Columns = append(b.Columns, formOf(t, s.Fields[k], l))
	}
	return b
}

// parsed reads an expression.
func parsed(t testing.TB, text string) api.Expr {
	t.Helper()
	e, x, at := Parse(text)
	if x != api.OK {
		t.Fatalf("Parse(%s): %d at %d", text, x, at)
	}
	return e
}

// printed is an expression's text.
func printed(t testing.TB, e api.Expr) string {
	t.Helper()
	text, x := Print(e)
	if x != api.OK {
		t.Fatalf("Print: %d", x)
	}
	return text
}

// op makes a node of arguments.
func op(n int, args ...api.Expr) api.Expr { return api.Expr{Op: n, Args: args} }

// named makes a column.
func named(name string) api.Expr { return api.Expr{Op: api.OpColumn, Name: name} }

// lit makes a literal.
func lit(f api.Field, v api.Value) api.Expr { return api.Expr{Op: api.OpLiteral, Field: f, Value: v} }

// lies tells how an array lies: two that lie alike are told alike, lists without elements too.
func lies(d api.Data) string {
	s := fmt.Sprintf("%d+%d %d %x (", d.Offset, d.Length, d.Nulls, d.Buffers)
	for _, x := range append(append([]api.Data(nil), d.Children...), d.Dict...) {
		s += lies(x)
	}
	return fmt.Sprintf("%s %d %d)", s, len(d.Children), len(d.Dict))
}

// told tells a fault: two alike ones are told alike.
func told(x api.Fault) string { return fmt.Sprintf("%d %v at %d", int(x.Err), x.Path, x.At) }

// sameField tells whether two fields are the same in all, ones that may not be too.
func sameField(f, g api.Field) bool {
	s, t := f.Type, g.Type
	return f.Name == g.Name && f.Nullable == g.Nullable && s.Kind == t.Kind && s.Width == t.Width && s.ID == t.ID && s.Index == t.Index && slices.EqualFunc(s.Fields, t.Fields, sameField)
}

// sameExpr tells whether two expressions are the same in all.
func sameExpr(a, b api.Expr) bool {
	return a.Op == b.Op && a.Name == b.Name && sameField(a.Field, b.Field) && value.Same(a.Value, b.Value) && slices.EqualFunc(a.Args, b.Args, sameExpr)
}

// answer is what Eval answers.
type answer struct {
	d api.Data
	x api.Fault
}

func evalOf(s api.Schema, b api.Batch, e api.Expr) answer {
	d, x := Eval(s, b, e)
	return answer{d, x}
}

// same holds an answer of Eval against what it must be.
func same(t testing.TB, what string, got, want answer) {
	t.Helper()
	if told(got.x) != told(want.x) {
		t.Fatalf("%s: %s, not %s", what, told(got.x), told(want.x))
	}
	if got.x.Err != api.OK && !reflect.DeepEqual(got.d, api.Data{}) {
		t.Fatalf("%s: an array beside the error %d", what, got.x.Err)
	}
	if lies(got.d) != lies(want.d) {
		t.Fatalf("%s: %s, not %s", what, lies(got.d), lies(want.d))
	}
}

// spot is a node with the way to it.
type spot struct {
	e   api.Expr
	way []int
}

// above lists the nodes from above, with a pile of those that are still to be looked at; not more than one above MaxExprs.
func above(e api.Expr) []spot {
	var list []spot
	pile := []spot{{e, nil}}
	for len(pile) > 0 && len(list) <= api.MaxExprs {
		x := pile[len(pile)-1]
		pile = pile[:len(pile)-1]
		list = append(list, x)
		for k := min(len(x.e.Args), api.MaxExprs+1) - 1; k >= 0; k-- {
			pile = append(pile, spot{x.e.Args[k], append(slices.Clone(x.way), k)})
		}
	}
	return list
}

// within lists the nodes from within: from above it stands the other way round, each node's last argument first.
func within(e api.Expr) []spot {
	var list []spot
	pile := []spot{{e, nil}}
	for len(pile) > 0 {
		x := pile[len(pile)-1]
		pile = pile[:len(pile)-1]
		list = append(list, x)
		for k, a := range x.e.Args {
			pile = append(pile, spot{a, append(slices.Clone(x.way), k)})
		}
	}
	slices.Reverse(list)
	return list
}

// isOfTable tells whether a node is one of the chapter's table.
func isOfTable(e api.Expr) bool {
	fields := map[int]string{api.OpCast: "args field", api.OpColumn: "name", api.OpLiteral: "field value"}
	named, ok := fields[e.Op]
	if !ok && e.Op > 0 && e.Op < api.OpCast {
		named, ok = "args", true
	}
	zero := api.Expr{Op: e.Op}
	if strings.Contains(named, "args") {
		zero.Args = e.Args
	}
	if strings.Contains(named, "field") {
		zero.Field = e.Field
	}
	if strings.Contains(named, "value") {
		zero.Value = e.Value
	}
	if named == "name" {
		zero.Name = e.Name
		ok = kind.Check(api.Schema{Fields: []api.Field{{Name: e.Name, Nullable: true, Type: api.Type{Kind: api.Null}}}}).Err == api.OK
	}
	sizes := func(e api.Expr) [3]int { return [3]int{len(e.Args), len(e.Field.Type.Fields), len(e.Value.List)} }
	same := sizes(zero) == sizes(e) && zero.Name == e.Name && zero.Value.Num == e.Value.Num && zero.Value.Null == e.Value.Null && zero.Value.Text == e.Value.Text
	x, y := zero.Field, e.Field
	x.Type.Fields, y.Type.Fields = nil, nil
	return ok && same && reflect.DeepEqual(x, y)
}

// modelMayBe tells the fault of an expression that may not be.
func modelMayBe(e api.Expr) api.Fault {
	for i, x := range above(e) {
		if i == api.MaxExprs || !isOfTable(x.e) {
			return api.Fault{Err: api.ErrExpr, Path: x.way}
		}
	}
	return api.Fault{}
}

// modelNode tells the field of a node whose arguments have such fields, and what is wrong with it.
func modelNode(s api.Schema, e api.Expr, args []api.Field) (api.Field, api.Errno) {
	if e.Op == api.OpColumn {
		for _, f := range s.Fields {
			if f.Name == e.Name {
				return f, api.OK
			}
		}
		return api.Field{}, api.ErrColumn
	}
	if e.Op == api.OpLiteral || e.Op == api.OpCast {
		switch {
		case kind.CheckField(e.Field).Err != api.OK:
			return api.Field{}, api.ErrType
		case e.Op == api.OpLiteral && value.Fits(e.Field, e.Value) != api.OK:
			return api.Field{}, api.ErrValue
		case e.Op == api.OpCast && len(args) != 1:
			return api.Field{}, api.ErrArgs
		case e.Op == api.OpCast && !cast.Can(args[0], e.Field):
			return api.Field{}, api.ErrCast
		}
		return e.Field, api.OK
	}
	f, x := calc.Type(e.Op, args)
	if x != api.OK {
		return api.Field{}, api.ErrArgs
	}
	return f, api.OK
}

// modelFields tells the field of each node, by the way to it.
func modelFields(s api.Schema, e api.Expr) (map[string]api.Field, api.Fault) {
	if kind.Check(s).Err != api.OK {
		return nil, api.Fault{Err: api.ErrType}
	}
	if x := modelMayBe(e); x.Err != api.OK {
		return nil, x
	}
	fields := map[string]api.Field{}
	for _, x := range within(e) {
		var args []api.Field
		for k := range x.e.Args {
			args = append(args, fields[fmt.Sprint(append(slices.Clone(x.way), k))])
		}
		f, err := modelNode(s, x.e, args)
		if err != api.OK {
			return nil, api.Fault{Err: err, Path: x.way}
		}
		fields[fmt.Sprint(x.way)] = f
	}
	return fields, api.Fault{}
}

// modelType is Type by the chapter's words.
func modelType(s api.Schema, e api.Expr) (api.Field, api.Fault) {
	fields, x := modelFields(s, e)
	if x.Err != api.OK {
		return api.Field{}, x
	}
	return fields["[]"], x
}

// asking is one row that an expression is asked at.
type asking struct {
	fields map[string]api.Field
	row    map[string]api.Value // by the columns' names
	asked  *[]string            // the ways to the nodes that were asked, in their order
}

// ask tells a node's value, or the fault of the first one that refuses.
func (a asking) ask(e api.Expr, way []int) (v api.Value, x api.Fault) {
	f := a.fields[fmt.Sprint(way)]
	v, err, x := a.made(e, way, f)
	if x.Err != api.OK {
		return v, x
	}
	if a.asked != nil {
		*a.asked = append(*a.asked, fmt.Sprint(way))
	}
	if err == api.OK {
		_, err, _ = build.Of(f, []api.Value{v})
	}
	if err != api.OK {
		return api.Value{}, api.Fault{Err: err, Path: way}
	}
	return v, api.Fault{}
}

// made tells a node's value, or why there is none: an error of its own, or the fault of a node within.
func (a asking) made(e api.Expr, way []int, f api.Field) (v api.Value, err api.Errno, x api.Fault) {
	arg := func(k int) api.Value {
		if x.Err != api.OK {
			return api.Value{}
		}
		var w api.Value
		w, x = a.ask(e.Args[k], append(slices.Clone(way), k))
		return w
	}
	is := func(v api.Value, n int64) bool { return !v.Null && v.Num == n }
	switch e.Op {
	case api.OpColumn:
		return a.row[e.Name], api.OK, x
	case api.OpLiteral:
		return e.Value, api.OK, x
	case api.OpCast:
		from := arg(0)
		if x.Err == api.OK {
			v, err = cast.Value(a.fields[fmt.Sprint(append(slices.Clone(way), 0))], from, e.Field)
		}
		return v, err, x
	case api.OpIf:
		if c := arg(0); is(c, 1) {
			return arg(1), api.OK, x
		}
		return arg(2), api.OK, x
	case api.OpElse:
		if v = arg(0); v.Null {
			v = arg(1)
		}
		return v, api.OK, x
	case api.OpAnd, api.OpOr:
		by := map[int]int64{api.OpAnd: 0, api.OpOr: 1}[e.Op]
		if v = arg(0); is(v, by) {
			return v, api.OK, x
		}
		if w := arg(1); is(w, by) || w.Null {
			v = w
		}
		return v, api.OK, x
	}
	var args []api.Value
	for k := range e.Args {
		args = append(args, arg(k))
	}
	if x.Err == api.OK {
		v, err = a.calculated(e, way, f, args)
	}
	return v, err, x
}

// calculated tells what calc makes of values.
func (a asking) calculated(e api.Expr, way []int, f api.Field, args []api.Value) (api.Value, api.Errno) {
	var fields []api.Field
	var d []api.Data
	for k, v := range args {
		g := a.fields[fmt.Sprint(append(slices.Clone(way), k))]
		form, _, _ := build.Of(g, []api.Value{v})
		fields, d = append(fields, g), append(d, form)
	}
	form, err, _ := calc.Do(e.Op, fields, d)
	if err != api.OK {
		return api.Value{}, err
	}
	o, _ := array.Open(f, form)
	v, _ := o.Get(0)
	return v, api.OK
}

// modelEval is Eval by the chapter's words.
func modelEval(s api.Schema, b api.Batch, e api.Expr) answer {
	rows, err := build.Rows(s, b)
	if err != api.OK {
		return answer{x: api.Fault{Err: err}}
	}
	fields, x := modelFields(s, e)
	if x.Err != api.OK {
		return answer{x: x}
	}
	var list []api.Value
	for i, row := range rows {
		a := asking{fields: fields, row: map[string]api.Value{}}
		for k, f := range s.Fields {
			a.row[f.Name] = row[k]
		}
		v, x := a.ask(e, nil)
		if x.Err != api.OK {
			x.At = i
			return answer{x: x}
		}
		list = append(list, v)
	}
	d, err, at := build.Of(fields["[]"], list)
	return answer{d, api.Fault{Err: err, At: at}}
}

// modelFold is Fold by the chapter's words: each node is asked by itself as it stood, nothing in it being folded yet.
func modelFold(s api.Schema, e api.Expr) (api.Expr, api.Fault) {
	fields, x := modelFields(s, e)
	if x.Err != api.OK {
		return api.Expr{}, x
	}
	return modelFolded(asking{fields: fields}, e, nil), x
}

func modelFolded(a asking, e api.Expr, way []int) api.Expr {
	if len(modelColumns(e)) == 0 {
		if v, x := a.ask(e, way); x.Err == api.OK {
			return lit(a.fields[fmt.Sprint(way)], v)
		}
	}
	var args []api.Expr
	for k, x := range e.Args {
		args = append(args, modelFolded(a, x, append(slices.Clone(way), k)))
	}
	e.Args = args
	return e
}

// modelColumns is Columns by the chapter's words.
func modelColumns(e api.Expr) []string {
	var list []string
	if modelMayBe(e).Err != api.OK {
		return nil
	}
	for _, x := range above(e) {
		if x.e.Op == api.OpColumn && !slices.Contains(list, x.e.Name) {
			list = append(list, x.e.Name)
		}
	}
	return list
}
