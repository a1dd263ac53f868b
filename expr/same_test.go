package expr

import (
	"fmt"
	"slices"
	"testing"

	"colonnade/api"
)

// P22.1, P22.2: Type and Eval answer as the chapter's words say; what Eval answers is an array of Type's field.
func TestEvalIsItsModel(t *testing.T) {
	c := newChance(2)
	seen := map[api.Errno]int{}
	for i := range 12000 {
		rows := 6
		if i%40 == 0 {
			rows = 200
		}
		s, b, e := c.asked(t, rows, 1+i%5)
		f, x := Type(s, e)
		g, want := modelType(s, e)
		if told(x) != told(want) || !sameField(f, g) {
			t.Fatalf("Type of %+v: %v, %s, not %v, %s", e, f, told(x), g, told(want))
		}
		w := modelEval(s, b, e)
		seen[w.x.Err]++
		same(t, text(e), evalOf(s, b, e), w)
	}
	for _, e := range []api.Errno{api.OK, api.ErrExpr, api.ErrColumn, api.ErrType, api.ErrValue, api.ErrArgs, api.ErrLost, api.ErrOverflow, api.ErrZero} {
		if seen[e] < 20 {
			t.Errorf("the error %d came only %d times", e, seen[e])
		}
	}
}

// text tells an expression: its text, if it has one.
func text(e api.Expr) string {
	if text, x := modelPrint(e); x == api.OK {
		return text
	}
	return fmt.Sprintf("%+v", e)
}

// P22.3: Fold answers as the chapter's words say; the folded one has the same field, and makes the same of batches, or the same fault; it folds to itself.
func TestFoldIsItsModel(t *testing.T) {
	c := newChance(3)
	folded := 0
	for i := range 6000 {
		s, b, e := c.asked(t, 5, 1+i%5)
		got, x := Fold(s, e)
		want, y := modelFold(s, e)
		if told(x) != told(y) || !sameExpr(got, want) {
			t.Fatalf("Fold of %s: %s, %s, not %s, %s", text(e), text(got), told(x), text(want), told(y))
		}
		if x.Err != api.OK {
			continue
		}
		if !sameExpr(got, e) {
			folded++
		}
		f, _ := Type(s, e)
		if g, x := Type(s, got); x.Err != api.OK || !sameField(f, g) {
			t.Fatalf("Type of the folded %s: %v, %s, not %v", text(e), g, told(x), f)
		}
		same(t, "folded "+text(e), evalOf(s, b, got), evalOf(s, b, e))
		if again, x := Fold(s, got); x.Err != api.OK || !sameExpr(again, got) {
			t.Fatalf("Fold of the folded %s: %s, %s", text(e), text(again), told(x))
		}
	}
	if folded < 1000 {
		t.Errorf("only %d were folded", folded)
	}
}

// P22.1: Columns and Print answer as the chapter's words say.
func TestTextIsItsModel(t *testing.T) {
	c := newChance(4)
	seen := map[api.Errno]int{}
	for i := range 8000 {
		_, _, e := c.asked(t, 0, 1+i%5)
		if got, want := Columns(e), modelColumns(e); !slices.Equal(got, want) {
			t.Fatalf("Columns of %s: %v, not %v", text(e), got, want)
		}
		got, x := Print(e)
		want, y := modelPrint(e)
		if got != want || x != y {
			t.Fatalf("Print: %s, %d, not %s, %d", got, x, want, y)
		}
		seen[x]++
		if x != api.OK {
			continue
		}
		// P22.4.
		if again, x, at := Parse(got); x != api.OK || at != 0 || !sameExpr(again, e) {
			t.Fatalf("Parse of %s: %s, %d at %d", got, text(again), x, at)
		}
	}
	for _, e := range []api.Errno{api.OK, api.ErrExpr, api.ErrType, api.ErrValue} {
		if seen[e] < 30 {
			t.Errorf("the error %d came only %d times", e, seen[e])
		}
	}
}
