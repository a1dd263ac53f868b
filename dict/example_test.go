package dict

import (
	"testing"

	"colonnade/api"
	"colonnade/array"
)

// example is the schema of the chapter's examples.
const example = "a dict(3, int8, v text), b list(i dict(1, uint8, w int64)?)"

// tells holds a Tell of texts against what it must answer.
func tells(t *testing.T, b *Book, l []string, delta bool, want []string, how int, places ...int) {
	t.Helper()
	d, h, p, e := b.Tell(3, texts(l...), delta)
	if e != api.OK || h != how || !sameInts(p, places) {
		t.Errorf("Tell(3, %q, %v): %d, %v, %d", l, delta, h, p, e)
	}
	if w := formed(t, fieldOf(t, b, 3), texts(want...)); !sameData(d, w) {
		t.Errorf("Tell(3, %q, %v) tells %v, not %v", l, delta, d, w)
	}
}

func TestExampleOne(t *testing.T) {
	b := opened(t, example)
	if l := b.IDs(); !sameInts(l, []int{1, 3}) {
		t.Errorf("IDs: %v", l)
	}
	if f, e := b.Field(3); e != api.OK || f.Name != "v" || f.Type.Kind != api.Text {
		t.Errorf("Field(3): %v, %d", f, e)
	}
	if f, e := b.Field(1); e != api.OK || f.Name != "w" || f.Nullable || f.Type.Kind != api.Int64 {
		t.Errorf("Field(1): %v, %d", f, e)
	}
	if _, e := b.Field(2); e != api.ErrID {
		t.Errorf("Field(2): %d", e)
	}
	if _, e := b.Get(3); e != api.ErrNoDict {
		t.Errorf("Get(3): %d", e)
	}
	if b.Len(3) != -1 || b.Len(2) != -1 {
		t.Errorf("Len: %d, %d", b.Len(3), b.Len(2))
	}
	if e := b.Grow(3, formed(t, fieldOf(t, b, 3), texts("a"))); e != api.ErrNoDict {
		t.Errorf("Grow: %d", e)
	}
	tells(t, b, nil, true, nil, Anew)
	if b.Len(3) != 0 {
		t.Errorf("Len(3): %d", b.Len(3))
	}
	if d, e := b.Get(3); e != api.OK || !sameData(d, formed(t, fieldOf(t, b, 3), nil)) {
		t.Errorf("Get(3): %v, %d", d, e)
	}
}

func TestExampleTwo(t *testing.T) {
	b := opened(t, example)
	tells(t, b, nil, true, nil, Anew)
	tells(t, b, []string{"b", "a", "b"}, true, []string{"b", "a"}, New, 0, 1, 0)
	tells(t, b, []string{"a"}, true, nil, Nothing, 1)
	tells(t, b, []string{"c", "a"}, false, []string{"b", "a", "c"}, Anew, 2, 1)
	if e := b.Replace(3, formed(t, fieldOf(t, b, 3), texts("x", "b", "x"))); e != api.OK || b.Len(3) != 3 {
		t.Errorf("Replace: %d, Len %d", e, b.Len(3))
	}
	tells(t, b, []string{"x", "b"}, true, nil, Nothing, 0, 1)
}

// numbered is so many unlike texts, from a number on.
func numbered(from, n int) []string {
	var l []string
	for i := range n {
		l = append(l, string([]rune{rune('a' + (from+i)%26), rune('a' + (from+i)/26)}))
	}
	return l
}

func TestExampleThree(t *testing.T) {
	b := opened(t, example)
	l := numbered(0, 128)
	tells(t, b, l, true, l, Anew, upTo(128)...)
	if d, how, p, e := b.Tell(3, texts(numbered(128, 129)...), true); e != api.ErrIndices || how != Nothing || p != nil || !isZero(d) || b.Len(3) != 128 {
		t.Errorf("129 unlike ones: %d, %v, %d", how, p, e)
	}
	two := []string{"more", l[0]}
	tells(t, b, two, true, two, Anew, 0, 1)
	if b.Len(3) != 2 {
		t.Errorf("Len(3): %d", b.Len(3))
	}
}

func TestExampleFour(t *testing.T) {
	b := opened(t, example)
	wide := formed(t, fieldOf(t, b, 1), from(0, 3))
	if e, want := b.Replace(3, wide), array.Check(fieldOf(t, b, 3), wide).Err; e != want || e == api.OK {
		t.Errorf("Replace: %d, not %d", e, want)
	}
	if e := b.Replace(2, wide); e != api.ErrID {
		t.Errorf("Replace(2): %d", e)
	}
	if _, _, _, e := b.Tell(1, texts("a"), true); e != api.ErrValue {
		t.Errorf("Tell(1): %d", e)
	}
	if l := b.Told(); len(l) != 0 {
		t.Errorf("Told: %v", l)
	}
}
