package build

import (
	"testing"

	"colonnade/api"
	"colonnade/value"
)

// madeOf makes the array of values, one by one.
func madeOf(t *testing.T, f api.Field, l []api.Value) api.Data {
	t.Helper()
	b, e := New(f)
	if e != api.OK {
		t.Fatalf("New: %d", e)
	}
	for i, v := range l {
		if e := b.Add(v); e != api.OK || b.Len() != i+1 {
			t.Fatalf("Add %d: %d, Len %d", i, e, b.Len())
		}
	}
	d, e := b.Done()
	if e != api.OK {
		t.Fatalf("Done: %d", e)
	}
	return d
}

// P9.3, P9.7: value by value it is the same array.
func TestBuilder(t *testing.T) {
	c := newChance(11)
	for range 2000 {
		f := c.field()
		l := c.values(f, c.Intn(12), 4)
		want, _ := modelForm(f, l)
		if d := madeOf(t, f, l); !modelSame(d, want) {
			t.Fatalf("%v: %s, not %s", f, printed(d), printed(want))
		}
	}
}

// P9.3: an end is an end.
func TestBuilderEnds(t *testing.T) {
	f := field(t, "int16")
	b, _ := New(f)
	if b.Len() != 0 {
		t.Errorf("Len of a new one: %d", b.Len())
	}
	if e := b.Add(num(7)); e != api.OK {
		t.Errorf("Add: %d", e)
	}
	if e := b.Add(num(40000)); e != api.ErrValue || b.Len() != 1 {
		t.Errorf("Add of a value that doesn't fit: %d, Len %d", e, b.Len())
	}
	d, e := b.Done()
	if e != api.OK || printed(d) != "1 / - ; 07 00" {
		t.Errorf("Done: %s, %d", printed(d), e)
	}
	for range 2 {
		if d, e := b.Done(); e != api.ErrEnded || !isZero(d) {
			t.Errorf("Done behind the end: %s, %d", printed(d), e)
		}
		for _, v := range []api.Value{num(1), num(40000), null} {
			if e := b.Add(v); e != api.ErrEnded {
				t.Errorf("Add behind the end: %d", e)
			}
		}
		if b.Len() != 1 {
			t.Errorf("Len behind the end: %d", b.Len())
		}
	}
	empty, _ := New(f)
	if d, e := empty.Done(); e != api.OK || printed(d) != "0 / - ; -" || empty.Len() != 0 {
		t.Errorf("Done without values: %s, %d", printed(d), e)
	}
}

// P9.3: a value that is refused leaves nothing behind, wherever in it the limit was met.
func TestRefused(t *testing.T) {
	c := newChance(12)
	refused := map[api.Errno]int{}
	for range 150 {
		f := c.field()
		size := []int{3, 30, 300, 3000, 20000}[c.Intn(5)]
		b, _ := New(f)
		s := newTally(f)
		var l []api.Value
		after := 0
		for n, weight := 0, 0; n < 600 && after < 40 && weight < 8000000; n++ {
			v := c.value(f, size)
			if after > 0 && c.Intn(2) == 0 {
				v = c.value(f, 3)
			}
			weight += modelWeight(v)
			e := api.Errno(api.ErrValue)
			if value.Fits(f, v) == api.OK {
				x := s.copy()
				if e = x.take(v); e == api.OK {
					s = x
					l = append(l, v)
				}
			}
			if got := b.Add(v); got != e || b.Len() != len(l) {
				t.Fatalf("%v: Add %d: %d, not %d; Len %d", f, n, got, e, b.Len())
			}
			if e != api.OK {
				refused[e]++
				after++
			}
		}
		d, e := b.Done()
		want, ok := modelForm(f, l)
		if e != api.OK || !ok || !modelSame(d, want) {
			t.Fatalf("%v: Done behind refused values: %d", f, e)
		}
	}
	for _, e := range []api.Errno{api.ErrRows, api.ErrBytes, api.ErrIndices} {
		if refused[e] < 20 {
			t.Errorf("%d was told %d times", e, refused[e])
		}
	}
}

// P9.3: of each kind what a refused value has laid is taken back: the texts that stand behind it in a struct are too long.
func TestTakenBack(t *testing.T) {
	for _, c := range []struct {
		kind  string
		texts []string
	}{
		{"null?", []string{"null", "null"}},
		{"bool?", []string{"true", "false", "null"}},
		{"int64?", []string{"1", "2", "null"}},
		{"text?", []string{`"a"`, `"bc"`, "null"}},
		{"bytes?", []string{`x"aa"`, `x""`, "null"}},
		{"fixed(2)?", []string{`x"aaaa"`, `x"bbbb"`, "null"}},
		{"list(i text?)?", []string{`["a",null]`, `["b","c"]`, "[]", "null"}},
		{"span(2, i text?)?", []string{`["a",null]`, `["b","c"]`, "null"}},
		{"struct(a int8, b struct(c text)?)?", []string{`{a:1,b:null}`, `{a:2,b:{c:"x"}}`, "null"}},
		{"choice(a text, b list(i int8), c int8)", []string{`a("x")`, `b([1,2])`, "c(1)"}},
		{"dict(0, int8, w text)?", []string{`"a"`, `"b"`, "null"}},
		{"dict(0, int8, w list(i text))?", []string{`["a"]`, `["b","c"]`, "null", "[]"}},
		{"runs(v text?)?", []string{`"a"`, `"b"`, "null"}},
		{"runs(v dict(0, int8, w text)?)?", []string{`"a"`, `"b"`, "null"}},
		{"runs(v runs(w list(i text)))", []string{`["a"]`, `["b","c"]`, "[]"}},
		{"list(r runs(v dict(0, int8, w text)))?", []string{`["a","a","b"]`, `["b","c"]`, "null", "[]"}},
	} {
		f := field(t, "struct(x "+c.kind+", t text)")
		parts := values(t, f.Type.Fields[0], c.texts...)
		for _, first := range parts {
			for _, second := range parts {
				for _, third := range parts {
					good := []api.Value{list(first, text("1")), list(third, text("2"))}
					b, _ := New(f)
					errs := []api.Errno{b.Add(good[0]), b.Add(list(second, long(65536))), b.Add(list(third, long(65536))), b.Add(good[1])}
					want, _ := modelForm(f, good)
					d, e := b.Done()
					if errs[0] != api.OK || errs[1] != api.ErrBytes || errs[2] != api.ErrBytes || errs[3] != api.OK || e != api.OK || b.Len() != 2 {
						t.Fatalf("%s: %v, %d", c.kind, errs, e)
					}
					if !modelSame(d, want) {
						t.Fatalf("%s: %s, not %s", c.kind, printed(d), printed(want))
					}
				}
			}
		}
	}
}

// What was taken back makes room again: a full dictionary stays full of what it had, and weight comes off.
func TestRoomAgain(t *testing.T) {
	f := field(t, "struct(d dict(0, int8, w int16), t text)")
	b, _ := New(f)
	for i := range 127 {
		b.Add(list(num(int64(i)), text("")))
	}
	for i := range 10 {
		if e := b.Add(list(num(int64(1000+i)), long(65537))); e != api.ErrBytes {
			t.Fatalf("a long text: %d", e)
		}
	}
	for _, c := range []struct {
		n int64
		e api.Errno
	}{{127, api.OK}, {1000, api.ErrIndices}, {128, api.ErrIndices}, {127, api.OK}, {0, api.OK}} {
		if e := b.Add(list(num(c.n), text(""))); e != c.e {
			t.Errorf("Add of %d: %d, not %d", c.n, e, c.e)
		}
	}

	g := field(t, "dict(0, int8, w text)")
	h, _ := New(g)
	for range 4095 {
		h.Add(long(1008))
	}
	for range 3 {
		if e := h.Add(long(1009)); e != api.ErrRows {
			t.Errorf("one byte too heavy: %d", e)
		}
	}
	if e := h.Add(long(1008)); e != api.OK || h.Len() != 4096 {
		t.Errorf("just as heavy as may be: %d", e)
	}
	if e := h.Add(long(1008)); e != api.ErrRows || h.Len() != 4096 {
		t.Errorf("a row too many: %d", e)
	}
}

// P9.3: builders have nothing in common.
func TestTwoBuilders(t *testing.T) {
	c := newChance(13)
	for range 200 {
		f := c.field()
		a, _ := New(f)
		b, _ := New(f)
		var la, lb []api.Value
		for range 10 {
			v, w := c.value(f, 3), c.value(f, 3)
			if a.Add(v) != api.OK || b.Add(w) != api.OK {
				t.Fatal("Add")
			}
			la, lb = append(la, v), append(lb, w)
		}
		da, _ := a.Done()
		db, _ := b.Done()
		wa, _ := modelForm(f, la)
		wb, _ := modelForm(f, lb)
		if !modelSame(da, wa) || !modelSame(db, wb) {
			t.Fatalf("builders of %v", f)
		}
	}
}

// P9.3, P9.9: neither the field nor the values are kept.
func TestBuilderKeepsNothing(t *testing.T) {
	c := newChance(14)
	for range 1000 {
		f := c.field()
		g := copiedField(f)
		b, _ := New(g)
		spoilField(&g)
		var l []api.Value
		for range 8 {
			v := c.value(f, 3)
			if len(l) > 0 && c.Intn(3) == 0 {
				v = l[c.Intn(len(l))]
			}
			w := copied(v)
			if e := b.Add(w); e != api.OK {
				t.Fatalf("Add: %d", e)
			}
			if !value.Same(v, w) {
				t.Fatal("Add changes a value")
			}
			spoilValues(w.List)
			l = append(l, v)
		}
		d, e := b.Done()
		if want, _ := modelForm(f, l); e != api.OK || !modelSame(d, want) {
			t.Fatalf("%v of %v: %s, not %s", l, f, printed(d), printed(want))
		}
	}
}
