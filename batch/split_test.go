package batch

import (
	"bytes"
	"strconv"
	"strings"
	"testing"

	"colonnade/api"
	"colonnade/array"
	"colonnade/build"
	"colonnade/kind"
	"colonnade/value"
)

// values reads values of a field, in build form.
func values(t testing.TB, f api.Field, texts ...string) api.Data {
	t.Helper()
	var l []api.Value
	for _, s := range texts {
		v, e, at := value.Parse(f, s)
		if e != api.OK {
			t.Fatalf("%s: %d at %d", s, e, at)
		}
		l = append(l, v)
	}
	d, e, at := build.Of(f, l)
	if e != api.OK {
		t.Fatalf("Of: %d at %d", e, at)
	}
	return d
}

// printed is a schema as text.
func printed(s api.Schema) string {
	text, _ := kind.Print(s)
	return text
}

// denoted tells what a batch's columns denote.
func denoted(t testing.TB, s api.Schema, b api.Batch) []api.Value {
	t.Helper()
	var l []api.Value
	for k, f := range s.Fields {
		a, x := array.Open(f, b.Columns[k])
		if x.Err != api.OK {
			t.Fatalf("Open: %+v", x)
		}
		l = append(l, api.Value{List: a.Values()})
	}
	return l
}

func sameValues(a, b []api.Value) bool {
	return value.Same(api.Value{List: a}, api.Value{List: b})
}

// P11.2, P11.6: batches that lie anyhow are laid by the chapter's words; what is joined denotes the same, and is laid the same again.
func TestSplitAny(t *testing.T) {
	c := newChance(11)
	for range 4000 {
		s := c.schema(3)
		b := c.batch(s, c.Intn(12))
		how := c.Intn(3)
		want, wantBody, e := modelSplit(s, b, how)
		h, body, got := Split(s, b, how)
		if got != e || !sameHead(h, want) || !bytes.Equal(body, wantBody) {
			t.Fatalf("%s: Split = %+v, %d; wanted %+v, %d", printed(s), h, got, want, e)
		}
		if e != api.OK {
			t.Fatalf("%s: %d", printed(s), e)
		}
		back, x := Join(s, h, body, modelDicts(s.Fields, b.Columns))
		if x.Err != api.OK || !sameValues(denoted(t, s, back), denoted(t, s, b)) {
			t.Fatalf("%s: Join: %+v", printed(s), x)
		}
		again, againBody, got := Split(s, back, how)
		if got != api.OK || !sameHead(h, again) || !bytes.Equal(body, againBody) {
			t.Fatalf("%s: Split of what was joined: %+v, %d", printed(s), again, got)
		}
	}
}

// P11.2: of batches that may be none the error is told, and nothing else.
func TestSplitHurt(t *testing.T) {
	c := newChance(12)
	for range 3000 {
		s := c.schema(3)
		b := c.batch(s, c.Intn(6))
		for range 1 + c.Intn(2) {
			c.hurtBatch(&b)
		}
		how := c.Intn(5) - 1
		want, wantBody, e := modelSplit(s, b, how)
		h, body, got := Split(s, b, how)
		if got != e || !sameHead(h, want) || !bytes.Equal(body, wantBody) {
			t.Fatalf("%s: Split = %+v, %d; wanted %+v, %d", printed(s), h, got, want, e)
		}
	}
}

// P11.5, P11.6: so are dictionaries.
func TestSplitDictAny(t *testing.T) {
	c := newChance(13)
	fine := 0
	for range 4000 {
		f := c.dictField()
		values := f.Type.Fields[0]
		d := c.array(values, c.Intn(8))
		if c.Intn(4) == 0 {
			c.hurt(&d)
		}
		delta, how := c.Intn(2) == 0, c.Intn(3)
		if c.Intn(8) == 0 {
			how = c.odd()
		}
		want, wantBody, e := modelSplitDict(f, d, delta, how)
		h, body, got := SplitDict(f, d, delta, how)
		if got != e || !sameHead(h, want) || !bytes.Equal(body, wantBody) {
			t.Fatalf("%v: SplitDict = %+v, %d; wanted %+v, %d", f, h, got, want, e)
		}
		if e != api.OK {
			continue
		}
		fine++
		back, x := JoinDict(f, h, body)
		one := api.Schema{Fields: []api.Field{values}}
		if x.Err != api.OK || !sameValues(denoted(t, one, of(d.Length, back)), denoted(t, one, of(d.Length, d))) {
			t.Fatalf("%v: JoinDict: %+v", f, x)
		}
		again, againBody, got := SplitDict(f, back, delta, how)
		if got != api.OK || !sameHead(h, again) || !bytes.Equal(body, againBody) {
			t.Fatalf("%v: SplitDict of what was joined: %+v, %d", f, again, got)
		}
	}
	if fine < 2000 {
		t.Errorf("%d dictionaries are fine", fine)
	}
}

// The words: of an array in build form the tight form of all rows is the array itself, but for the dictionaries.
func TestBuildFormIsTight(t *testing.T) {
	c := newChance(14)
	for range 2000 {
		f := c.field()
		d, e := build.Form(f, c.array(f, c.Intn(12)))
		if e != api.OK {
			continue
		}
		s := api.Schema{Fields: []api.Field{f}}
		h, body, e := Split(s, of(d.Length, d), api.PressNone)
		if e != api.OK {
			t.Fatalf("%v: Split: %d", f, e)
		}
		back, x := Join(s, h, body, modelDicts(s.Fields, []api.Data{d}))
		if x.Err != api.OK || !sameBatch(back, of(d.Length, d)) {
			t.Fatalf("%v: %+v", f, x)
		}
	}
}

// What lies under null rows stays there in a Span and a Struct, and is left out of texts and a List.
func TestUnderNullRows(t *testing.T) {
	int8s := api.Data{Length: 4, Buffers: [][]byte{nil, {1, 2, 3, 4}}}
	for text, x := range map[string]struct {
		d     api.Data
		nodes int
		body  []byte
	}{
		"a span(2, i int8)?": {api.Data{Length: 2, Nulls: 1, Buffers: [][]byte{{2}}, Children: []api.Data{int8s}}, 2, []byte{2, 0, 0, 0, 0, 0, 0, 0, 1, 2, 3, 4, 0, 0, 0, 0}},
		"a struct(i int8)?":  {api.Data{Length: 2, Nulls: 1, Buffers: [][]byte{{2}}, Children: []api.Data{int8s}}, 2, []byte{2, 0, 0, 0, 0, 0, 0, 0, 1, 2, 0, 0, 0, 0, 0, 0}},
		"a list(i int8)?":    {api.Data{Length: 2, Nulls: 1, Buffers: [][]byte{{2}, modelInts(0, 3, 4)}, Children: []api.Data{int8s}}, 2, append(append([]byte{2, 0, 0, 0, 0, 0, 0, 0}, modelInts(0, 0, 1, 0)...), 4, 0, 0, 0, 0, 0, 0, 0)},
		"a bytes?":           {api.Data{Length: 2, Nulls: 1, Buffers: [][]byte{{2}, modelInts(0, 3, 4), {1, 2, 3, 4}}}, 1, append(append([]byte{2, 0, 0, 0, 0, 0, 0, 0}, modelInts(0, 0, 1, 0)...), 4, 0, 0, 0, 0, 0, 0, 0)},
		"a fixed(2)?":        {api.Data{Length: 2, Nulls: 1, Buffers: [][]byte{{2}, {1, 2, 3, 4}}}, 1, []byte{2, 0, 0, 0, 0, 0, 0, 0, 0, 0, 3, 4, 0, 0, 0, 0}},
		"a bool?":            {api.Data{Length: 2, Nulls: 1, Buffers: [][]byte{{2}, {0xFF}}}, 1, []byte{2, 0, 0, 0, 0, 0, 0, 0, 2, 0, 0, 0, 0, 0, 0, 0}},
		"a bool":             {api.Data{Length: 2, Buffers: [][]byte{{0xFF}, {0xFF}}}, 1, []byte{3, 0, 0, 0, 0, 0, 0, 0}},
		"a null?":            {api.Data{Length: 2, Nulls: 2}, 1, nil},
	} {
		s := schema(t, text)
		h, body, e := Split(s, of(2, x.d), api.PressNone)
		if e != api.OK || len(h.Nodes) != x.nodes || h.Nodes[0] != (api.Node{Length: 2, Nulls: x.d.Nulls}) || !bytes.Equal(body, x.body) {
			t.Errorf("%s: %+v, % x, %d", text, h, body, e)
		}
	}
}

// An index of a null row is 0, whatever lies there, and the dictionary is not laid.
func TestIndices(t *testing.T) {
	s := schema(t, "a dict(3, int16, w text)?")
	words := values(t, s.Fields[0].Type.Fields[0], `"x"`, `"y"`)
	d := api.Data{Length: 3, Offset: 1, Nulls: 1, Buffers: [][]byte{{0b1010}, {9, 9, 1, 0, 255, 255, 0, 0}}, Dict: []api.Data{words}}
	h, body, e := Split(s, of(3, d), api.PressNone)
	if e != api.OK || len(h.Nodes) != 1 || len(h.Slots) != 2 || !bytes.Equal(body, []byte{5, 0, 0, 0, 0, 0, 0, 0, 1, 0, 0, 0, 0, 0, 0, 0}) {
		t.Errorf("Split = %+v, % x, %d", h, body, e)
	}
}

// Runs that rows name in another order than they lie: one that rows of others stand between is there again, neighbours that are alike stay apart.
func TestRunsAgain(t *testing.T) {
	s := schema(t, "a choice(r runs(v int8))")
	runs := api.Data{Length: 4, Children: []api.Data{{Length: 3, Buffers: [][]byte{nil, modelInts(2, 3, 4)}}, {Length: 3, Buffers: [][]byte{nil, {7, 7, 8}}}}}
	d := api.Data{Length: 6, Buffers: [][]byte{make([]byte, 6), modelInts(1, 0, 2, 0, 0, 3)}, Children: []api.Data{runs}}
	h, body, e := Split(s, of(6, d), api.PressNone)
	want := append(make([]byte, 8), modelInts(0, 1, 2, 3, 4, 5)...)
	want = append(append(want, modelInts(2, 3, 5, 6)...), 7, 7, 7, 8, 0, 0, 0, 0)
	if e != api.OK || !bytes.Equal(body, want) || h.Nodes[1] != (api.Node{Length: 6}) || h.Nodes[2] != (api.Node{Length: 4}) || h.Nodes[3] != (api.Node{Length: 4}) {
		t.Errorf("Split = %+v, % x, %d", h, body, e)
	}
}

// A Choice's offsets count the rows of each child, whatever they were.
func TestChoiceCounted(t *testing.T) {
	s := schema(t, "a choice(x int8, y int8)")
	int8s := api.Data{Length: 2, Offset: 1, Buffers: [][]byte{nil, {9, 1, 2}}}
	d := api.Data{Length: 4, Buffers: [][]byte{{1, 0, 1, 1}, modelInts(1, 0, 0, 1)}, Children: []api.Data{int8s, int8s}}
	_, body, e := Split(s, of(4, d), api.PressNone)
	want := append([]byte{1, 0, 1, 1, 0, 0, 0, 0}, modelInts(0, 0, 1, 2)...)
	want = append(want, 1, 0, 0, 0, 0, 0, 0, 0, 2, 1, 2, 0, 0, 0, 0, 0)
	if e != api.OK || !bytes.Equal(body, want) {
		t.Errorf("body = % x, %d", body, e)
	}
}

// often is n rows of a Choice of one child, that all name its first row, which is null; under it lie arrays.
func often(n int, under ...api.Data) api.Data {
	null := api.Data{Length: 1, Nulls: 1, Buffers: [][]byte{{0}}, Children: under}
	return api.Data{Length: n, Buffers: [][]byte{make([]byte, n), make([]byte, 4*n)}, Children: []api.Data{null}}
}

// long is an array of one text of n bytes; longRun a run of it; lists one list of n items; and so on.
func long(n int) api.Data {
	return api.Data{Length: 1, Buffers: [][]byte{nil, modelInts(0, n), []byte(strings.Repeat("x", n))}}
}

func longRun(n int) api.Data {
	return api.Data{Length: 1, Children: []api.Data{{Length: 1, Buffers: [][]byte{nil, modelInts(1)}}, long(n)}}
}

func longName(n int) api.Data {
	return api.Data{Length: 1, Buffers: [][]byte{nil, {0}}, Dict: []api.Data{long(n)}}
}

func listOf(items api.Data) api.Data {
	return api.Data{Length: 1, Buffers: [][]byte{nil, modelInts(0, items.Length)}, Children: []api.Data{items}}
}

func structOf(parts ...api.Data) api.Data {
	return api.Data{Length: 1, Buffers: [][]byte{nil}, Children: parts}
}

// P11.2: what keeps a tight form from being laid, and what of it is met first. All of it lies under a null row that is named often.
func TestCannotBeLaid(t *testing.T) {
	run, text := longRun(2000), long(17) // the one weighs too much, the other has too many bytes
	pair := structOf(longRun(600), longRun(600))
	for _, x := range []struct {
		under string
		parts []api.Data
		want  api.Errno
	}{
		{"t text", []api.Data{long(16)}, api.OK},
		{"t text", []api.Data{text}, api.ErrBytes},
		{"t bytes", []api.Data{text}, api.ErrBytes},
		{"r runs(v text)", []api.Data{longRun(1008)}, api.OK},
		{"r runs(v text)", []api.Data{run}, api.ErrRows},
		{"r dict(0, int8, v text)", []api.Data{longName(1008)}, api.OK},
		{"r dict(0, int8, v text)", []api.Data{longName(1009)}, api.ErrRows},
		{"l list(b bool)", []api.Data{listOf(bools(1))}, api.OK},
		{"l list(b bool)", []api.Data{listOf(bools(2))}, api.ErrRows},
		{"l list(b null?)", []api.Data{listOf(api.Data{Length: 4096, Nulls: 4096})}, api.ErrRows},
		{"l span(1, b bool)", []api.Data{{Length: 1, Buffers: [][]byte{nil}, Children: []api.Data{bools(1)}}}, api.OK},
		{"l span(2, b bool)", []api.Data{{Length: 1, Buffers: [][]byte{nil}, Children: []api.Data{bools(2)}}}, api.ErrRows},
		{"l span(2, b bool)?", []api.Data{{Length: 1, Nulls: 1, Buffers: [][]byte{{0}}, Children: []api.Data{bools(2)}}}, api.ErrRows},
		{"l list(b bool)?", []api.Data{{Length: 1, Nulls: 1, Buffers: [][]byte{{0}, modelInts(0, 2)}, Children: []api.Data{bools(2)}}}, api.OK},
		{"t text?", []api.Data{{Length: 1, Nulls: 1, Buffers: [][]byte{{0}, modelInts(0, 17), text.Buffers[2]}}}, api.OK},
		// Part by part.
		{"r runs(v text), t text", []api.Data{run, text}, api.ErrRows},
		{"t text, r runs(v text)", []api.Data{text, run}, api.ErrBytes},
		{"l list(b bool), t text", []api.Data{listOf(bools(2)), text}, api.ErrRows},
		{"t text, l list(b bool)", []api.Data{text, listOf(bools(2))}, api.ErrBytes},
		// What an array weighs counts behind its parts, and ahead of the next one.
		{"s struct(a runs(v text), b runs(v text))", []api.Data{pair}, api.ErrRows},
		{"s struct(a runs(v text), b runs(v text)), t text", []api.Data{pair, text}, api.ErrRows},
		{"s struct(a runs(v text), b runs(v text), t text)", []api.Data{structOf(append(pair.Children, text)...)}, api.ErrBytes},
		{"s struct(t text, r runs(v text))", []api.Data{structOf(text, run)}, api.ErrBytes},
		// The number of rows counts ahead of the buffers, and these ahead of the parts.
		{"l list(t text)", []api.Data{listOf(api.Data{Length: 2, Buffers: [][]byte{nil, modelInts(0, 17, 34), make([]byte, 34)}})}, api.ErrRows},
		{"l list(t text)", []api.Data{listOf(text)}, api.ErrBytes},
		{"l list(s struct(t text, r runs(v text)))", []api.Data{listOf(structOf(text, run))}, api.ErrBytes},
		{"s runs(v struct(t text))", []api.Data{{Length: 1, Children: []api.Data{run.Children[0], structOf(text)}}}, api.OK},
	} {
		s := schema(t, "a choice(n struct("+x.under+")?)")
		b := of(4096, often(4096, x.parts...))
		if _, _, e := modelSplit(s, b, 0); e != x.want {
			t.Errorf("%s: the model tells %d, not %d", x.under, e, x.want)
		}
		h, body, e := Split(s, b, api.PressNone)
		if e != x.want || e != api.OK && (!sameHead(h, api.Head{}) || body != nil) {
			t.Errorf("%s: %d; wanted %d", x.under, e, x.want)
		}
		joins(t, s, b, h, body, e)
	}
}

// joins tells whether what Split answered is joined.
func joins(t *testing.T, s api.Schema, b api.Batch, h api.Head, body []byte, e api.Errno) {
	t.Helper()
	if e != api.OK {
		return
	}
	back, x := Join(s, h, body, modelDicts(s.Fields, b.Columns))
	if x.Err != api.OK || !sameValues(denoted(t, s, back), denoted(t, s, b)) {
		t.Errorf("%s: Join: %+v", printed(s), x)
	}
}

// P11.2: just so many rows, bytes and just so much weight may be laid, and not one more.
func TestLimits(t *testing.T) {
	two := func(first, second int) api.Data { // texts of so many bytes
		return api.Data{Length: 2, Buffers: [][]byte{nil, modelInts(0, first, first+second), make([]byte, first+second)}}
	}
	twoRuns := func(first, second int) api.Data {
		return api.Data{Length: 2, Children: []api.Data{{Length: 2, Buffers: [][]byte{nil, modelInts(1, 2)}}, two(first, second)}}
	}
	for _, x := range []struct {
		under string
		part  api.Data
		want  api.Errno
	}{
		{"t text", two(16, 16), api.OK},
		{"t text", two(16, 17), api.ErrBytes},
		{"t text", two(15, 4111), api.OK},
		{"t text", two(15, 4112), api.ErrBytes},
		{"r runs(v text)", twoRuns(1008, 1008), api.OK},
		{"r runs(v text)", twoRuns(1008, 1009), api.ErrRows},
		{"r runs(v text)", twoRuns(1007, 5103), api.OK},
		{"r runs(v text)", twoRuns(1007, 5104), api.ErrRows},
		{"l list(b bool)", api.Data{Length: 2, Buffers: [][]byte{nil, modelInts(0, 1, 2)}, Children: []api.Data{bools(2)}}, api.OK},
		{"l list(b bool)", api.Data{Length: 2, Buffers: [][]byte{nil, modelInts(0, 1, 3)}, Children: []api.Data{bools(3)}}, api.ErrRows},
		{"l list(b bool)", api.Data{Length: 2, Buffers: [][]byte{nil, modelInts(0, 0, 4096)}, Children: []api.Data{bools(4096)}}, api.OK},
	} {
		s := schema(t, "a choice(n struct("+x.under+")?)")
		d := often(4096, x.part) // 4095 rows name the first one, the last row the second one
		d.Children[0].Length, d.Children[0].Nulls = 2, 2
		d.Buffers[1][4*4095] = 1
		h, body, e := Split(s, of(4096, d), api.PressNone)
		if e != x.want {
			t.Errorf("%s: %d; wanted %d", x.under, e, x.want)
		}
		joins(t, s, of(4096, d), h, body, e)
	}
}

// Bytes that are just as many as may be are too many with one more, wherever that stands.
func TestOneByteMore(t *testing.T) {
	s := schema(t, "a choice(n struct(t text)?)")
	two := api.Data{Length: 2, Buffers: [][]byte{nil, modelInts(0, 4096, 4097), make([]byte, 4097)}}
	for at, want := range map[int]api.Errno{0: api.ErrBytes, 8: api.ErrBytes, 16: api.ErrBytes, -1: api.OK} {
		n := 17
		if at < 0 {
			n = 16
		}
		d := often(n, two)
		d.Children[0].Length, d.Children[0].Nulls = 2, 2
		if at >= 0 {
			d.Buffers[1][4*at] = 1
		}
		if _, _, e := Split(s, of(n, d), api.PressNone); e != want {
			t.Errorf("the one byte at %d: %d", at, e)
		}
	}
}

// What rows weigh, of arrays that lie anyhow, is what the values weigh that they denote.
func TestWeights(t *testing.T) {
	c := newChance(15)
	for range 3000 {
		f := c.field()
		d := c.array(f, c.Intn(8))
		l := weightsOf(f, d)
		if len(l) != d.Length {
			t.Fatalf("%v: %d weights of %d rows", f, len(l), d.Length)
		}
		for i, w := range l {
			if want := modelWeight(f, d, i); w != want {
				t.Fatalf("%v: row %d weighs %d; wanted %d", f, i, w, want)
			}
		}
	}
}

// wide is a schema of 32 columns of two Fixed, whose bodies have just as many bytes as may be with 4096 rows; the last column has more.
func wide(t *testing.T, last string, parts ...api.Data) (api.Schema, api.Batch) {
	text := ""
	b := api.Batch{Rows: 4096}
	for k := range 32 {
		fixed := api.Data{Length: 4096, Buffers: [][]byte{nil, bytes.Repeat([]byte{byte(k), 1, 2, 3}, 16384)}}
		d := api.Data{Length: 4096, Buffers: [][]byte{nil}, Children: []api.Data{fixed, fixed}}
		field := "c" + strconv.Itoa(k) + " struct(a fixed(16), b fixed(16)"
		if k == 31 {
			field += last
			d.Children = append(d.Children, parts...)
		}
		text += field + "), "
		b.Columns = append(b.Columns, d)
	}
	return schema(t, text[:len(text)-2]), b
}

// oneRun is 4096 rows of one run of a value.
func oneRun(values api.Data) api.Data {
	return api.Data{Length: 4096, Children: []api.Data{{Length: 1, Buffers: [][]byte{nil, modelInts(4096)}}, values}}
}

// P11.2: a body has at most MaxBody bytes, as it is packed; what keeps a column from being laid is told ahead of that.
func TestLongBody(t *testing.T) {
	s, b := wide(t, "")
	h, body, e := Split(s, b, api.PressNone)
	if e != api.OK || len(body) != api.MaxBody || h.Slots[len(h.Slots)-1].At != api.MaxBody-65536 {
		t.Errorf("as many as may be: %d bytes, %d", len(body), e)
	}
	joins(t, s, b, h, body, e)
	s, b = wide(t, ", r runs(v struct())", oneRun(api.Data{Length: 1, Buffers: [][]byte{nil}}))
	if _, body, e := Split(s, b, api.PressNone); e != api.ErrBytes || body != nil {
		t.Errorf("eight more: %d", e)
	}
	h, body, e = Split(s, b, api.PressBack)
	if e != api.OK || len(body) > api.MaxBody/20 {
		t.Errorf("packed: %d bytes, %d", len(body), e)
	}
	joins(t, s, b, h, body, e)
	s, b = wide(t, ", c choice(n struct(l list(b bool))?)", often(4096, listOf(bools(2))))
	if _, _, e := Split(s, b, api.PressNone); e != api.ErrRows {
		t.Errorf("a column that can't be laid: %d", e)
	}
	if _, _, e := Split(s, b, 3); e != api.ErrArg {
		t.Errorf("a press ahead of it: %d", e)
	}
	b.Columns[31].Length = 4095
	if _, _, e := Split(s, b, 3); e != api.ErrColumns {
		t.Errorf("a batch ahead of it: %d", e)
	}
}

// P11.2: the columns are looked at one by one.
func TestColumnByColumn(t *testing.T) {
	s := schema(t, "a choice(n struct(t text)?), b choice(n struct(l list(b bool))?)")
	texts, lists := often(4096, long(17)), often(4096, listOf(bools(2)))
	if _, _, e := Split(s, of(4096, texts, lists), 0); e != api.ErrBytes {
		t.Errorf("texts, then lists: %d", e)
	}
	s.Fields[0], s.Fields[1] = s.Fields[1], s.Fields[0]
	if _, _, e := Split(s, of(4096, lists, texts), 0); e != api.ErrRows {
		t.Errorf("lists, then texts: %d", e)
	}
}

// P11.5: what SplitDict tells, and what first.
func TestSplitDictRefuses(t *testing.T) {
	f := field(t, "dict(5, int8, w choice(n struct(t text, l list(b bool))?))")
	fine := often(1, long(1), listOf(bools(1)))
	wrong := f
	wrong.Type.ID = 32
	for name, x := range map[string]struct {
		f     api.Field
		d     api.Data
		press int
		want  api.Errno
	}{
		"fine":             {f, fine, 2, api.OK},
		"a field":          {wrong, api.Data{}, 3, api.ErrType},
		"another kind":     {f.Type.Fields[0], fine, 0, api.ErrType},
		"an array":         {f, api.Data{}, 3, api.ErrShape},
		"a press":          {f, often(4096, long(17), listOf(bools(2))), 3, api.ErrArg},
		"a press below":    {f, fine, -1, api.ErrArg},
		"bytes":            {f, often(4096, long(17), listOf(bools(2))), 0, api.ErrBytes},
		"rows":             {f, often(4096, long(16), listOf(bools(2))), 0, api.ErrRows},
		"as many as there": {f, often(4096, long(16), listOf(bools(1))), 0, api.OK},
	} {
		h, body, e := SplitDict(x.f, x.d, true, x.press)
		if e != x.want || e != api.OK && (!sameHead(h, api.Head{}) || body != nil) {
			t.Errorf("%s: %d; wanted %d", name, e, x.want)
		}
	}
}

// P11.5: of a dictionary, too, a body has at most MaxBody bytes.
func TestLongDictionary(t *testing.T) {
	// A dictionary weighs no more than MaxWeight: what is heavier lies under its null rows.
	fixed := api.Data{Length: 4096, Buffers: [][]byte{nil, make([]byte, 65536)}}
	sixteen := ""
	var parts []api.Data
	for k := range 16 {
		sixteen += ", f" + string(rune('a'+k)) + " fixed(16)"
		parts = append(parts, fixed)
	}
	null := api.Data{Length: 4096, Nulls: 4096, Buffers: [][]byte{make([]byte, 512)}, Children: parts}
	four := "s struct(" + sixteen[2:] + ")?, t struct(" + sixteen[2:] + ")?, u struct(" + sixteen[2:] + ")?, v struct(" + sixteen[2:] + ")?"
	d := api.Data{Length: 4096, Buffers: [][]byte{nil}, Children: []api.Data{null, null, null, null}}
	f := field(t, "dict(0, int16, w struct("+four+"))")
	if _, body, e := SplitDict(f, d, false, api.PressNone); e != api.ErrBytes || body != nil {
		t.Errorf("%d bytes, %d", len(body), e)
	}
	f.Type.Fields[0].Type.Fields = f.Type.Fields[0].Type.Fields[:3]
	d.Children = d.Children[:3]
	if _, body, e := SplitDict(f, d, false, api.PressNone); e != api.OK || len(body) != 3*(16*65536+512) {
		t.Errorf("three of them: %d bytes, %d", len(body), e)
	}
}
