package batch

import (
	"slices"
	"testing"

	"colonnade/api"
	"colonnade/kind"
)

// schema reads a schema.
func schema(t testing.TB, text string) api.Schema {
	t.Helper()
	s, e, at := kind.Parse(text)
	if e != api.OK {
		t.Fatalf("%s: %d at %d", text, e, at)
	}
	return s
}

// field reads a field's type, as `list(i int8)?`.
func field(t testing.TB, text string) api.Field {
	t.Helper()
	return schema(t, "f "+text).Fields[0]
}

// of is a batch of columns.
func of(rows int, columns ...api.Data) api.Batch { return api.Batch{Rows: rows, Columns: columns} }

// is tells whether a fault is the one that is wanted.
func is(x api.Fault, e api.Errno, at int, path ...int) bool {
	return x.Err == e && x.At == at && slices.Equal(x.Path, path)
}

// firstExample is the chapter's first batch.
func firstExample(t testing.TB) (api.Schema, api.Batch) {
	return schema(t, "a int8?"), of(3, api.Data{Length: 3, Offset: 1, Nulls: 1, Buffers: [][]byte{{0x0B}, {9, 5, 6, 7}}})
}

// splits tells whether a batch is split as wanted, without a press.
func splits(t *testing.T, s api.Schema, b api.Batch, nodes []api.Node, slots []api.Slot, body []byte) api.Head {
	t.Helper()
	h, got, e := Split(s, b, api.PressNone)
	if e != api.OK || h.Kind != api.HeadBatch || h.Rows != b.Rows || h.Press != api.PressNone || !slices.Equal(h.Nodes, nodes) || !slices.Equal(h.Slots, slots) || !slices.Equal(got, body) {
		t.Errorf("Split = %+v, % x, %d", h, got, e)
	}
	return h
}

// Example 1: rows that begin behind others; the number of a null row is 0.
func TestExampleNumbers(t *testing.T) {
	s, b := firstExample(t)
	splits(t, s, b, []api.Node{{Length: 3, Nulls: 1}}, []api.Slot{{At: 0, Len: 1, Raw: 1}, {At: 8, Len: 3, Raw: 3}},
		[]byte{5, 0, 0, 0, 0, 0, 0, 0, 5, 0, 7, 0, 0, 0, 0, 0})
}

// Example 2: a slot without bytes takes no room.
func TestExampleTexts(t *testing.T) {
	d := api.Data{Length: 2, Buffers: [][]byte{nil, {0, 0, 0, 0, 0, 0, 0, 0, 2, 0, 0, 0}, []byte("ab")}}
	splits(t, schema(t, "t text"), of(2, d), []api.Node{{Length: 2}}, []api.Slot{{}, {At: 0, Len: 12, Raw: 12}, {At: 16, Len: 2, Raw: 2}},
		[]byte("\x00\x00\x00\x00\x00\x00\x00\x00\x02\x00\x00\x00\x00\x00\x00\x00ab\x00\x00\x00\x00\x00\x00"))
}

// Example 3: of a Dict the indices alone are laid; whoever joins hands in the dictionary.
func TestExampleDict(t *testing.T) {
	s := schema(t, "d dict(0, uint8, w text)")
	values := api.Data{Length: 2, Buffers: [][]byte{nil, {0, 0, 0, 0, 1, 0, 0, 0, 2, 0, 0, 0}, []byte("xy")}}
	d := api.Data{Length: 2, Buffers: [][]byte{nil, {0, 1}}, Dict: []api.Data{values}}
	h := splits(t, s, of(2, d), []api.Node{{Length: 2}}, []api.Slot{{}, {Len: 2, Raw: 2}}, []byte{0, 1, 0, 0, 0, 0, 0, 0})
	body := []byte{0, 1, 0, 0, 0, 0, 0, 0}
	if _, x := Join(s, h, body, nil); !is(x, api.ErrUnknown, 0, 0) {
		t.Errorf("no dictionary: %+v", x)
	}
	one := values
	one.Length = 1
	if _, x := Join(s, h, body, []api.Told{{ID: 0, Values: one}}); !is(x, api.ErrIndex, 1, 0) {
		t.Errorf("a dictionary of one value: %+v", x)
	}
	b, x := Join(s, h, body, []api.Told{{ID: 3, Values: one}, {ID: 0, Values: values}, {ID: 0, Values: one}})
	if x.Err != api.OK || !sameBatch(b, of(2, d)) {
		t.Errorf("Join = %+v, %+v", b, x)
	}
}

// Example 4: rows that begin within a run.
func TestExampleRuns(t *testing.T) {
	ends := api.Data{Length: 2, Buffers: [][]byte{nil, {3, 0, 0, 0, 5, 0, 0, 0}}}
	d := api.Data{Length: 4, Offset: 1, Children: []api.Data{ends, {Length: 2, Buffers: [][]byte{nil, {5, 6}}}}}
	splits(t, schema(t, "r runs(v int8)"), of(4, d), []api.Node{{Length: 4}, {Length: 2}, {Length: 2}},
		[]api.Slot{{}, {Len: 8, Raw: 8}, {At: 8}, {At: 8, Len: 2, Raw: 2}}, []byte{2, 0, 0, 0, 4, 0, 0, 0, 5, 6, 0, 0, 0, 0, 0, 0})
}

// Example 5: heads and bodies that don't fit.
func TestExampleWrong(t *testing.T) {
	s, b := firstExample(t)
	for name, x := range map[string]struct {
		turn func(h *api.Head, body []byte) []byte
		want api.Fault
	}{
		"a slot's place":        {func(h *api.Head, b []byte) []byte { h.Slots[1].At = 16; return b }, api.Fault{Err: api.ErrSlots, At: 1}},
		"a longer body":         {func(h *api.Head, b []byte) []byte { return append(b, make([]byte, 8)...) }, api.Fault{Err: api.ErrSlots, At: 2}},
		"a byte behind a slot":  {func(h *api.Head, b []byte) []byte { b[15] = 1; return b }, api.Fault{Err: api.ErrSlots, At: 1}},
		"a node's Length":       {func(h *api.Head, b []byte) []byte { h.Nodes[0].Length = 2; return b }, api.Fault{Err: api.ErrNodes}},
		"a node's Nulls":        {func(h *api.Head, b []byte) []byte { h.Nodes[0].Nulls = 0; return b }, api.Fault{Err: api.ErrLength, At: 1, Path: []int{0}}},
		"no nodes":              {func(h *api.Head, b []byte) []byte { h.Nodes = nil; return b }, api.Fault{Err: api.ErrNodes}},
		"nothing that is wrong": {func(h *api.Head, b []byte) []byte { return b }, api.Fault{}},
	} {
		h, body, _ := Split(s, b, api.PressNone)
		body = x.turn(&h, body)
		if _, got := Join(s, h, body, nil); !sameFault(got, x.want) {
			t.Errorf("%s: %+v", name, got)
		}
	}
}

// Example 6: columns in any order.
func TestExampleSome(t *testing.T) {
	s := schema(t, "a int8, b int16")
	b := of(1, api.Data{Length: 1, Buffers: [][]byte{nil, {7}}}, api.Data{Length: 1, Buffers: [][]byte{nil, {8, 9}}})
	h, body, _ := Split(s, b, api.PressBack)
	got, x := Some(s, h, body, nil, []int{1, 0})
	if x.Err != api.OK || !sameBatch(got, of(1, b.Columns[1], b.Columns[0])) {
		t.Errorf("Some = %+v, %+v", got, x)
	}
	if got, x := Some(s, h, body, nil, []int{2}); !is(x, api.ErrRange, 0) || !sameBatch(got, api.Batch{}) {
		t.Errorf("column 2: %+v, %+v", got, x)
	}
}

// DOC.md, example 3: the dictionary is laid by itself.
func TestExampleDictionary(t *testing.T) {
	f := field(t, "dict(2, uint8, w text)")
	d := api.Data{Length: 2, Buffers: [][]byte{nil, {0, 0, 0, 0, 1, 0, 0, 0, 2, 0, 0, 0}, []byte("ba")}}
	h, body, e := SplitDict(f, d, true, api.PressNone)
	want := api.Head{Kind: api.HeadDict, ID: 2, Delta: true, Rows: 2, Nodes: []api.Node{{Length: 2}}, Slots: []api.Slot{{}, {Len: 12, Raw: 12}, {At: 16, Len: 2, Raw: 2}}}
	if e != api.OK || !sameHead(h, want) || len(body) != 24 || string(body[16:18]) != "ba" {
		t.Errorf("SplitDict = %+v, % x, %d", h, body, e)
	}
	got, x := JoinDict(f, h, body)
	if x.Err != api.OK || !sameData(got, d) {
		t.Errorf("JoinDict = %+v, %+v", got, x)
	}
}
