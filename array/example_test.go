package array

import (
	"slices"
	"testing"

	"colonnade/api"
	"colonnade/view"
)

func wantValues(t *testing.T, a *Array, want ...api.Value) {
	t.Helper()
	if l := a.Values(); !slices.EqualFunc(l, want, sameValue) {
		t.Errorf("Values: %v, want %v", l, want)
	}
}

func wantErr(t *testing.T, what string, got, want api.Errno) {
	t.Helper()
	if got != want {
		t.Errorf("%s: %d, want %d", what, got, want)
	}
}

// opens opens what must be an array.
func opens(t *testing.T, f api.Field, d api.Data) *Array {
	t.Helper()
	a, x := Open(f, d)
	if x.Err != api.OK {
		t.Fatalf("Open: %v", x)
	}
	return a
}

func smallData() api.Data {
	return api.Data{Length: 2, Offset: 1, Nulls: 1, Buffers: [][]byte{{5}, {1, 0, 255, 255, 3, 0}}}
}

// The chapter's examples 1 and 8.
func TestExampleNumbers(t *testing.T) {
	f, d := maybe(plainField("a", api.Int16)), smallData()
	a := opens(t, f, d)
	wantValues(t, a, null, num(3))
	_, e := a.Get(2)
	wantErr(t, "Get(2)", e, api.ErrRange)
	_, e = a.Num(0)
	wantErr(t, "Num(0)", e, api.ErrValue)
	_, e = a.Text(0)
	wantErr(t, "Text(0)", e, api.ErrType)
	n, e := a.Num(1)
	if n != 3 || e != api.OK {
		t.Errorf("Num(1): %d, %d", n, e)
	}
	d.Nulls = 0
	wantFault(t, f, d, api.ErrLength, 1)
	d = smallData()
	d.Buffers[1] = d.Buffers[1][:5]
	wantFault(t, f, d, api.ErrSmall, 1)
	d = smallData()
	d.Offset = 4095
	wantFault(t, f, d, api.ErrRows, 0)

	w := view.NewWatch()
	a.Watched(w).Get(1)
	if l := w.Reads(); !slices.Equal(l, []api.Read{{From: 0, To: 1}, {From: 4, To: 6}}) {
		t.Errorf("reads: %v", l)
	}
}

// The chapter's example 2.
func TestExampleTexts(t *testing.T) {
	f := plainField("t", api.Text)
	lay := func(s string, offsets ...int) api.Data {
		return api.Data{Length: 2, Buffers: [][]byte{nil, int32s(offsets...), []byte(s)}}
	}
	wantValues(t, opens(t, f, lay("xab", 1, 1, 3)), text(""), text("ab"))
	wantFault(t, f, lay("xab", 1, 0, 3), api.ErrOffsets, 1)
	wantFault(t, f, lay("xab", 1, 1, 4), api.ErrOffsets, 2)
	wantFault(t, f, lay("x\xC3(", 1, 1, 3), api.ErrUtf, 1)
}

// The chapter's example 3.
func TestExampleList(t *testing.T) {
	f := with("l", api.List, plainField("i", api.Int8))
	offsets := int32s(1, 3)
	d := api.Data{Length: 1, Buffers: [][]byte{nil, offsets}, Children: []api.Data{{Length: 3, Buffers: [][]byte{nil, {5, 6, 7}}}}}
	a := opens(t, f, d)
	wantValues(t, a, list(num(6), num(7)))
	items, e := a.Items(0)
	wantErr(t, "Items(0)", e, api.OK)
	if v, _ := items.Get(0); items.Len() != 2 || v.Num != 6 {
		t.Errorf("the items: %v", items.Values())
	}
	d.Children[0].Nulls = 1
	wantFault(t, f, d, api.ErrLength, 1, 0)
	offsets[4] = 9
	_, e = a.Get(0)
	wantErr(t, "Get(0) behind a write", e, api.ErrValue)
	_, e = a.Items(0)
	wantErr(t, "Items(0) behind a write", e, api.ErrValue)
	if a.Len() != 1 {
		t.Errorf("Len: %d", a.Len())
	}
}

// The chapter's example 4.
func TestExampleRuns(t *testing.T) {
	f := with("r", api.Runs, plainField("v", api.Text))
	values := api.Data{Length: 2, Buffers: [][]byte{nil, int32s(0, 1, 2), []byte("ab")}}
	lay := func(ends ...int) api.Data {
		return api.Data{Length: 3, Offset: 1, Children: []api.Data{{Length: 2, Buffers: [][]byte{nil, int32s(ends...)}}, values}}
	}
	d := lay(2, 5)
	a := opens(t, f, d)
	wantValues(t, a, text("a"), text("b"), text("b"))
	d.Children[0].Buffers[1][0] = 1
	wantValues(t, a, text("b"), text("b"), text("b"))
	wantFault(t, f, lay(2, 2), api.ErrEnds, 1)
	wantFault(t, f, lay(2, 3), api.ErrEnds, 2)
	wantFault(t, f, lay(0, 5), api.ErrEnds, 0)
}

// The chapter's example 5.
func TestExampleDict(t *testing.T) {
	f := dict("d", api.Int8, plainField("w", api.Text))
	values := api.Data{Length: 2, Buffers: [][]byte{nil, int32s(0, 1, 2), []byte("ab")}}
	d := api.Data{Length: 3, Buffers: [][]byte{nil, {1, 0, 1}}, Dict: []api.Data{values}}
	wantValues(t, opens(t, f, d), text("b"), text("a"), text("b"))
	d.Buffers[1] = []byte{1, 255, 1}
	wantFault(t, f, d, api.ErrIndex, 1)
	d.Buffers[0], d.Nulls = []byte{5}, 1
	wantValues(t, opens(t, maybe(f), d), text("b"), null, text("b"))
}

// The chapter's examples 6, 7 and 9.
func TestExampleParts(t *testing.T) {
	a, b := plainField("a", api.Int8), plainField("b", api.Int8)
	d := api.Data{Length: 2, Offset: 1, Buffers: [][]byte{nil}, Children: []api.Data{numbersData(3, 1), numbersData(2, 1)}}
	wantFault(t, with("s", api.Struct, a, b), d, api.ErrSmall, 2)

	texts := api.Data{Length: 1, Buffers: [][]byte{nil, int32s(0, 0), nil}}
	d = api.Data{Length: 3, Buffers: [][]byte{{0, 1, 2}, int32s(0, 0, 0)}, Children: []api.Data{numbersData(1, 1), texts}}
	wantFault(t, with("c", api.Choice, a, plainField("b", api.Text)), d, api.ErrCode, 2)

	f, d := heavy([]int{2000}, repeated(4096, 0)...)
	wantFault(t, f, d, api.ErrRows, 1)
	d.Length = 2080 // 2080 times 2016 is below MaxWeight
	wantFault(t, f, d, 0, 0)
	d.Length = 2081
	wantFault(t, f, d, api.ErrRows, 1)
}

// DOC.md's examples 1 and 2 of the whole.
func TestExampleWhole(t *testing.T) {
	f := maybe(plainField("a", api.Int16))
	wantValues(t, opens(t, f, api.Data{Length: 3, Nulls: 1, Buffers: [][]byte{{5}, {1, 0, 0, 0, 3, 0}}}), num(1), null, num(3))
	wantValues(t, opens(t, f, api.Data{Length: 2, Offset: 1, Nulls: 1, Buffers: [][]byte{{5}, {1, 0, 0, 0, 3, 0}}}), null, num(3))
	f = maybe(dict("d", api.Uint8, plainField("w", api.Text)))
	values := api.Data{Length: 3, Buffers: [][]byte{nil, int32s(0, 1, 2, 3), []byte("axb")}}
	wantValues(t, opens(t, f, api.Data{Length: 4, Nulls: 1, Buffers: [][]byte{{0x0d}, {2, 7, 0, 2}}, Dict: []api.Data{values}}), text("b"), null, text("a"), text("b"))
}
