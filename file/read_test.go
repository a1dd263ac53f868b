package file

import (
	"slices"
	"strconv"
	"testing"

	"colonnade/api"
	"colonnade/batch"
	"colonnade/build"
	"colonnade/frame"
	"colonnade/kind"
)

// dictMessage is a dictionary message of the only field of a schema, which is a Dict.
func dictMessage(t testing.TB, s api.Schema, delta bool, d api.Data) []byte {
	t.Helper()
	h, body, e := batch.SplitDict(s.Fields[0], d, delta, api.PressNone)
	if e != api.OK {
		t.Fatal(e)
	}
	return framedAs(t, headOf(t, h), body)
}

// wordsOf is an array of texts.
func wordsOf(t testing.TB, words ...string) api.Data {
	t.Helper()
	f, _, _ := kind.ParseField("w text")
	var l []api.Value
	for _, w := range words {
		l = append(l, api.Value{Text: w})
	}
	d, e, _ := build.Of(f, l)
	if e != api.OK {
		t.Fatal(e)
	}
	return d
}

// indices is a batch message of a Dict field with indices of one byte.
func indices(t testing.TB, s api.Schema, l ...byte) []byte {
	t.Helper()
	h := api.Head{Kind: api.HeadBatch, Rows: len(l), Nodes: []api.Node{{Length: len(l)}}, Slots: []api.Slot{{}, {Len: len(l), Raw: len(l)}}}
	body := append(slices.Clone(l), make([]byte, (8-len(l)%8)%8)...)
	return framedAs(t, headOf(t, h), body)
}

// schemaMessage is the message 0 of a schema.
func schemaMessage(t testing.TB, s api.Schema) []byte {
	t.Helper()
	return framedAs(t, headOf(t, api.Head{Kind: api.HeadSchema, Schema: s}), nil)
}

// fileOf is the file of messages, with the end and the foot that are theirs.
func fileOf(messages ...[]byte) []byte { return whole(append(messages, frame.Close()), nil) }

// faultOf looks whether Batch tells just this fault, and nothing else.
func faultOf(t testing.TB, what string, f *File, i int, e api.Errno, at int, path ...int) {
	t.Helper()
	if b, x := f.Batch(i); !isFault(x, e, at, path...) || !sameBatch(b, api.Batch{}) {
		t.Errorf("%s: Batch(%d): %+v, wanted %d at %d, %v", what, i, x, e, at, path)
	}
}

// P13.1: the dictionaries ahead of a batch are read for it, all of them in their order, and those behind it are not.
func TestDictionariesAhead(t *testing.T) {
	s := schema(t, "d dict(5, uint8, w text)")
	ab, c, xyz := dictMessage(t, s, false, wordsOf(t, "a", "b")), dictMessage(t, s, true, wordsOf(t, "c")), dictMessage(t, s, false, wordsOf(t, "x", "y", "z"))
	f := opened(t, fileOf(schemaMessage(t, s), ab, indices(t, s, 1, 0), c, indices(t, s, 2, 0), indices(t, s, 1), xyz, indices(t, s, 2, 0), c))
	tells(t, f, 3, `"z"`, `"x"`)
	tells(t, f, 0, `"b"`, `"a"`)
	tells(t, f, 1, `"c"`, `"a"`)
	tells(t, f, 2, `"b"`)
	if x := f.Check(); x.Err != api.OK {
		t.Errorf("Check: %+v", x)
	}
	f = opened(t, fileOf(schemaMessage(t, s), indices(t, s), indices(t, s, 0), ab, indices(t, s, 2), indices(t, s, 1)))
	faultOf(t, "no rows, ahead of any dictionary", f, 0, api.ErrUnknown, 5, 0)
	faultOf(t, "ahead of any dictionary", f, 1, api.ErrUnknown, 5, 0)
	faultOf(t, "an index beyond it", f, 2, api.ErrIndex, 0, 0)
	tells(t, f, 3, `"b"`)
	if b, x := f.Some(0, nil); x.Err != api.OK || b.Rows != 0 {
		t.Errorf("no columns, ahead of any dictionary: %+v", x)
	}
	if x := f.Check(); !isFault(x, api.ErrUnknown, 5, 0, 0) {
		t.Errorf("Check: %+v", x)
	}
	// A dictionary that is wrong keeps the batches behind it from being told, those ahead of it not.
	b := fileOf(schemaMessage(t, s), ab, indices(t, s, 1), c, indices(t, s, 2), xyz, indices(t, s, 0))
	b[8+len(schemaMessage(t, s))+len(ab)+len(indices(t, s, 1))+20] = 1
	f = opened(t, b)
	tells(t, f, 0, `"b"`)
	faultOf(t, "behind a wrong dictionary", f, 1, api.ErrBlock, 3)
	faultOf(t, "behind a wrong dictionary that is replaced", f, 2, api.ErrBlock, 3)
	if x := f.Check(); !isFault(x, api.ErrBlock, 3, 1) {
		t.Errorf("Check: %+v", x)
	}
	n := 0
	for i := range f.All() {
		if n++; i != 0 {
			t.Errorf("All gives the batch %d", i)
		}
	}
	if n != 1 {
		t.Errorf("All gives %d batches", n)
	}
}

// P13.1: what a dictionary message is refused for, in that order; At the entry's number, and no Path.
func TestDictionaryWrong(t *testing.T) {
	s := schema(t, "d dict(5, uint8, w text)")
	other := schema(t, "d dict(6, uint8, w text)")
	ab := dictMessage(t, s, false, wordsOf(t, "a", "b"))
	h, body, _ := batch.SplitDict(s.Fields[0], wordsOf(t, "a", "b"), false, api.PressNone)
	hurt := func(do func(h *api.Head, body []byte)) []byte {
		h, body := h, slices.Clone(body)
		h.Nodes, h.Slots = slices.Clone(h.Nodes), slices.Clone(h.Slots)
		do(&h, body)
		return framedAs(t, headOf(t, h), body)
	}
	last := indices(t, s, 0)
	for _, c := range []struct {
		what    string
		message []byte
		e       api.Errno
	}{
		{"no metadata but a kind", framedAs(t, []byte{2}, nil), api.ErrShort},
		{"metadata and more", framedAs(t, append(headOf(t, h), 0), body), api.ErrRest},
		{"another number, and another shape", hurt(func(h *api.Head, _ []byte) { h.ID, h.Nodes = 6, nil }), api.ErrID},
		{"another number", dictMessage(t, other, false, wordsOf(t, "a")), api.ErrID},
		{"another number, what is new", dictMessage(t, other, true, wordsOf(t, "a")), api.ErrID},
		{"what is new, where none is known, and another shape", hurt(func(h *api.Head, _ []byte) { h.Delta, h.Nodes = true, nil }), api.ErrNodes},
		{"other nodes", hurt(func(h *api.Head, _ []byte) { h.Nodes = nil }), api.ErrNodes},
		{"other slots", hurt(func(h *api.Head, _ []byte) { h.Slots = h.Slots[1:] }), api.ErrSlots},
		{"no UTF-8", hurt(func(h *api.Head, b []byte) { b[h.Slots[2].At] = 0xff }), api.ErrUtf},
		{"offsets that fall", hurt(func(h *api.Head, b []byte) { b[h.Slots[1].At+4] = 9 }), api.ErrOffsets},
		{"what is new, where none is known", dictMessage(t, s, true, wordsOf(t, "a")), api.ErrNoDict},
	} {
		faultOf(t, c.what, opened(t, fileOf(schemaMessage(t, s), c.message, last)), 0, c.e, 1)
		// Behind a dictionary that is right, with a second one that is wrong behind it, at its own entry.
		if c.e != api.ErrNoDict {
			faultOf(t, c.what, opened(t, fileOf(schemaMessage(t, s), ab, last, c.message, framedAs(t, []byte{2}, nil), last)), 1, c.e, 3)
		}
	}
	// A Path is never told of a dictionary, though JoinDict has one.
	s = schema(t, "d dict(5, uint8, w struct(x int8, y list(z text)))")
	d, e, _ := build.Of(s.Fields[0].Type.Fields[0], []api.Value{{List: []api.Value{{}, {List: []api.Value{{Text: "a"}}}}}})
	if e != api.OK {
		t.Fatal(e)
	}
	h, body, _ = batch.SplitDict(s.Fields[0], d, false, api.PressNone)
	body[h.Slots[len(h.Slots)-1].At] = 0xff
	if _, x := batch.JoinDict(s.Fields[0], h, body); x.Err != api.ErrUtf || len(x.Path) == 0 {
		t.Fatalf("JoinDict: %+v", x)
	}
	faultOf(t, "a fault deep within", opened(t, fileOf(schemaMessage(t, s), framedAs(t, headOf(t, h), body), last)), 0, api.ErrUtf, 1)
}

// P13.1: what the book refuses: more values than may be, and a dictionary that can't be built.
func TestBookRefuses(t *testing.T) {
	s := schema(t, "d dict(0, uint16, w text)")
	var l []string
	for i := range 4096 {
		l = append(l, strconv.Itoa(i))
	}
	most := dictMessage(t, s, false, wordsOf(t, l...))
	empty := framedAs(t, headOf(t, api.Head{Kind: api.HeadBatch, Nodes: []api.Node{{}}, Slots: make([]api.Slot, 2)}), nil)
	f := opened(t, fileOf(schemaMessage(t, s), most, empty, dictMessage(t, s, true, wordsOf(t)), empty, dictMessage(t, s, true, wordsOf(t, "more")), empty))
	for i := range 2 {
		if b, x := f.Batch(i); x.Err != api.OK || b.Columns[0].Dict[0].Length != 4096 {
			t.Errorf("as many values as may be: %+v", x)
		}
	}
	faultOf(t, "one value more", f, 2, api.ErrRows, 5)
	s = schema(t, "d dict(0, uint8, w choice(l list(i int8)))")
	h := api.Head{Kind: api.HeadDict, Rows: 2, Nodes: []api.Node{{Length: 2}, {Length: 1}, {Length: 2049}}}
	var body []byte
	for _, b := range [][]byte{{0, 0}, make([]byte, 8), nil, laidNumbers(0, 2049), nil, make([]byte, 2049)} {
		h.Slots = append(h.Slots, api.Slot{At: len(body), Len: len(b), Raw: len(b)})
		body = append(body, b...)
		body = append(body, make([]byte, (8-len(b)%8)%8)...)
	}
	if _, x := batch.JoinDict(s.Fields[0], h, body); x.Err != api.OK {
		t.Fatalf("JoinDict: %+v", x)
	}
	one := framedAs(t, headOf(t, h), body)
	faultOf(t, "no build form", opened(t, fileOf(schemaMessage(t, s), one, indices(t, s, 0))), 0, api.ErrRows, 1)
	h.Nodes[0].Length, h.Rows = 1, 1
	h.Slots[0].Len, h.Slots[0].Raw, h.Slots[1].Len, h.Slots[1].Raw = 1, 1, 4, 4
	f = opened(t, fileOf(schemaMessage(t, s), framedAs(t, headOf(t, h), body), indices(t, s, 0)))
	if b, x := f.Batch(0); x.Err != api.OK || len(denoted(s.Fields[0], b.Columns[0])[0].List[0].List) != 2049 {
		t.Errorf("named once: %+v", x)
	}
}

// P13.1: what a batch's own entry is refused for, in that order, and behind what is wrong with dictionaries.
func TestBatchWrong(t *testing.T) {
	s := schema(t, "d dict(5, uint8, w text)")
	ab := dictMessage(t, s, false, wordsOf(t, "a", "b"))
	ahead := [][]byte{schemaMessage(t, s), ab}
	entries := func(m []byte) [][6]int {
		l := entriesOf(append(slices.Clip(ahead), m))
		l[2][0], l[2][4] = 3, 2 // the entry says that it is a batch of two rows, whatever it is
		return l
	}
	two := indices(t, s, 1, 0)
	for _, c := range []struct {
		what    string
		message []byte
		e       api.Errno
	}{
		{"no metadata", framedAs(t, nil, nil), api.ErrShort},
		{"a dictionary", ab, api.ErrForm},
		{"a schema", schemaMessage(t, s), api.ErrForm},
		{"three rows", indices(t, s, 1, 0, 1), api.ErrUnlike},
		{"three rows, and an index that is none", indices(t, s, 1, 0, 7), api.ErrUnlike},
		{"no rows", indices(t, s), api.ErrUnlike},
	} {
		f := opened(t, modelFile(slices.Concat(ahead[0], ahead[1], c.message, frame.Close()), modelFoot(entries(c.message), nil)))
		faultOf(t, c.what, f, 0, c.e, 2)
		if _, x := f.Some(0, []int{9}); !isFault(x, c.e, 2) {
			t.Errorf("%s: no such column: %+v", c.what, x)
		}
		if x := f.Check(); !isFault(x, c.e, 2, 0) {
			t.Errorf("%s: Check: %+v", c.what, x)
		}
	}
	b := modelFile(slices.Concat(ahead[0], ahead[1], two, frame.Close()), modelFoot(entries(two), nil))
	f := opened(t, b)
	tells(t, f, 0, `"b"`, `"a"`)
	at := 8 + len(ahead[0])
	b[at+len(ab)] = 0
	faultOf(t, "its mark", f, 0, api.ErrBlock, 2)
	if _, x := f.Some(0, []int{9}); !isFault(x, api.ErrBlock, 2) {
		t.Errorf("its mark, and no such column: %+v", x)
	}
	b[at] = 0
	faultOf(t, "the dictionary's mark, too", f, 0, api.ErrBlock, 1)
	if _, x := f.Some(1, nil); !isFault(x, api.ErrRange, 1) {
		t.Errorf("no such batch: %+v", x)
	}
}

// P13.1: what batch.Some tells is told as it is, with its Path and its place.
func TestSomeTells(t *testing.T) {
	s := schema(t, "a int8, s struct(l list(t text)), b text")
	rows := [][]api.Value{{{Num: 1}, {List: []api.Value{{List: []api.Value{{Text: "x"}}}}}, {Text: "y"}}, {{Num: 2}, {List: []api.Value{{List: []api.Value{{Text: "z"}}}}}, {}}}
	one, e, _ := build.Batch(s, rows)
	if e != api.OK {
		t.Fatal(e)
	}
	h, body, _ := batch.Split(s, one, api.PressNone)
	right := framedAs(t, headOf(t, h), body)
	deep := slices.IndexFunc(h.Slots, func(x api.Slot) bool { return x.Len == 2 && body[x.At] == 'x' })
	body[h.Slots[deep].At+1] = 0xff
	wrong := framedAs(t, headOf(t, h), body)
	h.Slots[0].Raw++
	slots := framedAs(t, headOf(t, h), body)
	f := opened(t, fileOf(schemaMessage(t, s), right, wrong, slots))
	faultOf(t, "a text deep within", f, 1, api.ErrUtf, 1, 1, 0, 0)
	faultOf(t, "a slot", f, 2, api.ErrSlots, 0)
	if x := f.Check(); !isFault(x, api.ErrUtf, 1, 1, 1, 0, 0) {
		t.Errorf("Check: %+v", x)
	}
	for _, columns := range [][]int{{0}, {2, 0}, {}, {2, 2}} {
		b, x := f.Some(1, columns)
		if x.Err != api.OK || b.Rows != 2 || len(b.Columns) != len(columns) {
			t.Fatalf("Some(1, %v): %+v", columns, x)
		}
		for k, n := range columns {
			if !sameData(b.Columns[k], one.Columns[n]) {
				t.Errorf("Some(1, %v): column %d is another one", columns, k)
			}
		}
		if _, x := f.Some(2, columns); !isFault(x, api.ErrSlots, 0) {
			t.Errorf("Some(2, %v): %+v", columns, x)
		}
	}
	if _, x := f.Some(1, []int{0, 1}); !isFault(x, api.ErrUtf, 1, 1, 0, 0) {
		t.Errorf("Some(1, 0 1): %+v", x)
	}
	for n, at := range map[int]int{32: -1, 33: 32} {
		b, x := f.Some(0, make([]int, n))
		if at < 0 && (x.Err != api.OK || len(b.Columns) != n) || at >= 0 && !isFault(x, api.ErrRange, at) {
			t.Errorf("Some(0, %d times 0): %+v", n, x)
		}
	}
	if _, x := f.Some(0, []int{0, 3, -1}); !isFault(x, api.ErrRange, 1) {
		t.Errorf("Some(0, 0 3 -1): %+v", x)
	}
}

// P13.1: All gives each batch as it lies there then, though it reads no dictionary twice: one that was written anew ahead of a later batch is read again, and so is one that was wrong for a while.
func TestDictionaryWrittenWithin(t *testing.T) {
	s := schema(t, "d dict(5, uint8, w text)")
	ab, xy, c := dictMessage(t, s, false, wordsOf(t, "a", "b")), dictMessage(t, s, false, wordsOf(t, "x", "y")), dictMessage(t, s, true, wordsOf(t, "c"))
	first := schemaMessage(t, s)
	b := fileOf(first, ab, indices(t, s, 0), indices(t, s, 1), c, indices(t, s, 0, 1, 2), indices(t, s, 2))
	f := opened(t, b)
	var l [][]string
	for i, got := range f.All() {
		l = append(l, texts(t, f, got))
		switch i {
		case 0:
			copy(b[8+len(first):], xy)
		case 2:
			b[8+len(first)] = 0
			for range f.All() {
				t.Error("a wrong dictionary: All gives a batch")
			}
			copy(b[8+len(first):], ab)
		}
	}
	if want := [][]string{{`"a"`}, {`"y"`}, {`"x"`, `"y"`, `"c"`}, {`"c"`}}; !slices.EqualFunc(l, want, slices.Equal[[]string]) {
		t.Errorf("%v, wanted %v", l, want)
	}
	l = nil
	for i, got := range f.All() {
		l = append(l, texts(t, f, got))
		if i == 1 {
			b[8+len(first)] = 0
		}
	}
	if len(l) != 2 {
		t.Errorf("a dictionary wrong behind two batches: %v", l)
	}
	if x := f.Check(); !isFault(x, api.ErrBlock, 1, 0) {
		t.Errorf("Check: %+v", x)
	}
}

// Many dictionaries, told anew with each batch, are each read once when all batches are gone through.
func TestManyDictionaries(t *testing.T) {
	table := api.Table{Schema: schema(t, "d dict(0, uint16, w text)")}
	for i := range 100 {
		var l []string
		for k := range 20 {
			l = append(l, strconv.Quote("w"+strconv.Itoa(20*i+k)))
		}
		table.Batches = append(table.Batches, column(t, table.Schema, l...))
	}
	f := opened(t, put(t, table, api.Option{}, nil))
	if x := f.Check(); x.Err != api.OK || f.Len() != 100 {
		t.Errorf("Check: %+v", x)
	}
	n := 0
	for i, b := range f.All() {
		if b.Columns[0].Dict[0].Length != 20*(i+1) {
			t.Errorf("batch %d: %d values", i, b.Columns[0].Dict[0].Length)
		}
		n++
	}
	// The last batch alone wants all dictionaries to be read; all batches want little more.
	one, all := testing.AllocsPerRun(1, func() { f.Batch(99) }), testing.AllocsPerRun(1, func() { f.Check() })
	if all > 10*one {
		t.Errorf("all batches want %v times what the last one wants", all/one)
	}
	if b, x := f.Batch(99); n != 100 || x.Err != api.OK || !sameForms(table.Schema, b, table.Batches[99]) {
		t.Errorf("%d batches, %+v", n, x)
	}
}
