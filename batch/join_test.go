package batch

import (
	"bytes"
	"slices"
	"testing"

	"colonnade/api"
	"colonnade/array"
	"colonnade/kind"
)

// told is a message as it is joined.
type told struct {
	s       api.Schema
	h       api.Head
	body    []byte
	dicts   []api.Told
	columns []int
}

// message makes a batch's message, and names some of its columns.
func (c *chance) message(most int) told {
	m := told{s: c.schema(most)}
	b := c.batch(m.s, c.Intn(9))
	m.h, m.body, _ = Split(m.s, b, c.Intn(3))
	m.dicts = modelDicts(m.s.Fields, b.Columns)
	c.Shuffle(len(m.dicts), func(i, j int) { m.dicts[i], m.dicts[j] = m.dicts[j], m.dicts[i] })
	for range c.Intn(5) {
		if n := len(m.s.Fields); n > 0 {
			m.columns = append(m.columns, c.Intn(n))
		}
	}
	return m
}

// hurt does one thing to a message that may keep it from being joined.
func (m *told) hurt(c *chance) {
	switch n := len(m.dicts); c.Intn(8) {
	case 0, 1, 2:
		c.hurtHead(&m.h)
	case 3:
		m.body = c.hurtBody(m.body)
	case 4:
		m.body = slices.Clone(m.body)
		c.hurtSlots(m.h, m.body)
	case 5:
		m.columns = append(slices.Clone(m.columns), c.odd())
	case 6:
		if n > 0 {
			m.dicts = slices.Delete(slices.Clone(m.dicts), 0, 1)
		}
	default:
		if n > 0 {
			d := copiedData(m.dicts[0].Values)
			c.hurt(&d)
			m.dicts = append([]api.Told{{ID: m.dicts[0].ID, Values: d}}, m.dicts...)
		}
	}
}

// P11.3, P11.4, P11.7: whatever is joined, what is told is what the chapter's words say, and it is arrays of the columns' fields.
func TestSomeAny(t *testing.T) {
	c := newChance(21)
	seen := map[api.Errno]int{}
	for range 20000 {
		m := c.message(3)
		for range c.Intn(4) {
			m.hurt(c)
		}
		want, fault := modelSome(m.s, m.h, m.body, m.dicts, m.columns)
		b, x := Some(m.s, m.h, m.body, m.dicts, m.columns)
		if !sameFault(x, fault) || !sameBatch(b, want) {
			t.Fatalf("%s: Some = %+v; wanted %+v", printed(m.s), x, fault)
		}
		seen[x.Err]++
		for i := range b.Columns {
			if x := array.Check(m.s.Fields[m.columns[i]], b.Columns[i]); x.Err != api.OK {
				t.Fatalf("%s: column %d: %+v", printed(m.s), m.columns[i], x)
			}
		}
		want, fault = modelSome(m.s, m.h, m.body, m.dicts, upTo(len(m.s.Fields)))
		if b, x = Join(m.s, m.h, m.body, m.dicts); !sameFault(x, fault) || !sameBatch(b, want) {
			t.Fatalf("%s: Join = %+v; wanted %+v", printed(m.s), x, fault)
		}
	}
	for _, e := range []api.Errno{api.OK, api.ErrHead, api.ErrRange, api.ErrNodes, api.ErrSlots, api.ErrUnknown, api.ErrShape, api.ErrLength, api.ErrSmall, api.ErrOffsets, api.ErrIndex} {
		if seen[e] < 5 {
			t.Errorf("the error %d is told %d times", e, seen[e])
		}
	}
}

// P11.5: so it is with dictionaries.
func TestJoinDictAny(t *testing.T) {
	c := newChance(22)
	seen := map[api.Errno]int{}
	for range 20000 {
		f := c.dictField()
		h, body, _ := SplitDict(f, c.array(f.Type.Fields[0], c.Intn(8)), c.Intn(2) == 0, c.Intn(3))
		for range c.Intn(4) {
			switch c.Intn(3) {
			case 0:
				c.hurtHead(&h)
			case 1:
				body = c.hurtBody(body)
			default:
				c.hurtSlots(h, body)
			}
		}
		want, fault := modelJoinDict(f, h, body)
		d, x := JoinDict(f, h, body)
		if !sameFault(x, fault) || !sameData(d, want) {
			t.Fatalf("%v: JoinDict = %+v; wanted %+v", f, x, fault)
		}
		seen[x.Err]++
	}
	for _, e := range []api.Errno{api.OK, api.ErrHead, api.ErrNodes, api.ErrSlots, api.ErrLength, api.ErrSmall, api.ErrOffsets} {
		if seen[e] < 5 {
			t.Errorf("the error %d is told %d times", e, seen[e])
		}
	}
}

// twoColumns is a message without a press: two nodes, four slots; the second column's validity has no bytes.
func twoColumns(t testing.TB) told {
	s := schema(t, "a int8?, b int16")
	b := of(3, api.Data{Length: 3, Nulls: 1, Buffers: [][]byte{{5}, {1, 2, 3}}}, api.Data{Length: 3, Buffers: [][]byte{nil, {1, 0, 2, 0, 3, 0}}})
	h, body, _ := Split(s, b, api.PressNone)
	return told{s: s, h: h, body: body, columns: []int{0, 1}}
}

// P11.4, 1 to 4: each thing that is told, and what is told ahead of what.
func TestSomeRefuses(t *testing.T) {
	many := make([]int, 33)
	for name, x := range map[string]struct {
		turn func(m *told)
		want api.Fault
	}{
		"fine":                        {func(m *told) {}, api.Fault{}},
		"as many numbers as may be":   {func(m *told) { m.columns = many[:32] }, api.Fault{}},
		"no numbers":                  {func(m *told) { m.columns = nil }, api.Fault{}},
		"a schema ahead of the head":  {func(m *told) { m.s, m.h = wrongSchema, api.Head{} }, api.Fault{Err: api.ErrType}},
		"a head ahead of the numbers": {func(m *told) { m.h.Kind, m.columns = api.HeadDict, []int{-1} }, api.Fault{Err: api.ErrHead}},
		"a head of a dictionary":      {func(m *told) { m.h.Kind = api.HeadDict }, api.Fault{Err: api.ErrHead}},
		"a head of a schema":          {func(m *told) { m.h = api.Head{Kind: api.HeadSchema} }, api.Fault{Err: api.ErrHead}},
		"a head that may not be":      {func(m *told) { m.h.Delta = true }, api.Fault{Err: api.ErrHead}},
		"a press":                     {func(m *told) { m.h.Press = 3 }, api.Fault{Err: api.ErrHead}},
		"a node that may not be":      {func(m *told) { m.h.Nodes[1].Nulls = 4 }, api.Fault{Err: api.ErrHead}},
		"numbers ahead of nodes":      {func(m *told) { m.h.Nodes, m.columns = nil, []int{1, 2} }, api.Fault{Err: api.ErrRange, At: 1}},
		"a number below 0":            {func(m *told) { m.columns = []int{0, 1, -1, 7} }, api.Fault{Err: api.ErrRange, At: 2}},
		"too many numbers":            {func(m *told) { m.columns = append([]int{-1}, many[1:]...) }, api.Fault{Err: api.ErrRange, At: 32}},
		"nodes ahead of slots":        {func(m *told) { m.h.Nodes, m.h.Slots = nil, nil }, api.Fault{Err: api.ErrNodes}},
		"a node more":                 {func(m *told) { m.h.Nodes = append(m.h.Nodes, api.Node{Length: 3}) }, api.Fault{Err: api.ErrNodes}},
		"a Length":                    {func(m *told) { m.h.Nodes[1].Length = 2; m.h.Slots = nil }, api.Fault{Err: api.ErrNodes, At: 1}},
		"a Length that is not named":  {func(m *told) { m.h.Nodes[1].Length, m.columns = 2, nil }, api.Fault{Err: api.ErrNodes, At: 1}},
		"the first Length":            {func(m *told) { m.h.Rows = 4 }, api.Fault{Err: api.ErrNodes}},
		"a slot less":                 {func(m *told) { m.h.Slots = m.h.Slots[:3] }, api.Fault{Err: api.ErrSlots}},
		"a slot more":                 {func(m *told) { m.h.Slots = append(m.h.Slots, api.Slot{At: 24}) }, api.Fault{Err: api.ErrSlots}},
		"a first slot's place":        {func(m *told) { m.h.Slots[0].At = 8 }, api.Fault{Err: api.ErrSlots}},
		"a place between":             {func(m *told) { m.h.Slots[1].At = 4 }, api.Fault{Err: api.ErrSlots, At: 1}},
		"a slot behind the body":      {func(m *told) { m.h.Slots[3].Len, m.h.Slots[3].Raw = 9, 9 }, api.Fault{Err: api.ErrSlots, At: 3}},
		"an empty slot behind":        {func(m *told) { m.h.Slots[2].Len, m.h.Slots[2].Raw = 8, 8 }, api.Fault{Err: api.ErrSlots, At: 3}},
		"a Raw":                       {func(m *told) { m.h.Slots[1].Raw = 4 }, api.Fault{Err: api.ErrSlots, At: 1}},
		"a Raw above all":             {func(m *told) { m.h.Press = 1; m.h.Slots[2].Raw = 65537 }, api.Fault{Err: api.ErrSlots, At: 2}},
		"a Raw that is not named":     {func(m *told) { m.h.Press = 1; m.h.Slots[2].Raw, m.columns = 65537, nil }, api.Fault{Err: api.ErrSlots, At: 2}},
		"a byte between":              {func(m *told) { m.body[1] = 1 }, api.Fault{Err: api.ErrSlots}},
		"the last byte between":       {func(m *told) { m.body[7] = 128 }, api.Fault{Err: api.ErrSlots}},
		"a byte that is not named":    {func(m *told) { m.body[22], m.columns = 1, []int{0} }, api.Fault{Err: api.ErrSlots, At: 3}},
		"a body without a byte":       {func(m *told) { m.body = m.body[:23] }, api.Fault{Err: api.ErrSlots, At: 3}},
		"a body cut at a slot's end":  {func(m *told) { m.body = m.body[:16] }, api.Fault{Err: api.ErrSlots, At: 3}},
		"no body":                     {func(m *told) { m.body = nil }, api.Fault{Err: api.ErrSlots}},
		"a byte more":                 {func(m *told) { m.body = append(m.body, 0) }, api.Fault{Err: api.ErrSlots, At: 4}},
		"bytes more":                  {func(m *told) { m.body = append(m.body, make([]byte, 800)...) }, api.Fault{Err: api.ErrSlots, At: 4}},
		"the first wrong slot":        {func(m *told) { m.body[1], m.h.Slots[3].At = 1, 99 }, api.Fault{Err: api.ErrSlots}},
		"an array":                    {func(m *told) { m.h.Nodes[0].Nulls = 0 }, api.Fault{Err: api.ErrLength, At: 1, Path: []int{0}}},
		"an array that is not named":  {func(m *told) { m.h.Nodes[0].Nulls, m.columns = 0, []int{1} }, api.Fault{}},
		"the arrays in their order":   {func(m *told) { m.h.Nodes[0].Nulls, m.h.Nodes[1].Nulls, m.columns = 0, 1, []int{1, 0} }, api.Fault{Err: api.ErrLength, At: 1, Path: []int{1}}},
	} {
		m := twoColumns(t)
		x.turn(&m)
		b, got := Some(m.s, m.h, m.body, m.dicts, m.columns)
		if !sameFault(got, x.want) || got.Err != api.OK && !sameBatch(b, api.Batch{}) {
			t.Errorf("%s: %+v", name, got)
		}
		if got.Err == api.OK && (b.Rows != 3 || len(b.Columns) != len(m.columns)) {
			t.Errorf("%s: %+v", name, b)
		}
	}
}

// P11.4: a Raw of just MaxBytes is taken.
func TestRawAtTheLimit(t *testing.T) {
	s := schema(t, "a fixed(16)")
	b := of(4096, api.Data{Length: 4096, Buffers: [][]byte{nil, make([]byte, 65536)}})
	for how := range 3 {
		h, body, e := Split(s, b, how)
		if got, x := Join(s, h, body, nil); e != api.OK || x.Err != api.OK || h.Slots[1].Raw != 65536 || !sameBatch(got, b) {
			t.Errorf("press %d: %d, %+v", how, e, x)
		}
	}
}

// P11.4, 5 and 6: dictionaries and packed bytes are told in the laying order of the columns that are named, ahead of what is wrong with arrays.
func TestSomeInOrder(t *testing.T) {
	s := schema(t, "a list(d dict(7, int8, w text)), b struct(x int8, e dict(9, uint8, w bool)), c int8")
	words := values(t, s.Fields[0].Type.Fields[0].Type.Fields[0], `"x"`)
	flags := values(t, s.Fields[1].Type.Fields[1].Type.Fields[0], "true")
	one := api.Data{Length: 1, Buffers: [][]byte{nil, {0}}, Dict: []api.Data{words}}
	two := api.Data{Length: 1, Buffers: [][]byte{nil, {0}}, Dict: []api.Data{flags}}
	b := of(1, listOf(one), structOf(api.Data{Length: 1, Buffers: [][]byte{nil, {5}}}, two), api.Data{Length: 1, Buffers: [][]byte{nil, {6}}})
	// The slots: list 0, 1; indices 2, 3; struct 4; x 5, 6; indices 7, 8; c 9, 10.
	dicts := []api.Told{{ID: 9, Values: flags}, {ID: 7, Values: words}}
	for name, x := range map[string]struct {
		dicts   []api.Told
		broken  []int // slots whose bytes are no packed ones
		columns []int
		nulls   bool // column 2 has a wrong node
		want    api.Fault
	}{
		"fine":                           {dicts, nil, []int{0, 1, 2}, false, api.Fault{}},
		"broken, but not named":          {dicts, []int{1, 3}, []int{1, 2}, false, api.Fault{}},
		"no dictionaries, not named":     {nil, nil, []int{2}, false, api.Fault{}},
		"the first unknown one":          {nil, nil, []int{0, 1}, false, api.Fault{Err: api.ErrUnknown, At: 7, Path: []int{0, 0}}},
		"the other column first":         {nil, nil, []int{1, 0}, false, api.Fault{Err: api.ErrUnknown, At: 9, Path: []int{1, 1}}},
		"one is known":                   {dicts[1:], nil, []int{0, 1}, false, api.Fault{Err: api.ErrUnknown, At: 9, Path: []int{1, 1}}},
		"an unknown one ahead of slots":  {nil, []int{3}, []int{0}, false, api.Fault{Err: api.ErrUnknown, At: 7, Path: []int{0, 0}}},
		"slots ahead of an unknown one":  {nil, []int{1, 3}, []int{0}, false, api.Fault{Err: api.ErrSlots, At: 1}},
		"slots of a child ahead of it":   {nil, []int{6, 8}, []int{1}, false, api.Fault{Err: api.ErrSlots, At: 6}},
		"slots in the columns' order":    {dicts, []int{1, 10}, []int{2, 0}, false, api.Fault{Err: api.ErrSlots, At: 10}},
		"an unknown one, then an array":  {nil, nil, []int{2, 1}, true, api.Fault{Err: api.ErrUnknown, At: 9, Path: []int{1, 1}}},
		"a slot, then an array":          {dicts, []int{8}, []int{2, 1}, true, api.Fault{Err: api.ErrSlots, At: 8}},
		"an array":                       {dicts, []int{8}, []int{2, 0}, true, api.Fault{Err: api.ErrLength, At: 1, Path: []int{2}}},
		"another one's values":           {[]api.Told{{ID: 7, Values: flags}, {ID: 7, Values: words}}, nil, []int{0}, false, api.Fault{Err: api.ErrShape, Path: []int{0, 0, 0}}},
		"a dictionary without the value": {[]api.Told{{ID: 7, Values: api.Data{Buffers: [][]byte{nil, modelInts(0), nil}}}}, nil, []int{0}, false, api.Fault{Err: api.ErrIndex, Path: []int{0, 0}}},
	} {
		h, body, _ := Split(s, b, api.PressRuns)
		for _, k := range x.broken {
			body[h.Slots[k].At] = 77 // a literal that is not all there
		}
		if x.nulls {
			h.Nodes[5].Nulls = 1
		}
		if _, got := Some(s, h, body, x.dicts, x.columns); !sameFault(got, x.want) {
			t.Errorf("%s: %+v", name, got)
		}
	}
}

// P11.4: a batch without columns has its rows; one of Nulls has no slots.
func TestFewSlots(t *testing.T) {
	for text, columns := range map[string][]api.Data{"": nil, "a null?": {{Length: 7, Nulls: 7}}} {
		s := schema(t, text)
		h, body, e := Split(s, of(7, columns...), api.PressRuns)
		b, x := Join(s, h, body, nil)
		if e != api.OK || len(body) != 0 || len(h.Slots) != 0 || x.Err != api.OK || !sameBatch(b, of(7, columns...)) {
			t.Errorf("%q: %+v, %d, %+v", text, h, e, x)
		}
		if _, x := Join(s, h, []byte{0}, nil); !is(x, api.ErrSlots, 0) {
			t.Errorf("%q, a byte: %+v", text, x)
		}
	}
}

// P11.4: any items that come out right are taken, not those alone that Split packs.
func TestOtherItems(t *testing.T) {
	s := schema(t, "a int8")
	h := api.Head{Kind: api.HeadBatch, Rows: 3, Press: api.PressRuns, Nodes: []api.Node{{Length: 3}}, Slots: []api.Slot{{}, {Len: 6, Raw: 3}}}
	b, x := Join(s, h, []byte{0, 7, 0, 7, 0, 7, 0, 0}, nil)
	if x.Err != api.OK || !bytes.Equal(b.Columns[0].Buffers[1], []byte{7, 7, 7}) {
		t.Errorf("Join = %+v, %+v", b, x)
	}
}

// P11.5: what JoinDict tells, and what first.
func TestJoinDictRefuses(t *testing.T) {
	f := field(t, "dict(5, int8, w list(t text))")
	wrong := f
	wrong.Type.Index = api.Text
	d := values(t, f.Type.Fields[0], `["x"]`, `["y","zz"]`)
	for name, x := range map[string]struct {
		f    api.Field
		turn func(h *api.Head, body []byte) []byte
		want api.Fault
	}{
		"fine":            {f, func(h *api.Head, b []byte) []byte { return b }, api.Fault{}},
		"not of Delta":    {f, func(h *api.Head, b []byte) []byte { h.Delta = false; return b }, api.Fault{}},
		"a field":         {wrong, func(h *api.Head, b []byte) []byte { h.Kind = 0; return b }, api.Fault{Err: api.ErrType}},
		"another kind":    {f.Type.Fields[0], func(h *api.Head, b []byte) []byte { return b }, api.Fault{Err: api.ErrType}},
		"a head":          {f, func(h *api.Head, b []byte) []byte { h.Kind, h.ID, h.Delta = api.HeadBatch, 0, false; return b }, api.Fault{Err: api.ErrHead}},
		"another ID":      {f, func(h *api.Head, b []byte) []byte { h.ID, h.Nodes = 4, nil; return b }, api.Fault{Err: api.ErrHead}},
		"a press":         {f, func(h *api.Head, b []byte) []byte { h.Press = 3; return b }, api.Fault{Err: api.ErrHead}},
		"a node less":     {f, func(h *api.Head, b []byte) []byte { h.Nodes = h.Nodes[:1]; return b }, api.Fault{Err: api.ErrNodes}},
		"rows":            {f, func(h *api.Head, b []byte) []byte { h.Rows, h.Slots = 3, nil; return b }, api.Fault{Err: api.ErrNodes}},
		"a slot less":     {f, func(h *api.Head, b []byte) []byte { h.Slots = h.Slots[:4]; return b }, api.Fault{Err: api.ErrSlots}},
		"a slot":          {f, func(h *api.Head, b []byte) []byte { h.Slots[4].Raw++; return b }, api.Fault{Err: api.ErrSlots, At: 4}},
		"a longer body":   {f, func(h *api.Head, b []byte) []byte { return append(b, 0) }, api.Fault{Err: api.ErrSlots, At: 5}},
		"packed":          {f, func(h *api.Head, b []byte) []byte { h.Press = 1; return b }, api.Fault{Err: api.ErrSlots, At: 1}},
		"an array":        {f, func(h *api.Head, b []byte) []byte { b[4] = 2; b[8] = 1; return b }, api.Fault{Err: api.ErrOffsets, At: 2}},
		"an array within": {f, func(h *api.Head, b []byte) []byte { b[h.Slots[4].At] = 0x80; return b }, api.Fault{Err: api.ErrUtf, Path: []int{0}}},
	} {
		h, body, e := SplitDict(f, d, true, api.PressNone)
		if e != api.OK {
			t.Fatalf("SplitDict: %d", e)
		}
		body = x.turn(&h, body)
		got, fault := JoinDict(x.f, h, body)
		if !sameFault(fault, x.want) || fault.Err != api.OK && !sameData(got, api.Data{}) {
			t.Errorf("%s: %+v", name, fault)
		}
	}
}

// P11.6: a dictionary that lies otherwise, or has more values, will do, if it has the same ones at the indices in use.
func TestOtherDictionary(t *testing.T) {
	s := schema(t, "a dict(0, uint8, w text)?")
	w := s.Fields[0].Type.Fields[0]
	d := api.Data{Length: 3, Nulls: 1, Buffers: [][]byte{{5}, {2, 9, 0}}, Dict: []api.Data{values(t, w, `"x"`, `"y"`, `"z"`)}}
	h, body, _ := Split(s, of(3, d), api.PressBack)
	other := api.Data{Length: 4, Offset: 1, Buffers: [][]byte{nil, modelInts(0, 1, 2, 2, 3, 5), []byte("-xzuv")}}
	b, x := Join(s, h, body, []api.Told{{ID: 0, Values: other}})
	if x.Err != api.OK || !sameValues(denoted(t, s, b), denoted(t, s, of(3, d))) || !sameData(b.Columns[0].Dict[0], other) {
		t.Errorf("Join = %+v, %+v", b, x)
	}
}

// P11.3: as many columns as may be, as deep as may be, and as many nodes as may be.
func TestWideAndDeep(t *testing.T) {
	deep := "int8"
	for range 63 {
		deep = "list(i " + deep + ")"
	}
	many := ""
	for k := range 32 {
		many += ", c" + string(rune('a'+k/26)) + string(rune('a'+k%26)) + " runs(a runs(b runs(c runs(d runs(e runs(f runs(g text)))))))"
	}
	for _, text := range []string{"a " + deep, many[2:]} {
		s := schema(t, text)
		b := api.Batch{Rows: 2}
		for _, f := range s.Fields {
			b.Columns = append(b.Columns, newChance(3).array(f, 2))
		}
		for how := range 3 {
			h, body, e := Split(s, b, how)
			want, wantBody, _ := modelSplit(s, b, how)
			if e != api.OK || !sameHead(h, want) || !bytes.Equal(body, wantBody) {
				t.Errorf("%d nodes: %d", len(h.Nodes), e)
			}
			joins(t, s, b, h, body, e)
		}
		if kind.Count(s) != 256 && kind.Depth(s.Fields[0].Type) != 64 {
			t.Errorf("%d fields, depth %d", kind.Count(s), kind.Depth(s.Fields[0].Type))
		}
	}
}
