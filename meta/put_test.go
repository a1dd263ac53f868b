package meta

import (
	"fmt"
	"slices"
	"strconv"
	"strings"
	"testing"

	"colonnade/api"
)

// ofSchema is the head of a schema.
func ofSchema(s api.Schema) api.Head { return api.Head{Kind: api.HeadSchema, Schema: s} }

// field is a field of a kind with these children.
func field(name string, k int, l ...api.Field) api.Field {
	return api.Field{Name: name, Type: api.Type{Kind: k, Fields: l}}
}

// chain is a field of so many levels, lists in lists.
func chain(levels int) api.Field {
	f := field("a", api.Int8)
	for range levels - 1 {
		f = field("a", api.List, f)
	}
	return f
}

// crowd is so many fields in all, in structs beside one another, with the longest names.
func crowd(nodes int) []api.Field {
	var l []api.Field
	for ; nodes > 0; nodes-- {
		name := fmt.Sprintf("%s%03d", strings.Repeat("n", 45), nodes)
		if len(l) == 0 || len(l[len(l)-1].Type.Fields) == 31 {
			l = append(l, field(name, api.Struct))
			continue
		}
		in := &l[len(l)-1].Type.Fields
		*in = append(*in, field(name, api.Bool))
	}
	return l
}

// longNotes is so many notes, whose key and text have so many bytes.
func longNotes(n, key, text int) []api.Note {
	return slices.Repeat([]api.Note{{Key: strings.Repeat("\x00", key), Text: strings.Repeat("\xff", text)}}, n)
}

// nodes is so many nodes.
func nodes(n, length, nulls int) []api.Node {
	return slices.Repeat([]api.Node{{Length: length, Nulls: nulls}}, n)
}

// slots is so many slots.
func slots(n, at, long, raw int) []api.Slot {
	return slices.Repeat([]api.Slot{{At: at, Len: long, Raw: raw}}, n)
}

// P5.1, P5.3: heads at each limit; none has more than MaxMeta bytes.
func TestPutAtLimits(t *testing.T) {
	most := api.MaxBody
	for name, h := range map[string]api.Head{
		"256 fields, 16 notes":   ofSchema(api.Schema{Fields: crowd(256), Notes: longNotes(16, 256, 256)}),
		"64 levels":              ofSchema(api.Schema{Fields: []api.Field{chain(64)}}),
		"32 fields":              ofSchema(api.Schema{Fields: field("s", api.Struct, numbered(32)...).Type.Fields}),
		"struct of 32":           ofSchema(api.Schema{Fields: []api.Field{field("s", api.Struct, numbered(32)...)}}),
		"choice of 32":           ofSchema(api.Schema{Fields: []api.Field{field("s", api.Choice, numbered(32)...)}}),
		"widths and numbers":     ofSchema(schema(t, "a fixed(16), b span(64, i fixed(1)), c dict(31, uint64, w text)?, d dict(0, int8, w int8)")),
		"lists that are not nil": {Kind: api.HeadSchema, Schema: api.Schema{Fields: []api.Field{}, Notes: []api.Note{}}, Nodes: []api.Node{}, Slots: []api.Slot{}},
		"an empty note":          ofSchema(api.Schema{Notes: longNotes(1, 0, 0)}),
		"a batch of all":         {Kind: api.HeadBatch, Rows: 4096, Press: api.PressBack, Nodes: nodes(512, 4096, 4096), Slots: slots(1536, most, most, most)},
		"a batch of nothing":     {Kind: api.HeadBatch, Schema: api.Schema{Fields: []api.Field{}, Notes: []api.Note{}}},
		"a dictionary of all":    {Kind: api.HeadDict, ID: 31, Delta: true, Rows: 4096, Press: api.PressRuns, Nodes: nodes(512, 4096, 0), Slots: slots(1536, 0, most, 0)},
		"a dictionary of none":   {Kind: api.HeadDict},
		"slots as they like":     {Kind: api.HeadBatch, Rows: 1, Slots: []api.Slot{{At: most}, {Len: most}, {Raw: most}}, Nodes: nodes(1, 0, 0)},
	} {
		want := modelPut(h)
		if len(want) > api.MaxMeta || !modelMayBe(h) {
			t.Errorf("%s: %d bytes", name, len(want))
		}
		laid(t, h, want)
	}
}

// numbered is so many fields beside one another.
func numbered(n int) []api.Field {
	var l []api.Field
	for i := range n {
		l = append(l, field("f"+strconv.Itoa(i), api.Text))
	}
	return l
}

// P5.1: one thing beyond what may be.
func TestPutRefuses(t *testing.T) {
	empty := api.Schema{}
	one := schema(t, "a int8")
	noted := api.Schema{Notes: longNotes(1, 1, 1)}
	for name, h := range map[string]api.Head{
		"Kind 4":          {Kind: 4},
		"Kind -1":         {Kind: -1},
		"Kind 257":        {Kind: 257},
		"schema, ID":      {Kind: api.HeadSchema, ID: 1},
		"schema, Delta":   {Kind: api.HeadSchema, Delta: true},
		"schema, Rows":    {Kind: api.HeadSchema, Rows: -1},
		"schema, Press":   {Kind: api.HeadSchema, Press: 1},
		"schema, nodes":   {Kind: api.HeadSchema, Nodes: nodes(1, 0, 0)},
		"schema, slots":   {Kind: api.HeadSchema, Slots: slots(1, 0, 0, 0)},
		"17 notes":        ofSchema(api.Schema{Notes: longNotes(17, 0, 0)}),
		"a long key":      ofSchema(api.Schema{Notes: longNotes(1, 257, 0)}),
		"a long text":     ofSchema(api.Schema{Notes: longNotes(1, 0, 257)}),
		"a very long one": ofSchema(api.Schema{Notes: longNotes(1, 0, 1<<24)}),
		"33 fields":       ofSchema(api.Schema{Fields: numbered(33)}),
		"257 fields":      ofSchema(api.Schema{Fields: crowd(257)}),
		"65 levels":       ofSchema(api.Schema{Fields: []api.Field{chain(65)}}),
		"a name twice":    ofSchema(api.Schema{Fields: append(numbered(1), numbered(1)...)}),
		"no name":         ofSchema(api.Schema{Fields: []api.Field{field("", api.Int8)}}),
		"a null, never":   ofSchema(api.Schema{Fields: []api.Field{field("n", api.Null)}}),
		"kind 21":         ofSchema(api.Schema{Fields: []api.Field{field("n", 21)}}),
		"batch, ID -1":    {Kind: api.HeadBatch, ID: -1},
		"batch, Delta":    {Kind: api.HeadBatch, Delta: true},
	} {
		refused(t, name, h)
	}
	for _, k := range []int{api.HeadBatch, api.HeadDict} {
		for name, h := range map[string]api.Head{
			"a field":          {Schema: one},
			"a note":           {Schema: noted},
			"Rows -1":          {Schema: empty, Rows: -1},
			"Rows 4097":        {Rows: 4097},
			"Press -1":         {Press: -1},
			"Press 3":          {Press: 3},
			"513 nodes":        {Nodes: nodes(513, 0, 0)},
			"a Length of -1":   {Nodes: nodes(1, -1, -1)},
			"a Length of 4097": {Nodes: append(nodes(3, 1, 1), nodes(1, 4097, 0)...)},
			"Nulls -1":         {Nodes: nodes(1, 0, -1)},
			"Nulls 1 of 0":     {Nodes: append(nodes(511, 1, 1), nodes(1, 0, 1)...)},
			"1537 slots":       {Slots: slots(1537, 0, 0, 0)},
			"At -1":            {Slots: slots(1, -1, 0, 0)},
			"Len -1":           {Slots: slots(1, 0, -1, 0)},
			"Raw -1":           {Slots: slots(1, 0, 0, -1)},
			"At too great":     {Slots: slots(1, api.MaxBody+1, 0, 0)},
			"Len too great":    {Slots: slots(2, 0, api.MaxBody+1, 0)},
			"Raw too great":    {Slots: append(slots(1535, 0, 0, 0), slots(1, 0, 0, api.MaxBody+1)...)},
			"Raw of 2^32":      {Slots: slots(1, 0, 0, 1<<32)},
		} {
			h.Kind = k
			refused(t, name, h)
		}
	}
	refused(t, "dictionary 32", api.Head{Kind: api.HeadDict, ID: 32})
	refused(t, "dictionary -1", api.Head{Kind: api.HeadDict, ID: -1})
	refused(t, "dictionary 65536", api.Head{Kind: api.HeadDict, ID: 65536})
}

// P5.1, R1: a schema that holds itself is refused.
func TestPutEnds(t *testing.T) {
	round := []api.Field{field("a", api.List)}
	round[0].Type.Fields = round
	refused(t, "a list in itself", ofSchema(api.Schema{Fields: round}))
	refused(t, "a batch with it", api.Head{Kind: api.HeadBatch, Schema: api.Schema{Fields: round}})
}

// P5.1 against the model, on heads with a few things changed.
func TestPutModel(t *testing.T) {
	c := newChance(4)
	may := map[bool]int{}
	for range 20000 {
		h := c.head(t)
		for range 1 + c.Intn(3) {
			h = c.hurt(h)
		}
		is := modelMayBe(h)
		may[is]++
		if is {
			laid(t, h, modelPut(h))
		} else {
			refused(t, fmt.Sprintf("%+v", h), h)
		}
	}
	if min(may[true], may[false]) < 1000 {
		t.Errorf("%d may be, %d may not", may[true], may[false])
	}
}
