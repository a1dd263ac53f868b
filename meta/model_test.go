package meta

import (
	"encoding/binary"
	"fmt"
	"math/rand"
	"strings"
	"testing"

	"colonnade/api"
	"colonnade/kind"
)

// after says what stands behind a kind's number, ahead of the children: w Width, d ID, i Index, n how many children there are, 1 that there is one.
var after = map[int]string{14: "w", 15: "1", 16: "w1", 17: "n", 18: "n", 19: "di1", 20: "1"}

// modelMayBe is what the chapter says of heads that may be.
func modelMayBe(h api.Head) bool {
	if h.Kind == 1 {
		rest := fmt.Sprint(h.ID, h.Delta, h.Rows, h.Press, len(h.Nodes), len(h.Slots))
		return rest == "0 false 0 0 0 0" && kind.Check(h.Schema).Err == 0
	}
	ok := h.Kind == 2 && 0 <= h.ID && h.ID <= 31 || h.Kind == 3 && h.ID == 0 && !h.Delta
	ok = ok && len(h.Schema.Fields)+len(h.Schema.Notes) == 0
	ok = ok && 0 <= h.Rows && h.Rows <= 4096 && 0 <= h.Press && h.Press <= 2 && len(h.Nodes) <= 512 && len(h.Slots) <= 1536
	for _, n := range h.Nodes {
		ok = ok && 0 <= n.Nulls && n.Nulls <= n.Length && n.Length <= 4096
	}
	for _, s := range h.Slots {
		ok = ok && min(s.At, s.Len, s.Raw) >= 0 && max(s.At, s.Len, s.Raw) <= 4194304
	}
	return ok
}

func two(b []byte, n int) []byte { return binary.LittleEndian.AppendUint16(b, uint16(n)) }

func four(b []byte, l ...int) []byte {
	for _, n := range l {
		b = binary.LittleEndian.AppendUint32(b, uint32(n))
	}
	return b
}

func flagByte(is bool) byte { return map[bool]byte{true: 1}[is] }

// modelPut is the chapter's table of bytes, whatever the head is.
func modelPut(h api.Head) []byte {
	b := []byte{byte(h.Kind), 1, 0, 0}
	if h.Kind == 1 {
		b = modelFields(two(b, len(h.Schema.Fields)), h.Schema.Fields)
		b = two(b, len(h.Schema.Notes))
		for _, n := range h.Schema.Notes {
			b = append(two(b, len(n.Key)), n.Key...)
			b = append(two(b, len(n.Text)), n.Text...)
		}
		return b
	}
	if h.Kind == 2 {
		b = append(two(b, h.ID), flagByte(h.Delta))
	}
	b = append(four(b, h.Rows), byte(h.Press))
	b = two(b, len(h.Nodes))
	for _, n := range h.Nodes {
		b = four(b, n.Length, n.Nulls)
	}
	b = two(b, len(h.Slots))
	for _, s := range h.Slots {
		b = four(b, s.At, s.Len, s.Raw)
	}
	return b
}

func modelFields(b []byte, l []api.Field) []byte {
	for _, f := range l {
		b = append(append(b, byte(len(f.Name))), f.Name...)
		b = append(b, flagByte(f.Nullable), byte(f.Type.Kind))
		for _, c := range after[f.Type.Kind] {
			switch c {
			case 'w':
				b = two(b, f.Type.Width)
			case 'd':
				b = two(b, f.Type.ID)
			case 'i':
				b = append(b, byte(f.Type.Index))
			case 'n':
				b = append(b, byte(len(f.Type.Fields)))
			}
		}
		b = modelFields(b, f.Type.Fields)
	}
	return b
}

// model reads by a pile of things that are still to be read, the next one on top.
type model struct {
	b     []byte
	at    int
	begun int
	bad   api.Fault
	pile  []func()
}

func (m *model) next(l ...func()) {
	for i := len(l) - 1; i >= 0; i-- {
		m.pile = append(m.pile, l[i])
	}
}

func (m *model) wrong(e api.Errno, at int) { m.bad = api.Fault{Err: e, At: at} }

// bytes takes so many bytes, if they are there.
func (m *model) bytes(n int) []byte {
	if n > len(m.b)-m.at {
		m.wrong(51, m.at)
		return make([]byte, 8)
	}
	m.at += n
	return m.b[m.at-n : m.at]
}

// num is a number to be read.
func (m *model) num(to *int, width int) func() {
	return func() {
		*to = 0
		for i, c := range m.bytes(width)[:width] {
			*to += int(c) << (8 * i)
		}
	}
}

// one is a byte to be read that must be least to most.
func (m *model) one(to *int, least, most int) func() {
	return func() {
		at := m.at
		if m.num(to, 1)(); m.bad.Err == 0 && (*to < least || *to > most) {
			m.wrong(8, at)
		}
	}
}

func (m *model) bit(to *bool) func() {
	return func() {
		var n int
		m.one(&n, 0, 1)()
		*to = n == 1
	}
}

func (m *model) text(to *string, width int) func() {
	return func() {
		var n int
		m.next(m.num(&n, width), func() { *to = string(m.bytes(n)) })
	}
}

// many is a number, and so many things. (Each has a byte at least: one more than there are bytes is one that is not there.)
func (m *model) many(width int, things func(n int) []func()) func() {
	return func() {
		var n int
		m.next(m.num(&n, width), func() { m.next(things(min(n, len(m.b)+1))...) })
	}
}

// modelGet is what the chapter says of Get.
func modelGet(b []byte) (api.Head, api.Fault) {
	m := &model{b: b}
	var h api.Head
	var x int
	m.next(m.one(&h.Kind, 1, 3), m.one(&x, 1, 1), m.one(&x, 0, 0), m.one(&x, 0, 0), func() { m.rest(&h) })
	for len(m.pile) > 0 && m.bad.Err == 0 {
		do := m.pile[len(m.pile)-1]
		m.pile = m.pile[:len(m.pile)-1]
		do()
	}
	if m.bad.Err == 0 && m.at < len(b) {
		m.wrong(52, m.at)
	}
	if m.bad.Err == 0 && !modelMayBe(h) {
		m.wrong(50, 0)
	}
	if m.bad.Err != 0 {
		return api.Head{}, m.bad
	}
	return h, m.bad
}

func (m *model) rest(h *api.Head) {
	nodes := m.many(2, func(n int) (l []func()) {
		h.Nodes = make([]api.Node, n)
		for i := range h.Nodes {
			l = append(l, m.num(&h.Nodes[i].Length, 4), m.num(&h.Nodes[i].Nulls, 4))
		}
		return l
	})
	slots := m.many(2, func(n int) (l []func()) {
		h.Slots = make([]api.Slot, n)
		for i := range h.Slots {
			l = append(l, m.num(&h.Slots[i].At, 4), m.num(&h.Slots[i].Len, 4), m.num(&h.Slots[i].Raw, 4))
		}
		return l
	})
	notes := m.many(2, func(n int) (l []func()) {
		h.Schema.Notes = make([]api.Note, n)
		for i := range h.Schema.Notes {
			l = append(l, m.text(&h.Schema.Notes[i].Key, 2), m.text(&h.Schema.Notes[i].Text, 2))
		}
		return l
	})
	switch h.Kind {
	case 1:
		m.next(m.many(2, m.fields(&h.Schema.Fields, 0)), notes)
	case 2:
		m.next(m.num(&h.ID, 2), m.bit(&h.Delta), m.num(&h.Rows, 4), m.num(&h.Press, 1), nodes, slots)
	case 3:
		m.next(m.num(&h.Rows, 4), m.num(&h.Press, 1), nodes, slots)
	}
}

// fields is fields to be read around which so many stand.
func (m *model) fields(to *[]api.Field, around int) func(n int) []func() {
	return func(n int) (l []func()) {
		*to = make([]api.Field, n)
		for i := range n {
			l = append(l, func() { m.field(&(*to)[i], around) })
		}
		return l
	}
}

func (m *model) field(f *api.Field, around int) {
	if m.begun++; m.begun == 257 || around == 64 {
		m.wrong(50, m.at)
		return
	}
	t := &f.Type
	within := m.fields(&t.Fields, around+1)
	m.next(m.text(&f.Name, 1), m.bit(&f.Nullable), m.one(&t.Kind, 1, 20), func() {
		var l []func()
		for _, c := range after[t.Kind] {
			l = append(l, map[rune]func(){
				'w': m.num(&t.Width, 2), 'd': m.num(&t.ID, 2), 'i': m.num(&t.Index, 1),
				'n': m.many(1, within), '1': func() { m.next(within(1)...) },
			}[c])
		}
		m.next(l...)
	})
}

// schema is the schema of a text.
func schema(t *testing.T, text string) api.Schema {
	t.Helper()
	s, e, at := kind.Parse(text)
	if e != api.OK {
		t.Fatalf("Parse(%s): %d, %d", text, e, at)
	}
	return s
}

// chance makes heads, always the same ones.
type chance struct {
	*rand.Rand
	id int // how many dictionaries the schema has
}

func newChance(seed int64) *chance { return &chance{Rand: rand.New(rand.NewSource(seed))} }

func (c *chance) flip() bool { return c.Intn(2) == 0 }

// head makes a head that may be.
func (c *chance) head(t *testing.T) api.Head {
	h := api.Head{Kind: 1 + c.Intn(3)}
	switch h.Kind {
	case 1:
		c.id = 0
		h.Schema = schema(t, c.fields(c.Intn(5), 3, false))
		for range c.Intn(3) {
			h.Schema.Notes = append(h.Schema.Notes, api.Note{Key: c.bytes(), Text: c.bytes()})
		}
		return h
	case 2:
		h.ID, h.Delta = c.Intn(32), c.flip()
	}
	h.Rows, h.Press = c.upTo(4096), c.Intn(3)
	for range c.Intn(4) {
		n := c.upTo(4096)
		h.Nodes = append(h.Nodes, api.Node{Length: n, Nulls: c.upTo(n)})
	}
	for range c.Intn(5) {
		h.Slots = append(h.Slots, api.Slot{At: c.upTo(4194304), Len: c.upTo(4194304), Raw: c.upTo(4194304)})
	}
	return h
}

func (c *chance) bytes() string {
	b := make([]byte, c.Intn(5))
	c.Read(b)
	return string(b)
}

// upTo makes a number up to most, often an edge.
func (c *chance) upTo(most int) int {
	return []int{0, most, min(1, most), c.Intn(most + 1)}[c.Intn(4)]
}

// fields makes the text of fields.
func (c *chance) fields(n, depth int, inDict bool) string {
	var l []string
	for i := range n {
		l = append(l, c.field(strings.Repeat("aZ_", c.Intn(3))+"f"+fmt.Sprint(i), depth, c.flip(), inDict))
	}
	return strings.Join(l, ", ")
}

// field makes the text of a field that may be null, or not.
func (c *chance) field(name string, depth int, null, inDict bool) string {
	l := []string{"bool", "int8", "int16", "int32", "int64", "uint8", "uint16", "uint32", "uint64", "float64", "text", "bytes", fmt.Sprintf("fixed(%d)", 1+c.Intn(16))}
	if null {
		l = append(l, "null")
	}
	if depth > 0 {
		item := c.field("item", depth-1, c.flip(), inDict)
		l = append(l, "list("+item+")", fmt.Sprintf("span(%d, %s)", 1+c.Intn(64), item), "struct("+c.fields(c.Intn(4), depth-1, inDict)+")")
		if !null {
			l = append(l, "choice("+c.fields(1+c.Intn(3), depth-1, inDict)+")")
		}
		if !inDict {
			l = append(l, "runs("+c.field("run", depth-1, null, false)+")")
		}
		if !inDict && c.id < 32 && c.Intn(3) == 0 {
			l = []string{fmt.Sprintf("dict(%d, %s, %s)", c.id, l[1+c.Intn(8)], c.field("word", depth-1, false, true))}
		}
	}
	text := l[c.Intn(len(l))]
	if strings.Contains(text, fmt.Sprintf("dict(%d,", c.id)) {
		c.id++
	}
	return name + " " + text + map[bool]string{true: "?"}[null]
}

// hurt is a head of which one thing is another one, mostly a thing that may not be.
func (c *chance) hurt(h api.Head) api.Head {
	odd := []int{-1, 0, 1, 2, 3, 31, 32, 4096, 4097, 4194304, 4194305, 1 << 32, 1<<63 - 1, -1 << 63}[c.Intn(14)]
	h.Nodes, h.Slots = append([]api.Node{}, h.Nodes...), append([]api.Slot{}, h.Slots...)
	switch c.Intn(9) {
	case 0:
		h.Kind = c.Intn(6) - 1
	case 1:
		h.ID = odd
	case 2:
		h.Delta = !h.Delta
	case 3:
		h.Rows = odd
	case 4:
		h.Press = odd
	case 5:
		h.Nodes = append(h.Nodes, api.Node{Length: odd, Nulls: c.Intn(3) - 1})
	case 6:
		h.Slots = append(h.Slots, [...]api.Slot{{At: odd}, {Len: odd}, {Raw: odd}}[c.Intn(3)])
	case 7:
		h.Schema = api.Schema{Fields: []api.Field{{Name: "a", Type: api.Type{Kind: odd}}}}
	case 8:
		h.Schema = api.Schema{Notes: []api.Note{{Key: "k"}}}
	}
	return h
}
