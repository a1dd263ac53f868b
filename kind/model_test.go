package kind

import (
	"fmt"
	"math/rand"
	"regexp"
	"strconv"

	"colonnade/api"
)

// plain is a field without children.
func plain(name string, k int) api.Field { return api.Field{Name: name, Type: api.Type{Kind: k}} }

// with is a field of a kind with these children.
func with(name string, k int, l ...api.Field) api.Field {
	return api.Field{Name: name, Type: api.Type{Kind: k, Fields: l}}
}

// wide is a field with a Width.
func wide(name string, k, width int, l ...api.Field) api.Field {
	f := with(name, k, l...)
	f.Type.Width = width
	return f
}

// dict is a field of kind Dict.
func dict(name string, id, index int, l ...api.Field) api.Field {
	f := with(name, api.Dict, l...)
	f.Type.ID, f.Type.Index = id, index
	return f
}

// maybe is the same field, Nullable.
func maybe(f api.Field) api.Field {
	f.Nullable = true
	return f
}

// of is the schema of these fields.
func of(l ...api.Field) api.Schema { return api.Schema{Fields: l} }

// chain is a field of so many levels, lists in lists.
func chain(levels int) api.Field {
	f := plain("a", api.Int8)
	for range levels - 1 {
		f = with("a", api.List, f)
	}
	return f
}

// crowd is fields of so many nodes in all, in structs beside one another.
func crowd(nodes int) []api.Field {
	var l []api.Field
	for i := 0; nodes > 0; i++ {
		f := plain("c"+strconv.Itoa(i), api.Struct)
		nodes--
		for k := 0; k < 31 && nodes > 0; k++ {
			f.Type.Fields = append(f.Type.Fields, plain("m"+strconv.Itoa(k), api.Bool))
			nodes--
		}
		l = append(l, f)
	}
	return l
}

// modelKinds says of each kind, in the order of api: its word; the greatest Width, if it has one; the least and the most children; bytes a row; buffers.
const modelKinds = `
 1 null    0  0 0  0 0
 2 bool    0  0 0  0 2
 3 int8    0  0 0  1 2
 4 int16   0  0 0  2 2
 5 int32   0  0 0  4 2
 6 int64   0  0 0  8 2
 7 uint8   0  0 0  1 2
 8 uint16  0  0 0  2 2
 9 uint32  0  0 0  4 2
10 uint64  0  0 0  8 2
11 float64 0  0 0  8 2
12 text    0  0 0  0 3
13 bytes   0  0 0  0 3
14 fixed   16 0 0  0 2
15 list    0  1 1  0 2
16 span    64 1 1  0 1
17 struct  0  0 32 0 1
18 choice  0  1 32 0 2
19 dict    0  1 1  0 2
20 runs    0  1 1  0 0
`

// modelRow is a line of modelKinds.
type modelRow struct {
	word                                string
	widest, least, most, bytes, buffers int
}

var modelTable = func() map[int]modelRow {
	m := map[int]modelRow{}
	for _, l := range regexp.MustCompile(`(?m)^ *\d.*$`).FindAllString(modelKinds, -1) {
		var k int
		var r modelRow
		if _, err := fmt.Sscan(l, &k, &r.word, &r.widest, &r.least, &r.most, &r.bytes, &r.buffers); err != nil {
			panic(err)
		}
		m[k] = r
	}
	return m
}()

var modelName = regexp.MustCompile(`\A[a-zA-Z_][a-zA-Z0-9_]{0,47}\z`)

// seen is a field as the model looks at it.
type seen struct {
	path   []int
	field  api.Field
	before []api.Field // in its list
	above  []api.Field // in which it stands
}

// flat is the first fields of a list in their order, as many as a Check may have to look at, and no deeper.
func flat(list []api.Field) []seen {
	var l []seen
	var down func(list []api.Field, path []int, above []api.Field)
	down = func(list []api.Field, path []int, above []api.Field) {
		for i, f := range list {
			if len(l) > 300 || len(path) > 66 {
				return
			}
			way := append(append([]int{}, path...), i)
			l = append(l, seen{way, f, list[:i], above})
			down(f.Type.Fields, way, append(append([]api.Field{}, above...), f))
		}
	}
	down(list, nil, nil)
	return l
}

// modelCheck is the chapter's list of what may be wrong, word by word.
func modelCheck(s api.Schema) api.Fault {
	if len(s.Fields) > 32 {
		return api.Fault{Err: 34, At: 32}
	}
	if len(s.Notes) > 16 {
		return api.Fault{Err: 34, At: 16}
	}
	for i, n := range s.Notes {
		if max(len(n.Key), len(n.Text)) > 256 {
			return api.Fault{Err: 37, At: i}
		}
	}
	all := flat(s.Fields)
	for i, x := range all {
		if e := modelWrong(x, all[:i]); e != 0 {
			return api.Fault{Err: e, Path: x.path}
		}
	}
	return api.Fault{}
}

func modelWrong(x seen, ahead []seen) api.Errno {
	f, t := x.field, x.field.Type
	r, known := modelTable[t.Kind]
	if len(x.path) > 64 {
		return 33
	}
	if len(ahead) >= 256 {
		return 34
	}
	if !modelName.MatchString(f.Name) {
		return 30
	}
	for _, b := range x.before {
		if b.Name == f.Name {
			return 31
		}
	}
	width := t.Width == 0
	if r.widest > 0 {
		width = t.Width > 0 && t.Width <= r.widest
	}
	number := t.ID == 0 && t.Index == 0
	if r.word == "dict" {
		number = t.ID >= 0 && t.ID <= 31 && t.Index >= 3 && t.Index <= 10
	}
	if !known || !width || !number || len(t.Fields) < r.least || len(t.Fields) > r.most {
		return 32
	}
	if r.word == "null" && !f.Nullable || r.word == "choice" && f.Nullable || r.word == "runs" && f.Nullable != t.Fields[0].Nullable {
		return 35
	}
	return modelDict(x, ahead, r.word)
}

func modelDict(x seen, ahead []seen, word string) api.Errno {
	for _, a := range x.above {
		if a.Type.Kind == api.Dict && (word == "dict" || word == "runs") {
			return 36
		}
	}
	if word != "dict" {
		return 0
	}
	for _, a := range ahead {
		if a.field.Type.Kind == api.Dict && a.field.Type.ID == x.field.Type.ID {
			return 36
		}
	}
	if x.field.Type.Fields[0].Nullable {
		return 36
	}
	return 0
}

// chance makes schemas, always the same ones.
type chance struct {
	*rand.Rand
	ids []int // of dictionaries, which are not given out yet
}

func newChance(seed int64) *chance {
	r := rand.New(rand.NewSource(seed))
	return &chance{r, r.Perm(32)}
}

// schema makes a schema that may be.
func (c *chance) schema() api.Schema {
	c.ids = c.Perm(32)
	s := api.Schema{Fields: c.fields(c.Intn(5), 3, false)}
	for range c.Intn(3) {
		s.Notes = append(s.Notes, api.Note{Key: c.bytes(), Text: c.bytes()})
	}
	return s
}

func (c *chance) bytes() string {
	b := make([]byte, c.Intn(6))
	for i := range b {
		b[i] = []byte{0, 9, 10, 31, 32, 34, 92, 'x', 'a', 126, 127, 128, 255, byte(c.Intn(256))}[c.Intn(14)]
	}
	return string(b)
}

func (c *chance) fields(n, depth int, inDict bool) []api.Field {
	var l []api.Field
	for i := range n {
		l = append(l, c.field(c.name(i), depth, inDict))
	}
	return l
}

// name makes a name that no other number gets.
func (c *chance) name(i int) string {
	return []string{"a", "B_", "_", "list", "int8", "null", "z9"}[c.Intn(7)] + "_" + strconv.Itoa(i)
}

func (c *chance) field(name string, depth int, inDict bool) api.Field {
	k := 1 + c.Intn(20)
	if depth == 0 {
		k = 1 + c.Intn(14)
	}
	if (k == api.Dict || k == api.Runs) && inDict || k == api.Dict && len(c.ids) == 0 {
		k = api.Struct
	}
	f := plain(name, k)
	f.Nullable = c.Intn(2) == 0
	switch k {
	case api.Fixed:
		f.Type.Width = 1 + c.Intn(16)
	case api.Span:
		f.Type.Width = 1 + c.Intn(64)
	case api.Dict:
		f.Type.ID, f.Type.Index = c.ids[0], 3+c.Intn(8)
		c.ids = c.ids[1:]
	}
	if r := modelTable[k]; r.most > 0 {
		n := r.least + c.Intn(min(r.most-r.least, 3)+1)
		f.Type.Fields = c.fields(n, depth-1, inDict || k == api.Dict)
	}
	switch k {
	case api.Null:
		f.Nullable = true
	case api.Choice:
		f.Nullable = false
	case api.Runs:
		f.Nullable = f.Type.Fields[0].Nullable
	case api.Dict:
		f.Type.Fields[0] = c.neverNull(f.Type.Fields[0])
	}
	return f
}

func (c *chance) neverNull(f api.Field) api.Field {
	if f.Type.Kind == api.Null {
		f.Type.Kind = api.Bool
	}
	f.Nullable = false
	return f
}

// hurt is a schema of which one thing is another one, mostly a thing that may not be.
func (c *chance) hurt(s api.Schema) api.Schema {
	s = api.Schema{Fields: copied(s.Fields), Notes: append([]api.Note{}, s.Notes...)}
	var all []*api.Field
	var down func(l []api.Field)
	down = func(l []api.Field) {
		for i := range l {
			all = append(all, &l[i])
			down(l[i].Type.Fields)
		}
	}
	down(s.Fields)
	if len(all) == 0 {
		return s
	}
	f := all[c.Intn(len(all))]
	other := all[c.Intn(len(all))]
	switch c.Intn(11) {
	case 0:
		f.Name = []string{"", "9", "a-b", "ä", "x y", "a\n", "A9_z"}[c.Intn(7)]
	case 1:
		f.Name = other.Name
	case 2:
		f.Type.Kind = c.Intn(24) - 2
	case 3:
		f.Nullable = !f.Nullable
	case 4:
		f.Type.Width = []int{-1, 0, 1, 16, 17, 64, 65}[c.Intn(7)]
	case 5:
		f.Type.ID = []int{-1, 0, 31, 32, other.Type.ID}[c.Intn(5)]
	case 6:
		f.Type.Index = []int{-1, 0, 2, 3, 10, 11}[c.Intn(6)]
	case 7:
		f.Type.Fields = f.Type.Fields[:len(f.Type.Fields)/2]
	case 8:
		f.Type.Fields = append(f.Type.Fields, plain("more", api.Int8))
	case 9:
		g := copied([]api.Field{*other})
		g[0].Name = "within"
		f.Type.Fields = append(f.Type.Fields, g...)
	case 10:
		g := copied([]api.Field{*other})
		f.Type = api.Type{Kind: api.Dict, ID: c.Intn(32), Index: api.Int8, Fields: g}
	}
	return s
}
