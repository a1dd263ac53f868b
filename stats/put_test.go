package stats

import (
	"bytes"
	"encoding/binary"
	"slices"
	"strings"
	"testing"

	"colonnade/api"
	"colonnade/kind"
)

// modelGet is Get by the chapter's words: of a stat the least bytes that could be one are taken; what came out must be laid as the bytes were.
func modelGet(s api.Schema, b []byte) ([]api.Stat, api.Errno) {
	if kind.Check(s).Err != api.OK {
		return nil, api.ErrType
	}
	rest := append(slices.Clone(b), make([]byte, 4096)...) // zeros behind the end are not what Put laid: seen when it is laid again
	take := func(n int) []byte {
		p := rest[:n]
		rest = rest[n:]
		return p
	}
	var l []api.Stat
	for _, f := range s.Fields {
		x := api.Stat{Rows: int(binary.LittleEndian.Uint32(take(4))), Nulls: int(binary.LittleEndian.Uint32(take(4)))}
		x.Has = take(1)[0] == 1
		for _, v := range []*api.Value{&x.Least, &x.Most} {
			switch {
			case !x.Has:
			case isLetters(plain(f).Type.Kind):
				v.Text = string(take(min(int(take(1)[0]), 17))) // 17 bytes are too many
			default:
				v.Num = int64(binary.LittleEndian.Uint64(take(8)))
			}
		}
		l = append(l, x)
	}
	if again, e := modelPut(s, l); e != api.OK || !bytes.Equal(again, b) {
		return nil, api.ErrForm
	}
	return l, api.OK
}

// gets holds Get against stats and an error.
func gets(t testing.TB, s api.Schema, b []byte, want []api.Stat, err api.Errno) {
	t.Helper()
	l, e := Get(s, b)
	if e != err || !slices.EqualFunc(l, want, func(x, y api.Stat) bool { return told(x) == told(y) }) {
		t.Fatalf("Get of %x: %v, %d, not %v, %d", b, l, int(e), want, int(err))
	}
}

// P23.4, P23.5: whatever the schema and the stats, wrong ones too, what is laid is what the chapter says, and is read again.
func TestPut(t *testing.T) {
	c := newChance(7)
	count := map[api.Errno]int{}
	for range 20000 {
		s := c.schema(t, 5)
		l := c.stats(s)
		if len(l) > 0 && c.in(3) {
			c.hurtStat(&l[c.Intn(len(l))])
		}
		if c.in(20) {
			l = append(l, api.Stat{})
		}
		if len(s.Fields) > 0 && c.in(20) {
			s.Fields[c.Intn(len(s.Fields))].Name = one(c, []string{"a", ""})
		}
		want, err := modelPut(s, l)
		b, e := Put(s, l)
		if e != err || !bytes.Equal(b, want) {
			t.Fatalf("Put of %v: %x, %d, not %x, %d", l, b, int(e), want, int(err))
		}
		count[err]++
		if err == api.OK {
			gets(t, s, b, l, api.OK)
		}
	}
	for _, err := range []api.Errno{api.OK, api.ErrType, api.ErrUnlike, api.ErrValue} {
		if count[err] < 200 {
			t.Errorf("the error %d came only %d times", err, count[err])
		}
	}
}

// P23.4: what is wrong is told in the chapter's order.
func TestPutWrong(t *testing.T) {
	s := schemaOf(t, "a int8, b bool?")
	not := api.Schema{Fields: []api.Field{s.Fields[0], s.Fields[0]}}
	right, wrong := []api.Stat{{Rows: 1}, {}}, []api.Stat{{}, {Rows: -1}}
	for i, c := range []struct {
		s    api.Schema
		l    []api.Stat
		want api.Errno
	}{
		{not, right, api.ErrType}, {not, nil, api.ErrType}, {not, wrong, api.ErrType}, {api.Schema{Notes: make([]api.Note, api.MaxNotes+1)}, nil, api.ErrType},
		{s, nil, api.ErrUnlike}, {s, right[:1], api.ErrUnlike}, {s, wrong[1:], api.ErrUnlike}, {s, append(right, wrong...), api.ErrUnlike}, {api.Schema{}, right, api.ErrUnlike},
		{s, wrong, api.ErrValue}, {s, []api.Stat{{Rows: 1, Nulls: 2}, {}}, api.ErrValue},
		{s, right, api.OK}, {api.Schema{}, nil, api.OK},
	} {
		if b, e := Put(c.s, c.l); e != c.want || e != api.OK && b != nil {
			t.Errorf("%d: %x, %d, not %d", i, b, e, c.want)
		}
	}
	for _, b := range [][]byte{nil, {}, {0}, make([]byte, 9), make([]byte, 18)} {
		gets(t, not, b, nil, api.ErrType)
	}
}

// P23.4: the bytes of each kind.
func TestPutBytes(t *testing.T) {
	a := strings.Repeat("a", 16)
	head := "\x00\x00\x10\x00\x03\x02\x01\x00\x01"
	x := func(least, most api.Value) api.Stat { return bounds(1048576, 66051, least, most) }
	for _, c := range []struct {
		field string
		x     api.Stat
		want  string
	}{
		{"n int8", api.Stat{}, strings.Repeat("\x00", 9)},
		{"n null?", api.Stat{Rows: 258, Nulls: 1}, "\x02\x01\x00\x00\x01\x00\x00\x00\x00"},
		{"n bool", x(num(0), num(1)), head + "\x00\x00\x00\x00\x00\x00\x00\x00\x01\x00\x00\x00\x00\x00\x00\x00"},
		{"n int16", x(num(-2), num(258)), head + "\xfe\xff\xff\xff\xff\xff\xff\xff\x02\x01\x00\x00\x00\x00\x00\x00"},
		{"n uint64", x(num(0x0102030405060708), num(-1)), head + "\x08\x07\x06\x05\x04\x03\x02\x01\xff\xff\xff\xff\xff\xff\xff\xff"},
		{"n float64", x(num(-1<<63), num(0x3ff<<52)), head + "\x00\x00\x00\x00\x00\x00\x00\x80\x00\x00\x00\x00\x00\x00\xf0\x3f"},
		{"n text", x(text(""), text("\xc4")), head + "\x00\x01\xc4"},
		{"n bytes", x(text("aa"), text(a)), head + "\x02aa\x10" + a},
		{"n fixed(3)", x(text("ab"), text("abcd")), head + "\x02ab\x04abcd"},
		{"n dict(0, int8, w text)", x(text("b"), text("b")), head + "\x01b\x01b"},
		{"n runs(v uint8?)?", x(num(1), num(255)), head + "\x01\x00\x00\x00\x00\x00\x00\x00\xff\x00\x00\x00\x00\x00\x00\x00"},
	} {
		s := schemaOf(t, c.field)
		b, e := Put(s, []api.Stat{c.x})
		if e != api.OK || string(b) != c.want {
			t.Errorf("%s: %x, %d, not %x", c.field, b, e, c.want)
		}
		gets(t, s, []byte(c.want), []api.Stat{c.x}, api.OK)
		for n := range len(c.want) {
			gets(t, s, []byte(c.want[:n]), nil, api.ErrForm)
		}
		gets(t, s, []byte(c.want+"\x00"), nil, api.ErrForm)
	}
	gets(t, api.Schema{}, nil, nil, api.OK)
	gets(t, api.Schema{}, []byte{0}, nil, api.ErrForm)
	// Columns one behind the other, in their order.
	s := schemaOf(t, "a bytes, b int8?, c list(i int8)")
	l := []api.Stat{bounds(1, 0, text("x"), text("yz")), {Rows: 2, Nulls: 2}, {Rows: 3}}
	b, e := Put(s, l)
	if want := "\x01\x00\x00\x00\x00\x00\x00\x00\x01\x01x\x02yz\x02\x00\x00\x00\x02\x00\x00\x00\x00\x03\x00\x00\x00\x00\x00\x00\x00\x00"; e != api.OK || string(b) != want {
		t.Errorf("%x, %d, not %x", b, e, want)
	}
}

// P23.4: bytes that Put lays of no list.
func TestGetWrong(t *testing.T) {
	for field, l := range map[string][]string{
		"n int8": {
			"\x01\x00\x10\x00\x00\x00\x00\x00\x00", "\xff\xff\xff\xff\x00\x00\x00\x00\x00", "\x01\x00\x00\x00\x02\x00\x00\x00\x00", "\x01\x00\x00\x00\x00\x00\x00\x00\x02", "\x01\x00\x00\x00\x00\x00\x00\x00\xff",
			"\x01\x00\x00\x00\x00\x00\x00\x00\x01" + "\x80\x00\x00\x00\x00\x00\x00\x00" + "\x80\x00\x00\x00\x00\x00\x00\x00",
			"\x01\x00\x00\x00\x00\x00\x00\x00\x01" + "\x02\x00\x00\x00\x00\x00\x00\x00" + "\x01\x00\x00\x00\x00\x00\x00\x00",
			"\x01\x00\x00\x00\x01\x00\x00\x00\x01" + "\x01\x00\x00\x00\x00\x00\x00\x00" + "\x01\x00\x00\x00\x00\x00\x00\x00",
			"\x01\x00\x00\x00\x00\x00\x00\x00\x01\x01\x01",
		},
		"n text": {
			"\x01\x00\x00\x00\x00\x00\x00\x00\x01\x01b\x01a", "\x01\x00\x00\x00\x00\x00\x00\x00\x01\x00\x11" + strings.Repeat("a", 17), "\x01\x00\x00\x00\x00\x00\x00\x00\x01\x01a\x02b",
			"\x01\x00\x00\x00\x00\x00\x00\x00\x01" + strings.Repeat("\x00", 16),
		},
		"n list(i int8)": {"\x01\x00\x00\x00\x00\x00\x00\x00\x01" + strings.Repeat("\x00", 16), "\x01\x00\x00\x00\x00\x00\x00\x00\x01\x00\x00", "\x01\x00\x00\x00\x00\x00\x00\x00\x01"},
	} {
		for _, b := range l {
			gets(t, schemaOf(t, field), []byte(b), nil, api.ErrForm)
		}
	}
}

// P23.4: of any bytes, most of them nearly what Put laid.
func TestGet(t *testing.T) {
	c := newChance(8)
	count := map[api.Errno]int{}
	for range 40000 {
		s := c.schema(t, 4)
		b, _ := Put(s, c.stats(s))
		for c.in(2) {
			switch i := c.Intn(len(b) + 1); c.Intn(4) {
			case 0:
				b = b[:i]
			case 1:
				b = slices.Insert(slices.Clone(b), i, byte(c.Intn(3)))
			case 2:
				if i < len(b) {
					b = slices.Delete(slices.Clone(b), i, i+1)
				}
			case 3:
				if i < len(b) {
					b[i] ^= 1 << c.Intn(8)
				}
			}
		}
		want, err := modelGet(s, b)
		gets(t, s, b, want, err)
		count[err]++
	}
	if count[api.OK] < 10000 || count[api.ErrForm] < 5000 {
		t.Errorf("%v", count)
	}
}
