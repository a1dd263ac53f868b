package press

import (
	"bytes"
	"math/rand"
	"strings"

	"colonnade/api"
)

// modelPack is the chapter's words, place by place, with the whole text searched at each.
func modelPack(how int, s string) string {
	if how == 0 {
		return s
	}
	var p strings.Builder
	for at := 0; at < len(s); {
		item, n := modelItem(how, s, at)
		for n == 0 || item == "" && n < 128 && at+n < len(s) {
			if k, _ := modelItem(how, s, at+n); n > 0 && k != "" {
				break
			}
			n++
		}
		if item == "" {
			item = string([]byte{byte(n - 1)}) + s[at:at+n]
		}
		p.WriteString(item)
		at += n
	}
	return p.String()
}

// modelItem is the run or the reference at a place, and how many bytes it stands for.
func modelItem(how int, s string, at int) (string, int) {
	rest := s[at:]
	if how == 1 {
		n := min(130, len(rest)-len(strings.TrimLeft(rest, rest[:1])))
		if rest[0] >= 128 { // TrimLeft cuts letters, and such a byte is none
			for n = 1; n < 130 && n < len(rest) && rest[n] == rest[0]; n++ {
			}
		}
		if n >= 3 {
			return string([]byte{byte(n + 125), rest[0]}), n
		}
		return "", 0
	}
	if len(rest) < 4 {
		return "", 0
	}
	from := strings.LastIndex(s[:at+3], rest[:4])
	if from < 0 {
		return "", 0
	}
	n := 131
	for !strings.HasPrefix(rest, s[from:min(from+n, len(s))]) || from+n > len(s) || n > len(rest) {
		n--
	}
	far := at - from - 1
	return string([]byte{byte(n + 124), byte(far % 256), byte(far / 256)}), n
}

// modelOut is what comes out of packed bytes up to the first item that is wrong, and why (OK: none is); with which items how much has come out by then stands in ends.
func modelOut(how int, p string) (out string, ends []int, e api.Errno) {
	if how == 0 {
		if p != "" {
			ends = append(ends, len(p))
		}
		return p, ends, 0
	}
	for p != "" && len(out) <= api.MaxBytes {
		c, lays := int(p[0]), ""
		p = p[1:]
		switch {
		case c < 128 && len(p) > c:
			lays, p = p[:c+1], p[c+1:]
		case c >= 128 && how == 1 && len(p) > 0:
			lays, p = strings.Repeat(p[:1], c-125), p[1:]
		case c >= 128 && how == 2 && len(p) > 1:
			far := int(p[0]) + 256*int(p[1]) + 1
			if far > len(out) {
				return out, ends, 63
			}
			lays = strings.Repeat(out[len(out)-far:], (c-124)/far+1)[:c-124]
			p = p[2:]
		default:
			return out, ends, 60
		}
		out += lays
		ends = append(ends, len(out))
	}
	return out, ends, 0
}

// modelUnpack holds what comes out against what was said.
func modelUnpack(how int, p string, raw int) (string, api.Errno) {
	if how < 0 || how > 2 || raw < 0 {
		return "", 1
	}
	if raw > 65536 {
		return "", 4
	}
	out, ends, e := modelOut(how, p)
	for _, n := range ends {
		if n > raw {
			return "", 61
		}
	}
	if e != 0 {
		return "", e
	}
	if len(out) < raw {
		return "", 62
	}
	return out, 0
}

func modelSize(how int, p string) (int, api.Errno) {
	if how < 0 || how > 2 {
		return 0, 1
	}
	out, ends, e := modelOut(how, p)
	for _, n := range ends {
		if n > 65536 {
			return 0, 4
		}
	}
	if e != 0 {
		return 0, e
	}
	return len(out), 0
}

// chance makes bytes of many a kind; the same ones in each run.
type chance struct{ *rand.Rand }

func newChance(seed int64) chance { return chance{rand.New(rand.NewSource(seed))} }

// text is about n bytes: of few letters or many, runs, and pieces again of what came before.
func (c chance) text(n int) []byte {
	var b []byte
	letters := 1 + c.Intn([]int{1, 2, 4, 256}[c.Intn(4)])
	for len(b) < n {
		switch k := c.Intn(4); {
		case k == 0:
			b = append(b, bytes.Repeat([]byte{byte(c.Intn(letters))}, c.Intn(300))...)
		case k == 1 && len(b) > 0:
			from := c.Intn(len(b))
			b = append(b, b[from:min(len(b), from+c.Intn(300))]...)
		default:
			for range c.Intn(12) + 200*c.Intn(2) {
				b = append(b, byte(c.Intn(letters)))
			}
		}
	}
	return b[:n]
}

// items are bytes that mostly go through as items.
func (c chance) items(how int) []byte {
	var p []byte
	for range c.Intn(8) {
		k := c.Intn(256)
		if c.Intn(2) == 0 {
			k = []int{0, 1, 127, 128, 129, 255}[c.Intn(6)]
		}
		n := k + 1
		if k >= 128 {
			n = how
		}
		p = append(p, byte(k))
		for i := range n {
			x := c.Intn(256)
			if k >= 128 && how == 2 {
				x = []int{c.Intn(200), 0}[i]
			}
			p = append(p, byte(x))
		}
	}
	if c.Intn(3) == 0 && len(p) > 0 {
		p = p[:c.Intn(len(p))]
	}
	return p
}
