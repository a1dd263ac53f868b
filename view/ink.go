package view

import "colonnade/api"

// Ink: bytes that are laid down, one behind the other.
type Ink struct {
	bytes []byte
	most  int
}

// NewInk makes one that takes at most so many bytes.
func NewInk(most int) *Ink { return &Ink{most: min(max(most, 0), api.MaxFile)} }

// Number lays a number down in so many bytes.
func (k *Ink) Number(x uint64, width int) api.Errno {
	if !isWidth(width) {
		return api.ErrArg
	}
	if !k.takes(width) {
		return api.ErrBytes
	}
	for i := range width {
		k.bytes = append(k.bytes, byte(x>>(8*i)))
	}
	return api.OK
}

// Text lays a text's bytes down.
func (k *Ink) Text(s string) api.Errno {
	if !k.takes(len(s)) {
		return api.ErrBytes
	}
	k.bytes = append(k.bytes, s...)
	return api.OK
}

// Fill lays a byte down n times.
func (k *Ink) Fill(n int, b byte) api.Errno {
	if n < 0 {
		return api.ErrArg
	}
	if !k.takes(n) {
		return api.ErrBytes
	}
	for range n {
		k.bytes = append(k.bytes, b)
	}
	return api.OK
}

// Pad lays zeros down till there is a whole number of so many bytes.
func (k *Ink) Pad(to int) api.Errno {
	if to < 1 || to > 64 {
		return api.ErrArg
	}
	return k.Fill((to-len(k.bytes)%to)%to, 0)
}

// takes tells whether n bytes more (0 or more) stay within the bound.
func (k *Ink) takes(n int) bool { return n <= k.most-len(k.bytes) }

// Len tells how many bytes were laid down.
func (k *Ink) Len() int { return len(k.bytes) }

// Bytes tells them.
func (k *Ink) Bytes() []byte {
	b := make([]byte, len(k.bytes))
	copy(b, k.bytes)
	return b
}
