package value

import "colonnade/api"

const (
	hashBegin  = 14695981039346656037
	hashFactor = 1099511628211
)

// Hash tells a value's hash.
func Hash(v api.Value) uint64 { return hashValue(hashBegin, v) }

// hashValue goes on with a value's row of bytes.
func hashValue(h uint64, v api.Value) uint64 {
	null := byte(0)
	if v.Null {
		null = 1
	}
	h = hashByte(h, null)
	h = hashNumber(h, uint64(v.Num))
	h = hashNumber(h, uint64(len(v.Text)))
	for i := range len(v.Text) {
		h = hashByte(h, v.Text[i])
	}
	h = hashNumber(h, uint64(len(v.List)))
	for _, x := range v.List {
		h = hashValue(h, x)
	}
	return h
}

// hashNumber goes on with a number's eight bytes.
func hashNumber(h, n uint64) uint64 {
	for range 8 {
		h = hashByte(h, byte(n))
		n >>= 8
	}
	return h
}

// hashByte goes on with a byte.
func hashByte(h uint64, c byte) uint64 { return (h ^ uint64(c)) * hashFactor }
