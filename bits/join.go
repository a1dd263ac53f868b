package bits

import "colonnade/api"

// And tells which of the first n bits are 1 in both maps.
func And(a, b []byte, n int) ([]byte, api.Errno) {
	return joined(a, b, n, func(x, y byte) byte { return x & y })
}

// Or tells which of the first n bits are 1 in one map at least.
func Or(a, b []byte, n int) ([]byte, api.Errno) {
	return joined(a, b, n, func(x, y byte) byte { return x | y })
}

// Xor tells which of the first n bits are 1 in just one map.
func Xor(a, b []byte, n int) ([]byte, api.Errno) {
	return joined(a, b, n, func(x, y byte) byte { return x ^ y })
}

// Not tells which of the first n bits are 0.
func Not(a []byte, n int) ([]byte, api.Errno) {
	return joined(a, a, n, func(x, _ byte) byte { return ^x })
}

// joined makes a map of n bits out of two, byte by byte.
func joined(a, b []byte, n int, join func(x, y byte) byte) ([]byte, api.Errno) {
	for _, m := range [2][]byte{a, b} {
		if e := refused(m, 0, n); e != api.OK {
			return nil, e
		}
	}
	out := make([]byte, Need(n))
	for i := range out {
		out[i] = join(a[i], b[i])
	}
	if rest := n % 8; rest > 0 {
		// What the maps hold behind the last bit must not be seen.
		out[len(out)-1] &= 1<<rest - 1
	}
	return out, api.OK
}
