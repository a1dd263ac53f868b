package press

// packRuns packs bytes as literals and runs.
func packRuns(b []byte) []byte {
	long := func(at int) int { return runAt(b, at) }
	return pack(b, long, func(out []byte, at, n int) []byte {
		return append(out, byte(firstOther+n-leastRun), b[at])
	})
}

// runAt tells how many bytes a run item has that begins at a place, 0 if none does.
func runAt(b []byte, at int) int {
	n := 1
	for n < mostRun && at+n < len(b) && b[at+n] == b[at] {
		n++
	}
	if n < leastRun {
		return 0
	}
	return n
}

// packBack packs bytes as literals and references.
func packBack(b []byte) []byte {
	met := metAt(b)
	long := func(at int) int { return backAt(b, met, at) }
	return pack(b, long, func(out []byte, at, n int) []byte {
		far := at - met[at] - 1
		return append(out, byte(firstOther+n-leastBack), byte(far), byte(far>>8))
	})
}

// metAt tells of each place from which four bytes stand the latest earlier one from which the same four do, -1 if there is none.
func metAt(b []byte) []int {
	var met []int
	latest := map[[leastBack]byte]int{}
	for at := 0; at+leastBack <= len(b); at++ {
		four := [leastBack]byte{b[at], b[at+1], b[at+2], b[at+3]}
		place, is := latest[four]
		if !is {
			place = -1
		}
		met = append(met, place)
		latest[four] = at
	}
	return met
}

// backAt tells how many bytes a reference has that begins at a place, 0 if none does.
func backAt(b []byte, met []int, at int) int {
	if at >= len(met) || met[at] < 0 {
		return 0
	}
	n := leastBack
	for n < mostBack && at+n < len(b) && b[at+n] == b[met[at]+n] {
		n++
	}
	return n
}

// pack lays items from the first byte on: what item lays where long tells how many bytes it packs, and literals where long tells 0.
func pack(b []byte, long func(at int) int, item func(out []byte, at, n int) []byte) []byte {
	var out []byte
	for at := 0; at < len(b); {
		n := long(at)
		if n > 0 {
			out = item(out, at, n)
		} else {
			n = literalAt(b, at, long)
			out = append(out, byte(n-1))
			out = append(out, b[at:at+n]...)
		}
		at += n
	}
	return out
}

// literalAt tells how many bytes a literal has that begins at a place: it ends ahead of the first place behind it where another item begins.
func literalAt(b []byte, at int, long func(at int) int) int {
	most := min(mostLiteral, len(b)-at)
	for n := 1; n < most; n++ {
		if long(at+n) > 0 {
			return n
		}
	}
	return most
}
