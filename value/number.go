package value

import (
	"math/bits"
	"strconv"
	"strings"

	"colonnade/api"
)

// What a Float64's 64 bits are made of.
const (
	fractionBits = 52
	hidden       = 1 << fractionBits // the bit ahead of the fraction that isn't laid down
	fraction     = hidden - 1
	special      = 2047  // the exponent of infinity and of what is no number
	least        = -1074 // the power of 2 that the lowest bit of the least numbers counts
	signBit      = 1 << 63
)

// numberText writes a number of a kind.
func numberText(k int, n int64) string {
	switch k {
	case api.Bool:
		return strconv.FormatBool(n == 1)
	case api.Uint64:
		return strconv.FormatUint(uint64(n), 10)
	case api.Float64:
		return floatText(uint64(n))
	}
	return strconv.FormatInt(n, 10)
}

// numberOf tells the number of a kind whose text a row is. What a row that is none comes to doesn't matter: it is written otherwise.
func numberOf(k int, row string) (int64, bool) {
	var n int64
	switch k {
	case api.Bool:
		if row == "true" {
			n = 1
		}
	case api.Uint64:
		u, _ := strconv.ParseUint(row, 10, 64)
		n = int64(u)
	case api.Float64:
		n = int64(floatOf(row))
	default:
		n, _ = strconv.ParseInt(row, 10, 64)
	}
	if !fitsNumber(k, n) || numberText(k, n) != row {
		return 0, false
	}
	return n, true
}

// floatText writes a floating-point number.
func floatText(b uint64) string {
	if b&signBit != 0 {
		return "-" + sizeText(b&^signBit)
	}
	return sizeText(b)
}

// sizeText writes a floating-point number without a sign.
func sizeText(b uint64) string {
	m, power := b&fraction, int(b>>fractionBits)
	switch {
	case b == 0:
		return "0p0"
	case power == special && m == 0:
		return "inf"
	case power == special:
		// The 1 ahead of the digits, which is cut off again, keeps their zeros.
		return "nan" + strconv.FormatUint(m|hidden, 16)[1:]
	case power > 0:
		m |= hidden
		power--
	}
	zeros := bits.TrailingZeros64(m)
	return strconv.FormatUint(m>>zeros, 10) + "p" + strconv.Itoa(power+least+zeros)
}

// floatOf tells the bits of the floating-point number whose text a row may be; of another row any bits.
func floatOf(row string) uint64 {
	rest, minus := strings.CutPrefix(row, "-")
	b := sizeOf(rest)
	if minus {
		b |= signBit
	}
	return b
}

// sizeOf tells the bits of a floating-point number without a sign.
func sizeOf(row string) uint64 {
	if row == "inf" {
		return special << fractionBits
	}
	if digits, ok := strings.CutPrefix(row, "nan"); ok {
		m, _ := strconv.ParseUint(digits, 16, fractionBits)
		return special<<fractionBits | m
	}
	number, power, _ := strings.Cut(row, "p")
	m, _ := strconv.ParseUint(number, 10, fractionBits+1)
	p, _ := strconv.ParseInt(power, 10, 16)
	return scaled(m, int(p))
}

// scaled tells the bits of m times 2 to a power, m being below 2 to the power of 53; 0, if no floating-point number is that.
func scaled(m uint64, power int) uint64 {
	// What the lowest bit counts is made as small as can be: so the number's highest bit comes to stand where it must.
	up := min(fractionBits+1-bits.Len64(m), power-least)
	if up < 0 || power-up-least >= special-1 {
		return 0
	}
	m <<= up
	if m < hidden {
		return m
	}
	return uint64(power-up-least+1)<<fractionBits | m&fraction
}
