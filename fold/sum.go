package fold

import (
	"math"
	"math/big"
	"math/bits"

	"colonnade/api"
)

// notANumber is the bits of a sum that is no number.
const notANumber = 0x7ff8000000000000

// exactBits is how many bits the sum of floating-point numbers takes: none has a bit below 2^-1074, each is below 2^1024, and there are fewer than 2^31.
const exactBits = 1074 + 1024 + 31

// sumOf tells the sum of no numbers, that is of a kind in the end.
func sumOf(k int) summary {
	if k == api.Float64 {
		return &floatSum{finite: noSum()}
	}
	return &wholeSum{signed: k == api.Int64}
}

// wholeSum is the sum of whole numbers: one of 128 bits, as fewer than 2^31 numbers of 64 bits never come further.
type wholeSum struct {
	tally
	signed    bool
	high, low uint64
}

func (s *wholeSum) take(v api.Value) {
	s.note(v)
	high := uint64(0)
	if s.signed {
		high = uint64(v.Num >> 63)
	}
	s.add(high, uint64(v.Num)) // a null's Num is 0
}

// add adds a number of 128 bits.
func (s *wholeSum) add(high, low uint64) {
	sum, carry := bits.Add64(s.low, low, 0)
	s.low = sum
	s.high, _ = bits.Add64(s.high, high, carry)
}

func (s *wholeSum) merge(o summary) {
	p := o.(*wholeSum)
	s.join(p.tally)
	s.add(p.high, p.low)
}

func (s *wholeSum) value() (api.Value, api.Errno) {
	if s.some() == 0 {
		return api.Value{Null: true}, api.OK
	}
	high := uint64(0)
	if s.signed {
		high = uint64(int64(s.low) >> 63)
	}
	if s.high != high {
		return api.Value{}, api.ErrOverflow
	}
	return api.Value{Num: int64(s.low)}, api.OK
}

func (s *wholeSum) copy() summary {
	x := *s
	return &x
}

// floatSum is the sum of floating-point numbers: the exact one of those that are finite, and which others there are.
type floatSum struct {
	tally
	finite        *big.Float
	up, down, nan bool // an infinity, one with a sign, what is no number
}

// noSum is -0: what all other zeros make 0, and -0 leaves as it is.
func noSum() *big.Float {
	x := new(big.Float).SetPrec(exactBits)
	return x.Neg(x)
}

func (s *floatSum) take(v api.Value) {
	s.note(v)
	if v.Null {
		return
	}
	switch x := math.Float64frombits(uint64(v.Num)); {
	case math.IsNaN(x):
		s.nan = true
	case math.IsInf(x, 1):
		s.up = true
	case math.IsInf(x, -1):
		s.down = true
	default:
		s.finite.Add(s.finite, big.NewFloat(x))
	}
}

func (s *floatSum) merge(o summary) {
	p := o.(*floatSum)
	s.join(p.tally)
	s.finite.Add(s.finite, p.finite)
	s.up, s.down, s.nan = s.up || p.up, s.down || p.down, s.nan || p.nan
}

func (s *floatSum) value() (api.Value, api.Errno) {
	if s.some() == 0 {
		return api.Value{Null: true}, api.OK
	}
	return api.Value{Num: int64(s.bits())}, api.OK
}

// bits tells the sum's bits.
func (s *floatSum) bits() uint64 {
	switch {
	case s.nan || s.up && s.down:
		return notANumber
	case s.up:
		return math.Float64bits(math.Inf(1))
	case s.down:
		return math.Float64bits(math.Inf(-1))
	}
	x, _ := s.finite.Float64()
	return math.Float64bits(x)
}

func (s *floatSum) copy() summary {
	x := *s
	x.finite = noSum().Set(s.finite)
	return &x
}
