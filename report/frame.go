package report

import (
	"iter"
	"math/bits"

	"cresset/api"
)

// How many bits the numbers of a signal have, and where they begin in a frame's data.
const (
	ownerBits = 28
	placeBits = 14
	smallBits = 4

	xBegin     = ownerBits
	yBegin     = xBegin + placeBits
	byBegin    = yBegin + placeBits
	flagsBegin = byBegin + smallBits
)

// lastPosition is that of the last bit of a frame's data.
const lastPosition = 71

// Pack returns the frame of a signal.
func Pack(s api.Signal) (api.Frame, api.Errno) {
	if !isSignal(s) {
		return api.Frame{}, api.ErrRange
	}
	f := api.Frame{Data: dataOf(s)}
	f.Check = uint8(pointer(f))
	if isOdd(f) {
		f.Check |= 1 << 7
	}
	return f, api.OK
}

// Mend returns the signal of a frame.
func Mend(f api.Frame) (s api.Signal, mended bool, e api.Errno) {
	wrong := pointer(f)
	if !isOdd(f) { // it has no wrong bit, or two at least
		if wrong != 0 {
			return api.Signal{}, false, api.ErrNoise
		}
		return signalOf(f.Data), false, api.OK
	}
	if isCheck(wrong) || wrong == 0 { // the data is right
		return signalOf(f.Data), true, api.OK
	}
	for bit, position := range positions() {
		if position == wrong {
			return signalOf(f.Data ^ 1<<bit), true, api.OK
		}
	}
	return api.Signal{}, false, api.ErrNoise
}

// isSignal reports whether the numbers of a signal are in their ranges.
func isSignal(s api.Signal) bool {
	const owners, half, small = 1 << ownerBits, 1 << (placeBits - 1), 1 << smallBits
	return isFrom(s.Owner, 0, owners-1) && isFrom(s.X, -half, half-1) && isFrom(s.Y, -half, half-1) &&
		isFrom(s.By, 0, small-1) && isFrom(s.Flags, 0, small-1)
}

// dataOf returns the bits of a signal.
func dataOf(s api.Signal) uint64 {
	const places = 1<<placeBits - 1
	return uint64(s.Owner) | uint64(s.X&places)<<xBegin | uint64(s.Y&places)<<yBegin |
		uint64(s.By)<<byBegin | uint64(s.Flags)<<flagsBegin
}

// signalOf returns the signal of some bits.
func signalOf(data uint64) api.Signal {
	const owners, small = 1<<ownerBits - 1, 1<<smallBits - 1
	return api.Signal{
		Owner: int(data & owners),
		X:     signed(data >> xBegin),
		Y:     signed(data >> yBegin),
		By:    int(data >> byBegin & small),
		Flags: int(data >> flagsBegin & small),
	}
}

// signed returns what the lowest bits of data are in two's complement, as many as a place has.
func signed(data uint64) int {
	const others = 64 - placeBits
	return int(int64(data<<others) >> others)
}

// isCheck reports whether a position is that of a bit of Check: a power of two.
func isCheck(position int) bool {
	return bits.OnesCount(uint(position)) == 1
}

// positions yields the bits of a frame's data, from bit 0 on, each with its position.
func positions() iter.Seq2[int, int] {
	return func(yield func(bit, position int) bool) {
		bit := 0
		for position := 1; position <= lastPosition; position++ {
			if isCheck(position) {
				continue
			}
			if !yield(bit, position) {
				return
			}
			bit++
		}
	}
}

// pointer returns the exclusive or of the positions of all bits that are 1. It is 0 for a right frame, and the bit that is turned changes it by its own position.
func pointer(f api.Frame) int {
	p := int(f.Check &^ (1 << 7)) // bit k is at the position 2^k
	for bit, position := range positions() {
		if f.Data>>bit&1 == 1 {
			p ^= position
		}
	}
	return p
}

// isOdd reports whether an odd number of all bits is 1.
func isOdd(f api.Frame) bool {
	return (bits.OnesCount64(f.Data)+bits.OnesCount8(f.Check))%2 == 1
}
