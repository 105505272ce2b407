// Package sum32 has a check sum of 32 bits. See shared/doc/02-sum32.md.
package sum32

import "slices"

const (
	feedback = 0x82F63B78
	sumBytes = 4
	maxMany  = 1 << 20
)

// Sum tells bytes' check sum.
func Sum(b []byte) uint32 {
	x := ^uint32(0)
	for _, c := range b {
		x = step(x, c)
	}
	return ^x
}

// step tells 32 bits behind the step of a byte.
func step(x uint32, c byte) uint32 {
	x ^= uint32(c)
	for range 8 {
		out := x & 1
		x = x>>1 ^ feedback*out
	}
	return x
}

// Seal puts the sum behind bytes.
func Seal(b []byte) []byte {
	// A copy, since b's spare room is not ours to write into.
	sealed := slices.Clone(b)
	x := Sum(b)
	for i := range sumBytes {
		sealed = append(sealed, byte(x>>(8*i)))
	}
	return sealed
}

// Open tells what was sealed.
func Open(b []byte) ([]byte, bool) {
	if len(b) < sumBytes {
		return nil, false
	}
	inner, tail := b[:len(b)-sumBytes], b[len(b)-sumBytes:]
	x := Sum(inner)
	for i := range sumBytes {
		if tail[i] != byte(x>>(8*i)) {
			return nil, false
		}
	}
	return slices.Clone(inner), true
}

// Join tells the sum of two texts together.
func Join(a, b uint32, many int) uint32 {
	if many < 0 || many > maxMany {
		return 0
	}
	return power(many)(a) ^ b
}

// power makes what many steps of the byte 0 do. By halves, so that the work grows with many's digits, not with many.
func power(many int) func(uint32) uint32 {
	if many == 0 {
		return func(x uint32) uint32 { return x }
	}
	twice := squared(power(many / 2))
	if many%2 == 0 {
		return twice
	}
	return func(x uint32) uint32 { return step(twice(x), 0) }
}

// squared makes what f does when it is done twice. Steps go through a xor, so what becomes of each bit alone tells all.
func squared(f func(uint32) uint32) func(uint32) uint32 {
	var of [32]uint32
	for i := range 32 {
		of[i] = f(f(1 << i))
	}
	return func(x uint32) uint32 {
		y := uint32(0)
		for i := range 32 {
			y ^= of[i] * (x >> i & 1)
		}
		return y
	}
}
