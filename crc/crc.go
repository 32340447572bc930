// Package crc is layer 1: see shared/doc/01-crc.md.
package crc

// pattern is CRC32C's polynomial, turned round: its lowest power is the highest bit, since steps move to the right.
const pattern = 0x82f63b78

// Sum is the sum of a text.
func Sum(b string) uint32 { return On(0, b) }

// On is the sum of a text with another one behind it, out of the first one's sum.
func On(sum uint32, b string) uint32 { return ^turn(^sum, b) }

// Join is the sum of two texts, one behind the other, out of both sums and the second one's length.
func Join(a, b uint32, n int) uint32 {
	// A byte's steps are doubled, not a single one's: 8 n may be beyond the greatest int.
	m := byteSteps()
	for ; n > 0; n >>= 1 {
		if n&1 == 1 {
			a = m.of(a)
		}
		m = m.twice()
	}
	return a ^ b
}

// step is one step of chapter 1.
func step(x uint32) uint32 {
	if x&1 == 1 {
		return x>>1 ^ pattern
	}
	return x >> 1
}

// halfBytes is what four steps make of each of the sixteen half bytes.
func halfBytes() [16]uint32 {
	var t [16]uint32
	for i := range t {
		x := uint32(i)
		for range 4 {
			x = step(x)
		}
		t[i] = x
	}
	return t
}

// turn is what a text's bytes make of x.
func turn(x uint32, b string) uint32 {
	t := halfBytes()
	for i := range len(b) {
		x ^= uint32(b[i])
		// Steps are linear: what lies above the half byte only moves, and the table has the rest.
		x = x>>4 ^ t[x&15]
		x = x>>4 ^ t[x&15]
	}
	return x
}

// steps is so many steps at once: what they make of each single bit says, as they are linear, what they make of every number.
type steps [32]uint32

// byteSteps is the eight steps of a byte.
func byteSteps() steps {
	var m steps
	for i := range m {
		x := uint32(1) << i
		for range 8 {
			x = step(x)
		}
		m[i] = x
	}
	return m
}

// of is what the steps make of x.
func (m *steps) of(x uint32) uint32 {
	var sum uint32
	for i, y := range m {
		if x>>i&1 == 1 {
			sum ^= y
		}
	}
	return sum
}

// twice is the steps, done two times.
func (m *steps) twice() steps {
	var d steps
	for i := range d {
		d[i] = m.of(m[i])
	}
	return d
}
