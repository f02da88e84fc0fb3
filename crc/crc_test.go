package crc_test

import (
	"bytes"
	"hash/crc32"
	"testing"

	"codicil/crc"
)

// residue is the sum of every text that has its own sum behind it.
const residue = 0x2144df1c

// text is n bytes by a fixed rule.
func text(n int) []byte {
	b := make([]byte, n)
	x := uint32(n) + 1
	for i := range b {
		x = x*1664525 + 1013904223
		b[i] = byte(x >> 24)
	}
	return b
}

// bitwise is the sum as the chapter words it, bit by bit.
func bitwise(b []byte) uint32 {
	register := uint32(0xffffffff)
	for _, c := range b {
		for k := range 8 {
			unlike := uint32(c)>>k&1 != register&1
			register >>= 1
			if unlike {
				register ^= 0xedb88320
			}
		}
	}
	return ^register
}

// sealed is b with the sum's four bytes behind it, the lowest first.
func sealed(b []byte, sum uint32) []byte {
	return append(bytes.Clone(b), byte(sum), byte(sum>>8), byte(sum>>16), byte(sum>>24))
}

// turned is b with the bits of mask turned from bit at on, in the order in which the sum takes them; ok if all of them lie in b.
func turned(b []byte, at int, mask uint32) (other []byte, ok bool) {
	other = bytes.Clone(b)
	for k := range 32 {
		if mask>>k&1 == 0 {
			continue
		}
		if at+k >= 8*len(b) {
			return nil, false
		}
		other[(at+k)/8] ^= 1 << ((at + k) % 8)
	}
	return other, true
}

// P3.1: sums that others publish.
func TestSumKnown(t *testing.T) {
	for _, c := range []struct {
		text string
		want uint32
	}{
		{"123456789", 0xcbf43926},
		{"", 0},
		{"a", 0xe8b7be43},
		{"abc", 0x352441c2},
		{"message digest", 0x20159d7f},
		{"abcdefghijklmnopqrstuvwxyz", 0x4c2750bd},
		{"The quick brown fox jumps over the lazy dog", 0x414fa339},
		{"\x00", 0xd202ef8d},
		{"\xff", 0xff000000},
		{"\x00\x00\x00\x00", 0x2144df1c},
		{"\xff\xff\xff\xff", 0xffffffff},
	} {
		if got := crc.Sum([]byte(c.text)); got != c.want {
			t.Errorf("Sum(%q) = %x, want %x", c.text, got, c.want)
		}
	}
}

// P3.1: no bytes, as nil, as an empty list, as one with room behind it (R2).
func TestSumNothing(t *testing.T) {
	for i, b := range [][]byte{nil, {}, text(9)[:0], text(9)[9:]} {
		if got := crc.Sum(b); got != 0 {
			t.Errorf("list %d of no bytes: %x", i, got)
		}
	}
}

// P3.1: every text of one byte and of two.
func TestSumShort(t *testing.T) {
	for one := range 256 {
		b := []byte{byte(one)}
		if got := crc.Sum(b); got != bitwise(b) || got != crc32.ChecksumIEEE(b) {
			t.Fatalf("%x: %x", b, got)
		}
		for two := range 256 {
			b := []byte{byte(one), byte(two)}
			if got := crc.Sum(b); got != bitwise(b) || got != crc32.ChecksumIEEE(b) {
				t.Fatalf("%x: %x", b, got)
			}
		}
	}
}

// P3.1: every length up to some hundreds, of unlike, of equal, of high bytes.
func TestSumLengths(t *testing.T) {
	for n := range 700 {
		for _, b := range [][]byte{text(n), make([]byte, n), bytes.Repeat([]byte{0xff}, n)} {
			if got := crc.Sum(b); got != bitwise(b) || got != crc32.ChecksumIEEE(b) {
				t.Fatalf("Sum of %d bytes: %x", n, got)
			}
		}
	}
}

// P3.1: long texts.
func TestSumLong(t *testing.T) {
	lengths := []int{1 << 12, 1<<12 + 1, 1<<15 - 1, 1 << 17, 1000003}
	if !testing.Short() {
		lengths = append(lengths, 1<<24+7)
	}
	for _, n := range lengths {
		if b := text(n); crc.Sum(b) != crc32.ChecksumIEEE(b) {
			t.Fatalf("Sum of %d bytes", n)
		}
	}
}

// P3.2: a text with its own sum behind it has one sum, whatever it is.
func TestOwnSumBehind(t *testing.T) {
	for n := range 700 {
		for _, b := range [][]byte{text(n), make([]byte, n), bytes.Repeat([]byte{0xff}, n)} {
			if got := crc.Sum(sealed(b, crc.Sum(b))); got != residue {
				t.Fatalf("%d bytes and their sum: %x", n, got)
			}
		}
	}
}

// P3.2: a sum behind a text that is not its own, or not in its order, is told.
func TestOtherSumBehind(t *testing.T) {
	for n := range 200 {
		b := text(n)
		sum := crc.Sum(b)
		for bit := range 32 {
			if crc.Sum(sealed(b, sum^1<<bit)) == residue {
				t.Fatalf("%d bytes, bit %d of the sum turned", n, bit)
			}
		}
		about := sum>>24 | sum>>8&0xff00 | sum<<8&0xff0000 | sum<<24
		if about != sum && crc.Sum(sealed(b, about)) == residue {
			t.Fatalf("%d bytes, the sum's highest byte first", n)
		}
	}
}

// P3.2: one bit turned, at every place of texts of many lengths, gives sums that are all unlike.
func TestOneBit(t *testing.T) {
	for _, n := range []int{1, 2, 3, 4, 5, 8, 31, 64, 600} {
		b := text(n)
		seen := map[uint32]int{crc.Sum(b): -1}
		for at := range 8 * n {
			other, _ := turned(b, at, 1)
			sum := crc.Sum(other)
			if before, ok := seen[sum]; ok {
				t.Fatalf("%d bytes: bits %d and %d have one sum", n, before, at)
			}
			seen[sum] = at
		}
	}
}

// P3.2: up to 32 bits side by side, at every place: short rows in full, long ones by example.
func TestBitsSideBySide(t *testing.T) {
	masks := []uint32{
		0xffffffff, 0x80000001, 0x80000000, 0xedb88320, 0x04c11db7, 0xdb710641, 0x82608edb,
		0x9e3779b1, 0xa5a5a5a5, 0x7fffffff, 0xfffffffe, 0x00ff00ff, 0x10001, 0x2144df1c,
	}
	for mask := uint32(1); mask < 1<<10; mask++ {
		masks = append(masks, mask)
	}
	for _, n := range []int{1, 4, 5, 13, 40} {
		b := text(n)
		sum := crc.Sum(b)
		for at := range 8 * n {
			for _, mask := range masks {
				if other, ok := turned(b, at, mask); ok && crc.Sum(other) == sum {
					t.Fatalf("%d bytes, bits %x from %d on", n, mask, at)
				}
			}
		}
	}
}

// P3.2: what a turned bit does to the sum hangs on its place alone, so that 32 neighbours
// whose doings are independent of each other give unlike sums in all of their 2^32 - 1 mixtures.
func TestNeighboursAreIndependent(t *testing.T) {
	const n = 70
	b, zeros := text(n), make([]byte, n)
	var effects []uint32
	for at := range 8 * n {
		other, _ := turned(b, at, 1)
		alone, _ := turned(zeros, at, 1)
		effect := crc.Sum(other) ^ crc.Sum(b)
		if effect != crc.Sum(alone)^crc.Sum(zeros) {
			t.Fatalf("bit %d does not weigh alike in two texts", at)
		}
		effects = append(effects, effect)
	}
	for at := 0; at+32 <= len(effects); at++ {
		if rank(effects[at:at+32]) != 32 {
			t.Fatalf("bits from %d on", at)
		}
	}
}

// rank is how many of the words are independent of each other under xor.
func rank(words []uint32) int {
	var basis [32]uint32
	count := 0
	for _, w := range words {
		for k := 31; k >= 0 && w != 0; k-- {
			if w>>k&1 == 0 {
				continue
			}
			if basis[k] == 0 {
				basis[k] = w
				count++
				break
			}
			w ^= basis[k]
		}
	}
	return count
}

// FuzzSum holds P3.1 and P3.2 at whatever text, place and bits it is given.
func FuzzSum(f *testing.F) {
	f.Add([]byte(""), uint(0), uint32(0))
	f.Add([]byte("123456789"), uint(3), uint32(0x80000001))
	f.Add(text(300), uint(1000), uint32(0xffffffff))
	f.Fuzz(func(t *testing.T, b []byte, at uint, mask uint32) {
		sum := crc.Sum(b)
		if sum != bitwise(b) || sum != crc32.ChecksumIEEE(b) {
			t.Errorf("Sum(%x) = %x", b, sum)
		}
		if crc.Sum(sealed(b, sum)) != residue {
			t.Errorf("%x and its sum", b)
		}
		if len(b) == 0 || mask == 0 {
			return
		}
		place := int(at % uint(8*len(b)))
		if other, ok := turned(b, place, mask); ok && crc.Sum(other) == sum {
			t.Errorf("%x, bits %x from %d on", b, mask, place)
		}
	})
}

// R2: what is handed in stays as it was, its spare room too, and that room is not summed.
func TestHandedInStays(t *testing.T) {
	for n := range 300 {
		all := text(n + 40)
		was := bytes.Clone(all)
		if crc.Sum(all[:n]) != crc32.ChecksumIEEE(was[:n]) {
			t.Fatalf("%d bytes with room behind them", n)
		}
		if !bytes.Equal(all, was) {
			t.Fatalf("%d bytes, or the room behind them, are changed", n)
		}
	}
}

// R3: nothing is kept from call to call.
func TestNothingIsKept(t *testing.T) {
	for n := range 300 {
		crc.Sum(text(n))
		if got := crc.Sum([]byte("123456789")); got != 0xcbf43926 {
			t.Fatalf("behind a text of %d bytes: %x", n, got)
		}
		if got := crc.Sum(nil); got != 0 {
			t.Fatalf("nothing, behind a text of %d bytes: %x", n, got)
		}
	}
}
