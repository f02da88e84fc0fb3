package wide_test

import (
	"bytes"
	"crypto/sha512"
	"encoding/hex"
	"testing"

	"codicil/wide"
)

// text is n bytes by a fixed rule, none of whose periods is that of a block.
func text(n int) []byte {
	b := make([]byte, n)
	x := uint32(n) + 1
	for i := range b {
		x = x*1664525 + 1013904223
		b[i] = byte(x >> 24)
	}
	return b
}

// roomy is a copy of b with spare room behind it, and that room.
func roomy(b []byte) (list, room []byte) {
	all := append(append([]byte{}, b...), bytes.Repeat([]byte{0xa5}, 300)...)
	return all[:len(b)], all[len(b):]
}

// each parts b into pieces of one length, the last one of what is left.
func each(b []byte, length int) [][]byte {
	var parts [][]byte
	for at := 0; at < len(b); at += length {
		parts = append(parts, b[at:min(at+length, len(b))])
	}
	return parts
}

// P2.1: what the standard and others who publish sums say of some texts.
func TestSumKnown(t *testing.T) {
	for _, c := range []struct {
		text, want string
	}{
		{
			"",
			"cf83e1357eefb8bdf1542850d66d8007d620e4050b5715dc83f4a921d36ce9ce" +
				"47d0d13c5d85f2b0ff8318d2877eec2f63b931bd47417a81a538327af927da3e",
		},
		{
			"abc",
			"ddaf35a193617abacc417349ae20413112e6fa4e89a97ea20a9eeee64b55d39a" +
				"2192992a274fc1a836ba3c23a3feebbd454d4423643ce80e2a9ac94fa54ca49f",
		},
		{
			"abcdbcdecdefdefgefghfghighijhijkijkljklmklmnlmnomnopnopq",
			"204a8fc6dda82f0a0ced7beb8e08a41657c16ef468b228a8279be331a703c335" +
				"96fd15c13b1b07f9aa1d3bea57789ca031ad85c7a71dd70354ec631238ca3445",
		},
		{
			"abcdefghbcdefghicdefghijdefghijkefghijklfghijklmghijklmnhijklmno" +
				"ijklmnopjklmnopqklmnopqrlmnopqrsmnopqrstnopqrstu",
			"8e959b75dae313da8cf4f72814fc143f8f7779c6eb9f7fa17299aeadb6889018" +
				"501d289e4900f7e4331b99dec4b5433ac7d329eeb6dd26545e96e55b874be909",
		},
	} {
		sum := wide.Sum([]byte(c.text))
		if hex.EncodeToString(sum[:]) != c.want {
			t.Errorf("Sum(%q) = %x, want %s", c.text, sum, c.want)
		}
	}
}

// P2.1: no parts, nil parts and empty ones are all the sum of nothing (R2).
func TestSumNothing(t *testing.T) {
	want := sha512.Sum512(nil)
	empty, _ := roomy(nil)
	for i, parts := range [][][]byte{
		nil, {}, {nil}, {{}}, {nil, nil}, {{}, nil, {}}, {empty}, {empty, nil, empty}, make([][]byte, 1000),
	} {
		if wide.Sum(parts...) != want {
			t.Errorf("list %d of no bytes", i)
		}
	}
	if wide.Sum() != want {
		t.Error("no parts")
	}
}

// P2.1: every length about the ends of several blocks, of unlike, of equal, of high bytes.
func TestSumLengths(t *testing.T) {
	for n := range 1100 {
		for _, b := range [][]byte{text(n), make([]byte, n), bytes.Repeat([]byte{0xff}, n)} {
			if wide.Sum(b) != sha512.Sum512(b) {
				t.Fatalf("Sum of %d bytes", n)
			}
		}
	}
	for _, n := range []int{1<<12 - 17, 1 << 12, 1<<13 - 1, 1 << 13, 1<<15 + 1, 1000003} {
		if b := text(n); wide.Sum(b) != sha512.Sum512(b) {
			t.Fatalf("Sum of %d bytes", n)
		}
	}
}

// P2.1: each bit of a text weighs in the sum.
func TestSumEachBit(t *testing.T) {
	b := text(260)
	seen := map[[64]byte]int{wide.Sum(b): -1}
	for bit := range 8 * len(b) {
		b[bit/8] ^= 1 << (bit % 8)
		sum := wide.Sum(b)
		if sum != sha512.Sum512(b) {
			t.Fatalf("bit %d turned", bit)
		}
		if at, ok := seen[sum]; ok {
			t.Fatalf("bits %d and %d turned have one sum", at, bit)
		}
		seen[sum] = bit
		b[bit/8] ^= 1 << (bit % 8)
	}
}

// P2.1: the parts stand in their order, one behind the other.
func TestOrderOfParts(t *testing.T) {
	a, b, c := text(5), text(130), text(256)
	for i, parts := range [][][]byte{
		{a, b, c}, {a, c, b}, {b, a, c}, {b, c, a}, {c, a, b}, {c, b, a}, {a, a}, {b, b, b}, {c, c},
	} {
		if wide.Sum(parts...) != sha512.Sum512(bytes.Join(parts, nil)) {
			t.Errorf("list %d", i)
		}
	}
}

// P2.2: every way to part a text in two, its ends included.
func TestTwoParts(t *testing.T) {
	for n := range 300 {
		b := text(n)
		want := sha512.Sum512(b)
		for cut := range n + 1 {
			if wide.Sum(b[:cut], b[cut:]) != want {
				t.Fatalf("%d bytes parted at %d", n, cut)
			}
		}
	}
}

// P2.2: every way to part a text in three, about the ends of its blocks.
func TestThreeParts(t *testing.T) {
	for _, n := range []int{111, 112, 128, 239, 240, 257} {
		b := text(n)
		want := sha512.Sum512(b)
		for one := range n + 1 {
			for two := one; two <= n; two++ {
				if wide.Sum(b[:one], b[one:two], b[two:]) != want {
					t.Fatalf("%d bytes parted at %d and %d", n, one, two)
				}
			}
		}
	}
}

// P2.2: many small parts against one long one.
func TestManySmallParts(t *testing.T) {
	b := text(20011)
	want := sha512.Sum512(b)
	if wide.Sum(b) != want {
		t.Fatal("one long part")
	}
	for _, length := range []int{1, 2, 3, 7, 16, 64, 111, 112, 113, 127, 128, 129, 255, 256, 257, 20010, 20011} {
		if wide.Sum(each(b, length)...) != want {
			t.Fatalf("parts of %d bytes", length)
		}
	}
}

// P2.2: parts of unlike lengths, empty ones and nil between them.
func TestUnlikeParts(t *testing.T) {
	b := text(5000)
	want := sha512.Sum512(b)
	lengths := text(40000)
	next := 0
	for most := 1; most <= 250; most += 3 {
		var parts [][]byte
		for at := 0; at < len(b); {
			end := min(at+int(lengths[next])%(most+1), len(b))
			next++
			parts = append(parts, b[at:end], nil, []byte{})
			at = end
		}
		if wide.Sum(parts...) != want {
			t.Fatalf("parts of at most %d bytes", most)
		}
	}
}

// FuzzParts holds P2.1 and P2.2 at whatever text and cuts it is given.
func FuzzParts(f *testing.F) {
	f.Add([]byte(""), uint(0), uint(0))
	f.Add([]byte("abc"), uint(1), uint(2))
	f.Add(text(128), uint(128), uint(0))
	f.Add(text(383), uint(127), uint(129))
	f.Fuzz(func(t *testing.T, b []byte, one, two uint) {
		first := int(one % uint(len(b)+1))
		second := first + int(two%uint(len(b)-first+1))
		want := sha512.Sum512(b)
		if wide.Sum(b) != want || wide.Sum(b[:first], b[first:second], b[second:]) != want {
			t.Errorf("%d bytes parted at %d and %d", len(b), first, second)
		}
	})
}

// R2: what is handed in stays as it was, the parts, their list and the spare room of both, and no spare room is summed.
func TestHandedInStays(t *testing.T) {
	for n := range 400 {
		was := text(n)
		one, oneRoom := roomy(was)
		two, twoRoom := roomy(was)
		spare := bytes.Clone(oneRoom)
		list := [][]byte{one, nil, two, []byte("behind the list")}
		sum := wide.Sum(list[:3]...)
		if !bytes.Equal(one, was) || !bytes.Equal(two, was) {
			t.Fatalf("%d bytes handed in are changed", n)
		}
		if !bytes.Equal(oneRoom, spare) || !bytes.Equal(twoRoom, spare) {
			t.Fatalf("the room behind %d bytes is changed", n)
		}
		sameParts := len(list[0]) == n && list[1] == nil && len(list[2]) == n
		if !sameParts || string(list[3]) != "behind the list" {
			t.Fatalf("the list of parts of %d bytes is changed", n)
		}
		if sum != sha512.Sum512(append(bytes.Clone(was), was...)) {
			t.Fatalf("%d bytes with room behind them", n)
		}
	}
}

// R2: a part may stand in the list twice, or lie over another one.
func TestPartsThatShare(t *testing.T) {
	b := text(400)
	parts := [][]byte{b, b[100:300], b[:200], b[250:], b}
	if wide.Sum(parts...) != sha512.Sum512(bytes.Join(parts, nil)) {
		t.Error("parts that lie over one another")
	}
}

// R2, R3: an answer is the asker's own, and nothing is kept from call to call.
func TestNothingIsKept(t *testing.T) {
	want := sha512.Sum512([]byte("abc"))
	for n := range 300 {
		wide.Sum(text(n))
		sum := wide.Sum([]byte("abc"))
		if sum != want {
			t.Fatalf("abc behind a text of %d bytes", n)
		}
		clear(sum[:])
	}
	if wide.Sum([]byte("abc")) != want || wide.Sum() != sha512.Sum512(nil) {
		t.Error("an answer shares memory with the package")
	}
}

// P2.1, R5: a text whose length in bits needs more than 32 bits, as many parts.
func TestLong(t *testing.T) {
	if testing.Short() {
		t.Skip("sums half a gigabyte")
	}
	part := text(1 << 20)
	var parts [][]byte
	reference := sha512.New()
	for range 1 << 9 {
		parts = append(parts, part)
		reference.Write(part)
	}
	parts = append(parts, part[:5])
	reference.Write(part[:5])
	sum := wide.Sum(parts...)
	if want := reference.Sum(nil); !bytes.Equal(sum[:], want) {
		t.Errorf("Sum %x, want %x", sum, want)
	}
}
