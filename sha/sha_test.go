package sha_test

import (
	"bytes"
	"crypto/sha256"
	"encoding/hex"
	"testing"

	"codicil/sha"
)

// text is n bytes by a fixed rule, none of whose periods is that of a block.
func text(n int) []byte {
	b := make([]byte, n)
	x := uint32(n) + 1
	for i := range b {
		x = x*1664525 + 1013904223
		b[i] = byte(x >> 24)
	}
	return b
}

// roomy is a copy of b with spare room behind it, and that room.
func roomy(b []byte) (list, room []byte) {
	all := append(append([]byte{}, b...), bytes.Repeat([]byte{0xa5}, 200)...)
	return all[:len(b)], all[len(b):]
}

// P1.1: what the standard and others who publish sums say of some texts.
func TestSumKnown(t *testing.T) {
	for _, c := range []struct {
		text, want string
	}{
		{"", "e3b0c44298fc1c149afbf4c8996fb92427ae41e4649b934ca495991b7852b855"},
		{"a", "ca978112ca1bbdcafac231b39a23dc4da786eff8147c4e72b9807785afee48bb"},
		{"abc", "ba7816bf8f01cfea414140de5dae2223b00361a396177a9cb410ff61f20015ad"},
		{"\xbd", "68325720aabd7c82f30f554b313d0570c95accbb7dc4b5aae11204c08ffe732b"},
		{"\x00", "6e340b9cffb37a989ca544e6bb780a2c78901d3fb33738768511a30617afa01d"},
		{
			"abcdbcdecdefdefgefghfghighijhijkijkljklmklmnlmnomnopnopq",
			"248d6a61d20638b8e5c026930c3e6039a33ce45964ff2167f6ecedd419db06c1",
		},
		{
			"abcdefghbcdefghicdefghijdefghijkefghijklfghijklmghijklmnhijklmnoijklmnopjklmnopqklmnopqrlmnopqrsmnopqrstnopqrstu",
			"cf5b16a778af8380036ce59e7b0492370b249b11e8f07a51afac45037afee9d1",
		},
	} {
		sum := sha.Sum([]byte(c.text))
		if hex.EncodeToString(sum[:]) != c.want {
			t.Errorf("Sum(%q) = %x, want %s", c.text, sum, c.want)
		}
	}
}

// P1.1: nil and no bytes are the same (R2).
func TestSumNothing(t *testing.T) {
	want := sha256.Sum256(nil)
	if sha.Sum(nil) != want || sha.Sum([]byte{}) != want {
		t.Error("Sum of nothing")
	}
	list, _ := roomy(nil)
	if sha.Sum(list) != want {
		t.Error("Sum of nothing with room behind it")
	}
}

// P1.1: every length about the ends of several blocks, of unlike, of equal, of high bytes.
func TestSumLengths(t *testing.T) {
	for n := range 600 {
		for _, b := range [][]byte{text(n), make([]byte, n), bytes.Repeat([]byte{0xff}, n)} {
			if sha.Sum(b) != sha256.Sum256(b) {
				t.Fatalf("Sum of %d bytes", n)
			}
		}
	}
	for _, n := range []int{1<<12 - 9, 1 << 12, 1<<15 + 1, 1000003} {
		if b := text(n); sha.Sum(b) != sha256.Sum256(b) {
			t.Fatalf("Sum of %d bytes", n)
		}
	}
}

// P1.1: each bit of a text weighs in the sum.
func TestSumEachBit(t *testing.T) {
	b := text(130)
	seen := map[[32]byte]int{sha.Sum(b): -1}
	for bit := range 8 * len(b) {
		b[bit/8] ^= 1 << (bit % 8)
		sum := sha.Sum(b)
		if sum != sha256.Sum256(b) {
			t.Fatalf("bit %d turned", bit)
		}
		if at, ok := seen[sum]; ok {
			t.Fatalf("bits %d and %d turned have one sum", at, bit)
		}
		seen[sum] = bit
		b[bit/8] ^= 1 << (bit % 8)
	}
}

// P1.1: a Sha that is new, or was told empty parts alone, was told nothing.
func TestNewToldNothing(t *testing.T) {
	want := sha256.Sum256(nil)
	var zero sha.Sha
	for name, s := range map[string]*sha.Sha{"new": sha.New(), "zero": &zero} {
		if s.Len() != 0 || s.Sum() != want {
			t.Errorf("%s: Len %d, Sum %x", name, s.Len(), s.Sum())
		}
		s.Write(nil)
		s.Write([]byte{})
		if s.Len() != 0 || s.Sum() != want {
			t.Errorf("%s, told nothing: Len %d, Sum %x", name, s.Len(), s.Sum())
		}
		s.Write([]byte("abc"))
		if s.Len() != 3 || s.Sum() != sha256.Sum256([]byte("abc")) {
			t.Errorf("%s, told abc: Len %d, Sum %x", name, s.Len(), s.Sum())
		}
	}
}

// P1.1: a sum that is asked for, once or twice, changes nothing of what comes behind it.
func TestSumInBetween(t *testing.T) {
	b := text(330)
	for _, step := range []int{1, 7, 55, 56, 63, 64, 65, 119, 128, 129} {
		asked, silent := sha.New(), sha.New()
		for at := 0; at < len(b); at += step {
			end := min(at+step, len(b))
			asked.Write(b[at:end])
			silent.Write(b[at:end])
			want := sha256.Sum256(b[:end])
			if asked.Sum() != want || asked.Sum() != want || asked.Len() != end {
				t.Fatalf("steps of %d: %d bytes told", step, end)
			}
		}
		if silent.Sum() != asked.Sum() || silent.Len() != len(b) {
			t.Fatalf("steps of %d: sums in between are to be seen at the end", step)
		}
	}
}

// P1.2: every way to part a text in two, its ends included.
func TestTwoParts(t *testing.T) {
	for n := range 200 {
		b := text(n)
		want := sha256.Sum256(b)
		for cut := range n + 1 {
			s := sha.New()
			s.Write(b[:cut])
			s.Write(b[cut:])
			if s.Sum() != want || s.Sum() != sha.Sum(b) || s.Len() != n {
				t.Fatalf("%d bytes parted at %d", n, cut)
			}
		}
	}
}

// P1.2: every way to part a text in three, about the ends of its blocks.
func TestThreeParts(t *testing.T) {
	for _, n := range []int{119, 120, 127, 128, 129, 193} {
		b := text(n)
		want := sha256.Sum256(b)
		for one := range n + 1 {
			for two := one; two <= n; two++ {
				s := sha.New()
				s.Write(b[:one])
				s.Write(b[one:two])
				s.Write(b[two:])
				if s.Sum() != want || s.Len() != n {
					t.Fatalf("%d bytes parted at %d and %d", n, one, two)
				}
			}
		}
	}
}

// P1.2: many parts of unlike lengths, empty ones and nil between them.
func TestManyParts(t *testing.T) {
	b := text(5000)
	lengths := text(40000)
	next := 0
	for most := 1; most <= 200; most += 3 {
		s := sha.New()
		for at := 0; at < len(b); {
			end := min(at+int(lengths[next])%(most+1), len(b))
			next++
			s.Write(b[at:end])
			s.Write(nil)
			s.Write([]byte{})
			at = end
		}
		if s.Sum() != sha256.Sum256(b) || s.Len() != len(b) {
			t.Fatalf("parts of at most %d bytes", most)
		}
	}
}

// FuzzParts holds P1.1 and P1.2 at whatever text and cuts it is given.
func FuzzParts(f *testing.F) {
	f.Add([]byte(""), uint(0), uint(0))
	f.Add([]byte("abc"), uint(1), uint(2))
	f.Add(text(64), uint(64), uint(0))
	f.Add(text(191), uint(63), uint(65))
	f.Fuzz(func(t *testing.T, b []byte, one, two uint) {
		first := int(one % uint(len(b)+1))
		second := first + int(two%uint(len(b)-first+1))
		s := sha.New()
		for _, part := range [][]byte{b[:first], b[first:second], b[second:]} {
			s.Write(part)
		}
		want := sha256.Sum256(b)
		if sha.Sum(b) != want || s.Sum() != want || s.Len() != len(b) {
			t.Errorf("%d bytes parted at %d and %d", len(b), first, second)
		}
	})
}

// R2: what is handed in stays as it was, its spare room too, and that room is not summed.
func TestHandedInStays(t *testing.T) {
	for n := range 260 {
		was := text(n)
		list, room := roomy(was)
		spare := bytes.Clone(room)
		s := sha.New()
		sum := sha.Sum(list)
		s.Write(list)
		told := s.Sum()
		s.Write(list)
		s.Sum()
		if !bytes.Equal(list, was) || !bytes.Equal(room, spare) {
			t.Fatalf("%d bytes handed in are changed", n)
		}
		if want := sha256.Sum256(was); sum != want || told != want {
			t.Fatalf("%d bytes with room behind them", n)
		}
	}
}

// R2: what is told is not kept: what becomes of the list behind it is not to be seen.
func TestToldIsNotKept(t *testing.T) {
	b := text(300)
	for step := 1; step <= 150; step++ {
		s := sha.New()
		for at := 0; at < len(b); at += step {
			part := bytes.Clone(b[at:min(at+step, len(b))])
			s.Write(part)
			clear(part)
		}
		if s.Sum() != sha256.Sum256(b) {
			t.Fatalf("parts of %d bytes are kept", step)
		}
	}
}

// R2: an answer is the asker's own.
func TestAnswersAreNew(t *testing.T) {
	s := sha.New()
	s.Write([]byte("abc"))
	want := sha256.Sum256([]byte("abc"))
	one := s.Sum()
	clear(one[:])
	if s.Sum() != want {
		t.Error("an answer shares memory with the object")
	}
	sum := sha.Sum([]byte("abc"))
	clear(sum[:])
	if sha.Sum([]byte("abc")) != want || sha.Sum(nil) != sha256.Sum256(nil) {
		t.Error("an answer shares memory with the package")
	}
}

// R3: objects have nothing in common, nor has Sum anything with them.
func TestObjectsApart(t *testing.T) {
	one, two := sha.New(), sha.New()
	b, c := text(333), text(222)
	for at := range b {
		one.Write(b[at : at+1])
		if at < len(c) {
			two.Write(c[at : at+1])
		}
		sha.Sum(b[:at])
	}
	if one.Sum() != sha256.Sum256(b) || one.Len() != len(b) {
		t.Error("one is touched")
	}
	if two.Sum() != sha256.Sum256(c) || two.Len() != len(c) {
		t.Error("two is touched")
	}
	if s := sha.New(); s.Sum() != sha256.Sum256(nil) || s.Len() != 0 {
		t.Error("a new one knows of others")
	}
}

// P1.1, R5: a text whose length in bits needs more than 32 bits.
func TestLong(t *testing.T) {
	if testing.Short() {
		t.Skip("sums half a gigabyte")
	}
	part := text(1 << 20)
	s, want := sha.New(), sha256.New()
	for range 1 << 9 {
		s.Write(part)
		want.Write(part)
	}
	s.Write(part[:5])
	want.Write(part[:5])
	sum := s.Sum()
	if s.Len() != 1<<29+5 || !bytes.Equal(sum[:], want.Sum(nil)) {
		t.Errorf("Len %d, Sum %x, want %x", s.Len(), sum, want.Sum(nil))
	}
}
