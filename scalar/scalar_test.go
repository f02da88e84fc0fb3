package scalar_test

import (
	"math/big"
	"slices"
	"testing"

	"codicil/scalar"
)

// order is L, from the digits that its chapter has.
func order() *big.Int {
	n, _ := new(big.Int).SetString("27742317777372353535851937790883648493", 10)
	return n.Add(n, near(252, 0))
}

// near is 2^power and more.
func near(power uint, more int64) *big.Int {
	n := new(big.Int).Lsh(big.NewInt(1), power)
	return n.Add(n, big.NewInt(more))
}

// orders is L so many times, and more.
func orders(count, more int64) *big.Int {
	n := new(big.Int).Mul(order(), big.NewInt(count))
	return n.Add(n, big.NewInt(more))
}

// number is what the bytes are, the lowest first.
func number(a []byte) *big.Int {
	a = slices.Clone(a)
	slices.Reverse(a)
	return new(big.Int).SetBytes(a)
}

// raw is the bytes of n, from 0 to 2^256 - 1, the lowest first.
func raw(n *big.Int) [32]byte {
	var a [32]byte
	n.FillBytes(a[:])
	slices.Reverse(a[:])
	return a
}

// broad is the bytes of n, from 0 to 2^512 - 1, the lowest first.
func broad(n *big.Int) [64]byte {
	var a [64]byte
	n.FillBytes(a[:])
	slices.Reverse(a[:])
	return a
}

// small is the bytes of n.
func small(n int64) [32]byte { return raw(big.NewInt(n)) }

// left is the right bytes of n modulo L, n below 0 too.
func left(n *big.Int) [32]byte { return raw(new(big.Int).Mod(n, order())) }

// sum is x times y and z.
func sum(x, y, z *big.Int) *big.Int {
	n := new(big.Int).Mul(x, y)
	return n.Add(n, z)
}

// named is the numbers of 32 bytes that the issue of this layer names.
func named() [][32]byte {
	return [][32]byte{
		small(0), small(1), raw(orders(1, -1)), raw(orders(1, 0)), raw(orders(1, 1)),
		raw(orders(2, 0)), raw(orders(15, 0)), raw(near(252, 0)), raw(near(255, 0)), raw(near(256, -1)),
	}
}

// edges is the numbers of 32 bytes about which a fault is likely: those named, and about them, L's multiples and the ends of words.
func edges() [][32]byte {
	all := named()
	for more := int64(-2); more <= 2; more++ {
		for count := range int64(16) {
			if n := orders(count, more); n.Sign() >= 0 {
				all = append(all, raw(n))
			}
		}
		for _, power := range []uint{64, 128, 192, 252, 253, 255} {
			all = append(all, raw(near(power, more)))
		}
	}
	return append(all, raw(near(256, -2)))
}

// wideEdges is the like of 64 bytes; among them each multiple of L and of 2^252 by a power of 2, so that at each word what is left of those above it may be about 0, 2^252 and L.
func wideEdges() [][64]byte {
	var all [][64]byte
	add := func(n *big.Int) {
		if n.Sign() >= 0 && n.BitLen() <= 512 {
			all = append(all, broad(n))
		}
	}
	most := new(big.Int).Div(near(512, -1), order())
	for more := int64(-2); more <= 2; more++ {
		by := big.NewInt(more)
		add(sum(order(), order(), by))
		add(sum(order(), most, by))
		for power := range uint(513) {
			add(near(power, more))
			for _, n := range []*big.Int{orders(1, 0), orders(1, -1), orders(1, 1), near(252, -1), near(252, 1)} {
				n.Lsh(n, power)
				add(n.Add(n, by))
			}
		}
	}
	for _, a := range edges() {
		add(number(a[:]))
		for _, power := range []uint{64, 128, 192, 256} {
			n := number(a[:])
			n.Lsh(n, power)
			add(n)
			add(n.Or(n, near(power, -1)))
		}
	}
	return all
}

// others is count numbers of all 512 bits by a fixed rule.
func others(count int) [][64]byte {
	all := make([][64]byte, count)
	x := uint64(88172645463325252)
	for i := range all {
		for k := range all[i] {
			x ^= x << 13
			x ^= x >> 7
			x ^= x << 17
			all[i][k] = byte(x >> 32)
		}
	}
	return all
}

// halves is the lower and the upper 32 bytes of the others.
func halves(count int) [][32]byte {
	var all [][32]byte
	for _, a := range others(count) {
		all = append(all, [32]byte(a[:32]), [32]byte(a[32:]))
	}
	return all
}

// P5.1: the numbers that the issue of this layer, and its chapter, name.
func TestNamed(t *testing.T) {
	above := new(big.Int).Sub(order(), near(252, 0))
	for i, c := range []struct {
		a     [32]byte
		right bool
		mod   [32]byte
	}{
		{small(0), true, small(0)},
		{small(1), true, small(1)},
		{raw(orders(1, -1)), true, raw(orders(1, -1))},
		{raw(orders(1, 0)), false, small(0)},
		{raw(orders(1, 1)), false, small(1)},
		{raw(orders(2, -1)), false, raw(orders(1, -1))},
		{raw(orders(2, 0)), false, small(0)},
		{raw(orders(15, -1)), false, raw(orders(1, -1))},
		{raw(orders(15, 0)), false, small(0)},
		{raw(orders(15, 1)), false, small(1)},
		{raw(near(252, 0)), true, raw(near(252, 0))},
		{raw(near(252, -1)), true, raw(near(252, -1))},
		{raw(near(255, 0)), false, left(new(big.Int).Mul(above, big.NewInt(-8)))},
		{raw(near(256, -1)), false, left(sum(above, big.NewInt(-16), big.NewInt(-1)))},
	} {
		if got := scalar.Check(c.a); got != c.right {
			t.Errorf("%d: Check = %v", i, got)
		}
		if got := scalar.Mod(c.a); got != c.mod {
			t.Errorf("%d: Mod = %x, want %x", i, got, c.mod)
		}
	}
	// 2^252 is as much as -above, so 2^256 is as much as rest.
	whole, rest := near(256, 0), new(big.Int).Mul(above, big.NewInt(-16))
	for i, c := range []struct {
		a    *big.Int
		want [32]byte
	}{
		{big.NewInt(0), small(0)},
		{orders(1, -1), raw(orders(1, -1))},
		{orders(1, 0), small(0)},
		{orders(16, 0), small(0)},
		{orders(16, 1), small(1)},
		{orders(16, -1), raw(orders(1, -1))},
		{whole, left(rest)},
		{new(big.Int).Mul(whole, order()), small(0)},
		{sum(whole, order(), big.NewInt(1)), small(1)},
		{sum(whole, order(), big.NewInt(-1)), raw(orders(1, -1))},
		{sum(order(), order(), big.NewInt(7)), small(7)},
		{near(512, -1), left(sum(rest, rest, big.NewInt(-1)))},
	} {
		if got := scalar.Wide(broad(c.a)); got != c.want {
			t.Errorf("%d: Wide = %x, want %x", i, got, c.want)
		}
	}
}

// P5.1: products and sums whose answers are plain.
func TestMulAddNamed(t *testing.T) {
	l, last, all := raw(orders(1, 0)), raw(orders(1, -1)), raw(near(256, -1))
	for i, c := range []struct{ a, b, c, want [32]byte }{
		{small(2), small(3), small(4), small(10)},
		{small(0), small(0), small(0), small(0)},
		{small(0), all, small(9), small(9)},
		{all, small(0), small(9), small(9)},
		{last, last, small(0), small(1)},
		{last, small(1), small(1), small(0)},
		{last, last, last, small(0)},
		{small(1), small(0), last, last},
		{l, l, l, small(0)},
		{l, all, small(5), small(5)},
		{all, l, small(5), small(5)},
		{small(0), small(0), all, scalar.Mod(all)},
		{all, small(1), small(0), scalar.Mod(all)},
		{small(1), all, small(0), scalar.Mod(all)},
		{raw(near(128, 0)), raw(near(124, 0)), small(0), raw(near(252, 0))},
		{raw(near(251, 0)), small(2), left(new(big.Int).Neg(near(252, 0))), small(0)},
	} {
		if got := scalar.MulAdd(c.a, c.b, c.c); got != c.want {
			t.Errorf("%d: %x, want %x", i, got, c.want)
		}
	}
}

// P5.1: a number's bytes are the lowest first, each bit in its place.
func TestBits(t *testing.T) {
	for k := range 512 {
		var a [64]byte
		a[k/8] = 1 << (k % 8)
		want := left(near(uint(k), 0))
		if got := scalar.Wide(a); got != want {
			t.Errorf("bit %d: %x, want %x", k, got, want)
		}
		if k >= 256 {
			continue
		}
		b := [32]byte(a[:32])
		if got := scalar.Mod(b); got != want {
			t.Errorf("bit %d: Mod = %x, want %x", k, got, want)
		}
		if got := scalar.Check(b); got != (k < 253) {
			t.Errorf("bit %d: Check = %v", k, got)
		}
		if got := scalar.MulAdd(b, b, b); got != left(new(big.Int).Add(near(uint(2*k), 0), near(uint(k), 0))) {
			t.Errorf("bit %d: MulAdd = %x", k, got)
		}
	}
}

// P5.1: Check and Mod of any number.
func TestMod(t *testing.T) {
	for _, a := range append(edges(), halves(2000)...) {
		n := number(a[:])
		if got := scalar.Check(a); got != (n.Cmp(order()) < 0) {
			t.Errorf("Check(%x) = %v", n, got)
		}
		if got, want := scalar.Mod(a), left(n); got != want {
			t.Errorf("Mod(%x) = %x, want %x", n, got, want)
		}
	}
}

// P5.1: each byte of a number counts in Check: L - 1 with one byte more is not right, L with one byte less is.
func TestCheckBytes(t *testing.T) {
	for i := range 32 {
		more, less := raw(orders(1, -1)), raw(orders(1, 0))
		if more[i] < 255 {
			more[i]++
			if scalar.Check(more) {
				t.Errorf("byte %d more", i)
			}
		}
		if less[i] > 0 {
			less[i]--
			if !scalar.Check(less) {
				t.Errorf("byte %d less", i)
			}
		}
	}
}

// P5.1: Wide of any number.
func TestWide(t *testing.T) {
	for _, a := range append(wideEdges(), others(5000)...) {
		n := number(a[:])
		if got, want := scalar.Wide(a), left(n); got != want {
			t.Fatalf("Wide(%x) = %x, want %x", n, got, want)
		}
	}
}

// P5.1: MulAdd with each of its numbers at each of the edges.
func TestMulAddEdges(t *testing.T) {
	all := edges()
	numbers := make([]*big.Int, len(all))
	for i, a := range all {
		numbers[i] = number(a[:])
	}
	addends := named()
	for i, a := range all {
		for k, b := range all {
			product := new(big.Int).Mul(numbers[i], numbers[k])
			for _, c := range append(addends, all[(i+k)%len(all)]) {
				want := left(new(big.Int).Add(product, number(c[:])))
				if got := scalar.MulAdd(a, b, c); got != want {
					t.Fatalf("MulAdd(%x, %x, %x) = %x, want %x", a, b, c, got, want)
				}
			}
		}
	}
	for _, c := range all {
		for _, a := range named() {
			for _, b := range named() {
				want := left(sum(number(a[:]), number(b[:]), number(c[:])))
				if got := scalar.MulAdd(a, b, c); got != want {
					t.Fatalf("MulAdd(%x, %x, %x) = %x, want %x", a, b, c, got, want)
				}
			}
		}
	}
}

// P5.1: MulAdd of any numbers, and of any beside edges.
func TestMulAdd(t *testing.T) {
	check := func(a, b, c [32]byte) {
		want := left(sum(number(a[:]), number(b[:]), number(c[:])))
		if got := scalar.MulAdd(a, b, c); got != want {
			t.Fatalf("MulAdd(%x, %x, %x) = %x, want %x", a, b, c, got, want)
		}
	}
	blunt, sharp := halves(3000), edges()
	for i := range blunt[2:] {
		edge := sharp[i%len(sharp)]
		check(blunt[i], blunt[i+1], blunt[i+2])
		check(edge, blunt[i], blunt[i+1])
		check(blunt[i], edge, blunt[i+1])
		check(blunt[i], blunt[i+1], edge)
	}
}

// P5.2: what is left is right, and what is left of it is that.
func TestLeft(t *testing.T) {
	hold := func(by string, rest [32]byte) {
		var wide [64]byte
		copy(wide[:], rest[:])
		if !scalar.Check(rest) {
			t.Fatalf("%s: %x is not right", by, rest)
		}
		if scalar.Mod(rest) != rest || scalar.Wide(wide) != rest || scalar.MulAdd(rest, small(1), small(0)) != rest || scalar.MulAdd(small(0), small(0), rest) != rest {
			t.Fatalf("%s: of %x another is left", by, rest)
		}
	}
	for _, a := range append(wideEdges(), others(1000)...) {
		low, high := [32]byte(a[:32]), [32]byte(a[32:])
		hold("Wide", scalar.Wide(a))
		hold("Mod", scalar.Mod(low))
		hold("Mod", scalar.Mod(high))
		hold("MulAdd", scalar.MulAdd(low, high, low))
	}
	for _, a := range edges() {
		hold("Mod", scalar.Mod(a))
		hold("MulAdd", scalar.MulAdd(a, a, a))
		if scalar.Check(a) != (scalar.Mod(a) == a) {
			t.Fatalf("Check(%x)", a)
		}
	}
}

// P5.2: what is left of numbers does for them.
func TestLeftOfEach(t *testing.T) {
	all := append(edges(), halves(50)...)
	for i, a := range all {
		b, c := all[(7*i+1)%len(all)], all[(11*i+2)%len(all)]
		want := scalar.MulAdd(a, b, c)
		if scalar.MulAdd(scalar.Mod(a), b, c) != want || scalar.MulAdd(a, scalar.Mod(b), c) != want || scalar.MulAdd(a, b, scalar.Mod(c)) != want || scalar.MulAdd(b, a, c) != want {
			t.Errorf("MulAdd(%x, %x, %x)", a, b, c)
		}
		var wide [64]byte
		copy(wide[:32], c[:])
		copy(wide[32:], a[:])
		if scalar.Wide(wide) != scalar.MulAdd(a, left(near(256, 0)), c) {
			t.Errorf("Wide(%x)", wide)
		}
	}
}

// R3: what is answered hangs on no earlier call.
func TestNothingKept(t *testing.T) {
	wide := others(1)[0]
	a, b := [32]byte(wide[:32]), [32]byte(wide[32:])
	all := func() [3][32]byte {
		return [3][32]byte{scalar.Wide(wide), scalar.Mod(a), scalar.MulAdd(a, b, a)}
	}
	first := all()
	for _, c := range edges() {
		scalar.Check(c)
		scalar.Mod(c)
		scalar.MulAdd(c, c, c)
		if all() != first {
			t.Fatalf("unlike behind %x", c)
		}
	}
}

// P5.1, P5.2: any numbers, held against the library of Go.
func FuzzScalar(f *testing.F) {
	for _, a := range edges() {
		b := others(1)[0]
		f.Add(b[:32], a[:], b[32:])
		f.Add(a[:], b[:32], a[:])
	}
	f.Fuzz(func(t *testing.T, first, second, third []byte) {
		var a, b, c [32]byte
		copy(a[:], first)
		copy(b[:], second)
		copy(c[:], third)
		x, y, z := number(a[:]), number(b[:]), number(c[:])
		if scalar.Mod(a) != left(x) || scalar.Check(a) != (x.Cmp(order()) < 0) {
			t.Errorf("Mod, Check of %x", x)
		}
		if scalar.MulAdd(a, b, c) != left(sum(x, y, z)) {
			t.Errorf("MulAdd of %x, %x, %x", x, y, z)
		}
		wide := [64]byte(append(a[:], b[:]...))
		if scalar.Wide(wide) != left(number(wide[:])) {
			t.Errorf("Wide of %x", wide)
		}
	})
}
