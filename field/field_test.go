package field_test

import (
	"math/big"
	"slices"
	"testing"

	"codicil/field"
)

// prime is p, worked out anew.
func prime() *big.Int { return near(255, -19) }

// near is 2^power and more.
func near(power uint, more int64) *big.Int {
	n := new(big.Int).Lsh(big.NewInt(1), power)
	return n.Add(n, big.NewInt(more))
}

// number is what the bytes are, the lowest first.
func number(a [32]byte) *big.Int {
	slices.Reverse(a[:])
	return new(big.Int).SetBytes(a[:])
}

// raw is the bytes of n, from 0 to 2^256 - 1, the lowest first.
func raw(n *big.Int) [32]byte {
	var a [32]byte
	n.FillBytes(a[:])
	slices.Reverse(a[:])
	return a
}

// small is the bytes of n.
func small(n int64) [32]byte { return raw(big.NewInt(n)) }

// left is the right bytes of n modulo p, n below 0 too.
func left(n *big.Int) [32]byte { return raw(new(big.Int).Mod(n, prime())) }

// fromHex is the bytes of a number in hexadecimal digits, the highest first.
func fromHex(t *testing.T, digits string) [32]byte {
	t.Helper()
	n, ok := new(big.Int).SetString(digits, 16)
	if !ok {
		t.Fatal(digits)
	}
	return raw(n)
}

// edges is the numbers about which a fault is likely: about 0, p, 2 p, the ends of words, 2^255, 2^256.
func edges() [][32]byte {
	var all [][32]byte
	add := func(n *big.Int) {
		if n.Sign() >= 0 && n.BitLen() <= 256 {
			all = append(all, raw(n))
		}
	}
	double := new(big.Int).Lsh(prime(), 1)
	for more := int64(-40); more <= 40; more++ {
		if more < -3 && more > -36 || more > 3 && more < 36 && more != 18 && more != 19 {
			continue
		}
		by := big.NewInt(more)
		add(by)
		add(new(big.Int).Add(prime(), by))
		add(new(big.Int).Add(double, by))
		for _, power := range []uint{64, 128, 192, 254, 255, 256} {
			add(near(power, more))
		}
	}
	add(new(big.Int).Rsh(prime(), 1))
	add(new(big.Int).Add(new(big.Int).Rsh(prime(), 1), big.NewInt(1)))
	return all
}

// others is count numbers of all 256 bits by a fixed rule.
func others(count int) [][32]byte {
	all := make([][32]byte, count)
	x := uint64(88172645463325252)
	for i := range all {
		for k := range all[i] {
			x ^= x << 13
			x ^= x >> 7
			x ^= x << 17
			all[i][k] = byte(x >> 32)
		}
	}
	return all
}

// both is the edges, and as many others.
func both() [][32]byte {
	all := edges()
	return append(all, others(len(all))...)
}

// pairs calls f with every two of the edges, with many others, and with an edge and another.
func pairs(f func(a, b [32]byte)) {
	sharp, blunt := edges(), others(2000)
	for i, a := range sharp {
		for _, b := range sharp {
			f(a, b)
		}
		f(a, blunt[i])
		f(blunt[i], a)
	}
	for i := range blunt[1:] {
		f(blunt[i], blunt[i+1])
		f(blunt[i], blunt[i])
	}
}

// P4.1: the numbers that the issue of this layer, and its chapter, name.
func TestNamed(t *testing.T) {
	p, double := raw(prime()), raw(new(big.Int).Lsh(prime(), 1))
	last := raw(near(255, -20))
	top, all := raw(near(255, 0)), raw(near(256, -1))
	for i, c := range []struct {
		a     [32]byte
		right bool
		mod   [32]byte
	}{
		{small(0), true, small(0)},
		{small(1), true, small(1)},
		{last, true, last},
		{p, false, small(0)},
		{raw(near(255, -18)), false, small(1)},
		{raw(near(255, -1)), false, small(18)},
		{top, false, small(19)},
		{double, false, small(0)},
		{raw(near(256, -39)), false, last},
		{all, false, small(37)},
	} {
		if got := field.Check(c.a); got != c.right {
			t.Errorf("%d: Check = %v", i, got)
		}
		if got := field.Mod(c.a); got != c.mod {
			t.Errorf("%d: Mod = %x, want %x", i, got, c.mod)
		}
	}
	for i, c := range []struct{ got, want [32]byte }{
		{field.Sub(small(0), small(1)), last},
		{field.Add(last, small(1)), small(0)},
		{field.Add(all, all), small(74)},
		{field.Sub(small(0), all), left(big.NewInt(-37))},
		{field.Sub(all, small(0)), small(37)},
		{field.Sub(p, double), small(0)},
		{field.Mul(last, last), small(1)},
		{field.Mul(all, all), small(37 * 37)},
		{field.Mul(top, small(2)), small(38)},
		{field.Mul(p, all), small(0)},
		{field.Inv(small(0)), small(0)},
		{field.Inv(p), small(0)},
		{field.Inv(double), small(0)},
		{field.Inv(small(1)), small(1)},
		{field.Inv(last), last},
		{field.Inv(small(2)), raw(near(254, -9))},
		{field.Mul(field.Sub(small(0), small(121665)), field.Inv(small(121666))), fromHex(t, "52036cee2b6ffe738cc740797779e89800700a4d4141d8ab75eb4dca135978a3")},
	} {
		if c.got != c.want {
			t.Errorf("%d: %x, want %x", i, c.got, c.want)
		}
	}
}

// P4.1: a number's bytes are the lowest first, each bit in its place.
func TestBits(t *testing.T) {
	for k := range 256 {
		var a [32]byte
		a[k/8] = 1 << (k % 8)
		if got, want := field.Mod(a), left(near(uint(k), 0)); got != want {
			t.Errorf("bit %d: %x, want %x", k, got, want)
		}
		if got, want := field.Mul(a, a), left(near(uint(2*k), 0)); got != want {
			t.Errorf("bit %d squared: %x, want %x", k, got, want)
		}
		if got := field.Check(a); got != (k < 255) {
			t.Errorf("bit %d: Check = %v", k, got)
		}
	}
}

// P4.1: Check and Mod of any number.
func TestMod(t *testing.T) {
	for _, a := range both() {
		below := number(a).Cmp(prime()) < 0
		if got := field.Check(a); got != below {
			t.Errorf("Check(%x) = %v", number(a), got)
		}
		got := field.Mod(a)
		if want := left(number(a)); got != want {
			t.Errorf("Mod(%x) = %x, want %x", number(a), number(got), number(want))
		}
		if !field.Check(got) || field.Mod(got) != got {
			t.Errorf("Mod(%x) is not right", number(a))
		}
	}
}

// P4.1: sums, differences and products of any two numbers.
func TestPairs(t *testing.T) {
	pairs(func(a, b [32]byte) {
		x, y, n := number(a), number(b), new(big.Int)
		if got := field.Add(a, b); got != left(n.Add(x, y)) {
			t.Fatalf("Add(%x, %x) = %x", x, y, number(got))
		}
		if got := field.Sub(a, b); got != left(n.Sub(x, y)) {
			t.Fatalf("Sub(%x, %x) = %x", x, y, number(got))
		}
		if got := field.Mul(a, b); got != left(n.Mul(x, y)) {
			t.Fatalf("Mul(%x, %x) = %x", x, y, number(got))
		}
	})
}

// P4.1: the inverse of any number; 0 of 0.
func TestInv(t *testing.T) {
	for _, a := range both() {
		want := small(0)
		if n := new(big.Int).ModInverse(number(a), prime()); n != nil {
			want = raw(n)
		}
		got := field.Inv(a)
		if got != want {
			t.Errorf("Inv(%x) = %x, want %x", number(a), number(got), number(want))
		}
		one := small(1)
		if want == small(0) {
			one = small(0)
		}
		if field.Mul(a, got) != one || field.Inv(got) != field.Mod(a) {
			t.Errorf("Inv(%x) does not undo it", number(a))
		}
	}
}

// evenRoot is the root as the library of Go has it.
func evenRoot(a [32]byte) ([32]byte, bool) {
	n := new(big.Int).Mod(number(a), prime())
	root := new(big.Int).ModSqrt(n, prime())
	if root == nil {
		return [32]byte{}, false
	}
	if root.Bit(0) == 1 {
		root.Sub(prime(), root)
	}
	return raw(root), true
}

// P4.1, R4: the even root of any number, and noughts beside a false.
func TestRoot(t *testing.T) {
	var some, none int
	for _, a := range append(both(), others(500)...) {
		want, is := evenRoot(a)
		if is {
			some++
		} else {
			none++
		}
		if got, ok := field.Root(a); got != want || ok != is {
			t.Errorf("Root(%x) = %x, %v, want %x, %v", number(a), number(got), ok, number(want), is)
		}
	}
	if some < 100 || none < 100 {
		t.Error(some, none)
	}
}

// P4.1: roots of small numbers; of 0 however it is told; of p - 1, whose root is the one that others publish.
func TestRootNamed(t *testing.T) {
	p, double := raw(prime()), raw(new(big.Int).Lsh(prime(), 1))
	for i, c := range []struct {
		a, root [32]byte
		is      bool
	}{
		{small(0), small(0), true},
		{p, small(0), true},
		{double, small(0), true},
		{small(1), left(big.NewInt(-1)), true},
		{raw(near(255, -18)), left(big.NewInt(-1)), true},
		{small(2), small(0), false},
		{small(8), small(0), false},
		{small(4), small(2), true},
		{small(9), left(big.NewInt(-3)), true},
		{small(16), small(4), true},
		{raw(near(255, -20)), fromHex(t, "2b8324804fc1df0b2b4d00993dfbd7a72f431806ad2fe478c4ee1b274a0ea0b0"), true},
		{raw(near(255, -17)), small(0), false},
		{raw(near(255, -3)), small(4), true},
		{raw(near(256, -39)), fromHex(t, "2b8324804fc1df0b2b4d00993dfbd7a72f431806ad2fe478c4ee1b274a0ea0b0"), true},
		{raw(near(256, -30)), small(0), false},
	} {
		if got, is := field.Root(c.a); got != c.root || is != c.is {
			t.Errorf("%d: Root = %x, %v, want %x, %v", i, number(got), is, number(c.root), c.is)
		}
	}
	for n := range int64(2000) {
		_, is := field.Root(small(n))
		if want := big.Jacobi(big.NewInt(n), prime()) >= 0; is != want {
			t.Errorf("Root(%d): %v", n, is)
		}
	}
}

// P4.1: of a square there is a root, and of twice a square, but that of 0, there is none.
func TestRootOfSquares(t *testing.T) {
	for _, a := range both() {
		square := field.Mul(a, a)
		root, is := field.Root(square)
		if !is || root[0]&1 != 0 || !field.Check(root) || root != field.Mod(a) && root != field.Sub(small(0), a) {
			t.Errorf("the root of the square of %x: %x, %v", number(a), number(root), is)
		}
		root, is = field.Root(field.Add(square, square))
		if is != (square == small(0)) || root != small(0) {
			t.Errorf("the root of twice the square of %x: %x, %v", number(a), number(root), is)
		}
	}
}

// P4.1: whatever bytes tell it, a number modulo p is answered alike.
func TestOtherBytes(t *testing.T) {
	b := others(1)[0]
	for k := range int64(19) {
		for _, like := range [][32]byte{raw(near(255, k-19)), raw(new(big.Int).Add(near(256, -38), big.NewInt(k)))} {
			a := small(k)
			if field.Add(a, b) != field.Add(like, b) || field.Add(b, a) != field.Add(b, like) {
				t.Error("Add", k)
			}
			if field.Sub(a, b) != field.Sub(like, b) || field.Sub(b, a) != field.Sub(b, like) {
				t.Error("Sub", k)
			}
			if field.Mul(a, b) != field.Mul(like, b) || field.Mul(b, a) != field.Mul(b, like) {
				t.Error("Mul", k)
			}
			one, is := field.Root(a)
			two, was := field.Root(like)
			if field.Inv(a) != field.Inv(like) || one != two || is != was {
				t.Error("Inv, Root", k)
			}
		}
	}
}

// P4.2: sums and products hang on no order; 0 and 1 do nothing; what was added goes again.
func TestLawsOfTwo(t *testing.T) {
	zero, one := small(0), small(1)
	pairs(func(a, b [32]byte) {
		m, sum, product := field.Mod(a), field.Add(a, b), field.Mul(a, b)
		if sum != field.Add(b, a) || product != field.Mul(b, a) {
			t.Fatalf("order: %x, %x", a, b)
		}
		if field.Add(a, zero) != m || field.Mul(a, one) != m || field.Mul(a, zero) != zero || field.Sub(a, a) != zero {
			t.Fatalf("0 and 1: %x", a)
		}
		if field.Sub(sum, b) != m || field.Add(field.Sub(a, b), b) != m {
			t.Fatalf("there and back: %x, %x", a, b)
		}
		if field.Sub(a, b) != field.Sub(zero, field.Sub(b, a)) || field.Mul(field.Sub(zero, a), b) != field.Sub(zero, product) {
			t.Fatalf("opposites: %x, %x", a, b)
		}
		if (product == zero) != (m == zero || field.Mod(b) == zero) {
			t.Fatalf("a product of 0: %x, %x", a, b)
		}
		if !field.Check(sum) || !field.Check(product) || !field.Check(field.Sub(a, b)) {
			t.Fatalf("not right: %x, %x", a, b)
		}
	})
}

// P4.2: of three it is all the same which two are taken first, and a product goes through a sum.
func TestLawsOfThree(t *testing.T) {
	some := append(edges()[:40], others(10)...)
	for _, a := range some {
		for _, b := range some {
			for _, c := range some {
				if field.Add(field.Add(a, b), c) != field.Add(a, field.Add(b, c)) {
					t.Fatalf("sums: %x, %x, %x", a, b, c)
				}
				if field.Mul(field.Mul(a, b), c) != field.Mul(a, field.Mul(b, c)) {
					t.Fatalf("products: %x, %x, %x", a, b, c)
				}
				if field.Mul(a, field.Add(b, c)) != field.Add(field.Mul(a, b), field.Mul(a, c)) {
					t.Fatalf("through one another: %x, %x, %x", a, b, c)
				}
			}
		}
	}
}

// P4.2: inverses and roots go through products.
func TestLawsOfInverses(t *testing.T) {
	all := both()
	for i, a := range all {
		b := all[len(all)-1-i]
		if field.Inv(field.Mul(a, b)) != field.Mul(field.Inv(a), field.Inv(b)) {
			t.Errorf("inverses: %x, %x", a, b)
		}
		first, one := field.Root(a)
		second, two := field.Root(b)
		_, is := field.Root(field.Mul(a, b))
		zero := field.Mul(a, b) == small(0)
		if is != (one == two || zero) {
			t.Errorf("roots: %x, %x", a, b)
		}
		if one && two && field.Mul(field.Mul(first, second), field.Mul(first, second)) != field.Mul(a, b) {
			t.Errorf("the roots' product: %x, %x", a, b)
		}
	}
}

// R3: what is answered hangs on no earlier call.
func TestNothingKept(t *testing.T) {
	a, b := others(2)[0], others(2)[1]
	all := func() [6][32]byte {
		root, _ := field.Root(field.Mul(a, a))
		return [6][32]byte{field.Mod(a), field.Add(a, b), field.Sub(a, b), field.Mul(a, b), field.Inv(a), root}
	}
	first := all()
	for _, c := range edges() {
		field.Inv(c)
		field.Root(c)
		field.Sub(c, a)
		if all() != first {
			t.Fatalf("unlike behind %x", c)
		}
	}
}

// P4.1: any two numbers, held against the library of Go.
func FuzzField(f *testing.F) {
	for _, a := range edges() {
		b := others(1)[0]
		f.Add(a[:], b[:])
		f.Add(b[:], a[:])
	}
	f.Fuzz(func(t *testing.T, first, second []byte) {
		var a, b [32]byte
		copy(a[:], first)
		copy(b[:], second)
		x, y, n := number(a), number(b), new(big.Int)
		if field.Mod(a) != left(x) || field.Check(a) != (x.Cmp(prime()) < 0) {
			t.Errorf("Mod, Check of %x", x)
		}
		if field.Add(a, b) != left(n.Add(x, y)) || field.Sub(a, b) != left(n.Sub(x, y)) || field.Mul(a, b) != left(n.Mul(x, y)) {
			t.Errorf("Add, Sub, Mul of %x, %x", x, y)
		}
		if n.ModInverse(x, prime()) == nil {
			n = new(big.Int)
		}
		if field.Inv(a) != raw(n) {
			t.Errorf("Inv of %x", x)
		}
		want, is := evenRoot(a)
		if got, ok := field.Root(a); got != want || ok != is {
			t.Errorf("Root of %x", x)
		}
	})
}
