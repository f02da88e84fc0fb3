package curve_test

import (
	"crypto/ed25519"
	"crypto/sha512"
	"encoding/hex"
	"math/big"
	"math/rand"
	"slices"
	"strings"
	"testing"

	"codicil/api"
	"codicil/curve"
)

var (
	p = near(255, -19)
	// own is d.
	own   = part(big.NewInt(-121665), big.NewInt(121666))
	order = func() *big.Int {
		n, _ := new(big.Int).SetString("27742317777372353535851937790883648493", 10)
		return n.Add(n, near(252, 0))
	}()
)

// pair is a point by its two numbers: all that the chapter says is reckoned with these, by math/big.
type pair struct{ x, y *big.Int }

// near is 2^power and more.
func near(power uint, more int64) *big.Int {
	n := new(big.Int).Lsh(big.NewInt(1), power)
	return n.Add(n, big.NewInt(more))
}

// orders is L so many times, and more.
func orders(count, more int64) *big.Int {
	n := new(big.Int).Mul(order, big.NewInt(count))
	return n.Add(n, big.NewInt(more))
}

// product is that of all factors, modulo p.
func product(factors ...*big.Int) *big.Int {
	n := big.NewInt(1)
	for _, f := range factors {
		n.Mod(n.Mul(n, f), p)
	}
	return n
}

// plus is the sum of both, modulo p.
func plus(x, y *big.Int) *big.Int {
	n := new(big.Int).Add(x, y)
	return n.Mod(n, p)
}

// minus is x without y, modulo p.
func minus(x, y *big.Int) *big.Int {
	n := new(big.Int).Sub(x, y)
	return n.Mod(n, p)
}

// part is x / y, modulo p.
func part(x, y *big.Int) *big.Int {
	return product(x, new(big.Int).ModInverse(y, p))
}

// sum is the sum of two points, as the chapter has it.
func sum(a, b pair) pair {
	one := big.NewInt(1)
	k := product(own, a.x, b.x, a.y, b.y)
	return pair{
		part(plus(product(a.x, b.y), product(a.y, b.x)), plus(one, k)),
		part(plus(product(a.y, b.y), product(a.x, b.x)), minus(one, k)),
	}
}

// times is n times a point.
func times(n *big.Int, a pair) pair {
	total := pair{big.NewInt(0), big.NewInt(1)}
	for i := range n.BitLen() {
		if n.Bit(i) == 1 {
			total = sum(total, a)
		}
		a = sum(a, a)
	}
	return total
}

// on tells whether a pair is a point.
func on(a pair) bool {
	xx, yy := product(a.x, a.x), product(a.y, a.y)
	return minus(yy, xx).Cmp(plus(big.NewInt(1), product(own, xx, yy))) == 0
}

// number is what the bytes are, the lowest first.
func number(a [32]byte) *big.Int {
	slices.Reverse(a[:])
	return new(big.Int).SetBytes(a[:])
}

// raw is the bytes of n, from 0 to 2^256 - 1, the lowest first.
func raw(n *big.Int) [32]byte {
	var a [32]byte
	n.FillBytes(a[:])
	slices.Reverse(a[:])
	return a
}

// small is the bytes of n.
func small(n int64) [32]byte { return raw(big.NewInt(n)) }

// text is the bytes of a point.
func text(a pair) [32]byte {
	out := raw(a.y)
	out[31] |= byte(a.x.Bit(0)) << 7
	return out
}

// pointOf is the point that the bytes are; false if they are none's.
func pointOf(a [32]byte) (pair, bool) {
	odd := uint(a[31] >> 7)
	a[31] &= 0x7f
	y := number(a)
	if y.Cmp(p) >= 0 {
		return pair{}, false
	}
	yy := product(y, y)
	xx := part(minus(yy, big.NewInt(1)), plus(product(own, yy), big.NewInt(1)))
	x := new(big.Int).ModSqrt(xx, p)
	if x == nil || x.Sign() == 0 && odd == 1 {
		return pair{}, false
	}
	if x.Bit(0) != odd {
		x.Sub(p, x)
	}
	return pair{x, y}, true
}

// other is the bytes with the highest bit turned about.
func other(a [32]byte) [32]byte {
	a[31] ^= 0x80
	return a
}

// eighth is a point of order eight: twice it has y = 0, and is of order four.
func eighth(t testing.TB) pair {
	a, is := pointOf(digits(t, "26e8958fc2b227b045c3f489f2ef98f0d5dfac05d3c63339b13802886d53fc05"))
	if !is || sum(a, a).y.Sign() != 0 {
		t.Fatal("not a point of order eight")
	}
	return a
}

// digits is the bytes of hexadecimal digits.
func digits(t testing.TB, s string) [32]byte {
	b, err := hex.DecodeString(s)
	if err != nil || len(b) != 32 {
		t.Fatal(s, err)
	}
	return [32]byte(b)
}

// base is the chapter's.
func base() pair {
	a, _ := pointOf(raw(part(big.NewInt(4), big.NewInt(5))))
	return a
}

// few is the eight points of small order, nought the first of them.
func few(t testing.TB) []pair {
	var all []pair
	for i := range int64(8) {
		all = append(all, times(big.NewInt(i), eighth(t)))
	}
	return all
}

// some is points of all orders: those of small order, multiples of the base, sums of the two, and others.
func some(t testing.TB, r *rand.Rand) []pair {
	all := few(t)
	for _, n := range []*big.Int{big.NewInt(1), big.NewInt(2), big.NewInt(3), orders(1, -1), number(bytesOf(r))} {
		all = append(all, times(n, base()))
	}
	for i, a := range all[1:8] {
		all = append(all, sum(a, all[8+i%5]))
	}
	for len(all) < 24 {
		if a, is := pointOf(bytesOf(r)); is {
			all = append(all, a)
		}
	}
	return all
}

// bytesOf is any 32 bytes.
func bytesOf(r *rand.Rand) [32]byte {
	var a [32]byte
	r.Read(a[:])
	return a
}

// named is the multiples that the layer's issue names, and some beside them.
func named() []*big.Int {
	all := []*big.Int{
		orders(1, -1), orders(1, 0), orders(1, 1), orders(8, 0), orders(15, 0),
		near(252, 0), near(255, -1), near(255, 0), near(256, -1), near(128, 0), near(248, 0), near(4, 0),
	}
	for i := range int64(10) {
		all = append(all, big.NewInt(i))
	}
	return all
}

// wrong is bytes that are no point's.
func wrong() [][32]byte {
	all := [][32]byte{
		other(small(1)), other(raw(near(255, -20))), // x is 0
		raw(near(255, -19)), raw(near(255, -18)), raw(near(255, -17)), raw(near(255, -2)), raw(near(255, -1)), // y is p or more
		small(2), other(small(2)), small(7), // there is no x
	}
	for _, a := range all[2:7] {
		all = append(all, other(a))
	}
	return append(all, raw(near(256, -1)))
}

// P6.1: the example of the chapter, and the same by its own words.
func TestExample(t *testing.T) {
	one := curve.Base(small(1))
	if hex.EncodeToString(one[:]) != "58"+strings.Repeat("66", 31) {
		t.Errorf("%x", one)
	}
	if one != text(base()) || base().x.Bit(0) != 0 || !on(base()) {
		t.Errorf("%x", one)
	}
}

// P6.1: points are right, at every order.
func TestCheckPoints(t *testing.T) {
	r := rand.New(rand.NewSource(1))
	for _, a := range some(t, r) {
		if !on(a) || !curve.Check(text(a)) {
			t.Errorf("%x is a point", text(a))
		}
	}
	for _, s := range []string{
		"01" + strings.Repeat("00", 31),
		"ec" + strings.Repeat("ff", 30) + "7f",
		strings.Repeat("00", 32),
		strings.Repeat("00", 31) + "80",
		"26e8958fc2b227b045c3f489f2ef98f0d5dfac05d3c63339b13802886d53fc05",
		"26e8958fc2b227b045c3f489f2ef98f0d5dfac05d3c63339b13802886d53fc85",
		"c7176a703d4dd84fba3c0b760d10670f2a2053fa2c39ccc64ec7fd7792ac037a",
		"c7176a703d4dd84fba3c0b760d10670f2a2053fa2c39ccc64ec7fd7792ac03fa",
	} {
		if !curve.Check(digits(t, s)) {
			t.Error(s, "is a point")
		}
	}
}

// P6.1: bytes of a y that is not below p, of a y without an x, or with the bit of an odd x where x is 0, are not right.
func TestCheckWrong(t *testing.T) {
	for _, a := range wrong() {
		if curve.Check(a) {
			t.Errorf("%x is no point", a)
		}
	}
}

// P6.1: right are just those bytes of which the chapter says so: about 0, p and 2^255, with both bits, and any.
func TestCheckAll(t *testing.T) {
	var all [][32]byte
	for i := range int64(200) {
		all = append(all, small(i), raw(near(255, -1-i)))
	}
	r := rand.New(rand.NewSource(2))
	for range 200 {
		all = append(all, bytesOf(r))
	}
	for _, a := range all {
		for _, b := range [][32]byte{a, other(a)} {
			if _, is := pointOf(b); curve.Check(b) != is {
				t.Errorf("%x: %v", b, !is)
			}
		}
	}
}

// P6.1: sums of all pairs, points of small order and one point twice among them.
func TestAdd(t *testing.T) {
	all := some(t, rand.New(rand.NewSource(3)))
	for _, a := range all {
		for _, b := range all {
			if got, e := curve.Add(text(a), text(b)); got != text(sum(a, b)) || e != 0 {
				t.Errorf("%x and %x: %x %v", text(a), text(b), got, e)
			}
		}
	}
}

// P6.1: the other side of a point has the other x; where that is 0, it is the point.
func TestNeg(t *testing.T) {
	for _, a := range some(t, rand.New(rand.NewSource(4))) {
		want := text(pair{minus(big.NewInt(0), a.x), a.y})
		if got, e := curve.Neg(text(a)); got != want || e != 0 {
			t.Errorf("%x: %x %v", text(a), got, e)
		}
		if same := text(a) == want; same != (a.x.Sign() == 0) {
			t.Errorf("%x", text(a))
		}
	}
}

// P6.1: multiples at the named edges, of points of all orders; 0 times is (0, 1).
func TestMul(t *testing.T) {
	r := rand.New(rand.NewSource(5))
	all := some(t, r)
	if testing.Short() {
		all = all[6:10]
	}
	for _, a := range all {
		for _, n := range append(named(), number(bytesOf(r))) {
			if got, e := curve.Mul(raw(n), text(a)); got != text(times(n, a)) || e != 0 {
				t.Errorf("%v times %x: %x %v", n, text(a), got, e)
			}
		}
		if got, e := curve.Mul(small(0), text(a)); got != small(1) || e != 0 {
			t.Errorf("0 times %x: %x %v", text(a), got, e)
		}
	}
}

// P6.1: each bit of the number counts for as much as it stands for, and so does each four of them.
func TestMulBits(t *testing.T) {
	power := sum(base(), eighth(t))
	a := text(power)
	for i := range uint(256) {
		if got, e := curve.Mul(raw(near(i, 0)), a); got != text(power) || e != 0 {
			t.Errorf("2^%d times: %x %v", i, got, e)
		}
		power = sum(power, power)
	}
	total := pair{big.NewInt(0), big.NewInt(1)}
	for i := range int64(300) {
		if got, e := curve.Mul(small(i), a); got != text(total) || e != 0 {
			t.Errorf("%d times: %x %v", i, got, e)
		}
		total = sum(total, sum(base(), eighth(t)))
	}
}

// P6.1: multiples of the base, at the named edges and others.
func TestBase(t *testing.T) {
	r := rand.New(rand.NewSource(6))
	all := named()
	for range 20 {
		all = append(all, number(bytesOf(r)))
	}
	for _, n := range all {
		got := curve.Base(raw(n))
		if got != text(times(n, base())) {
			t.Errorf("%v times: %x", n, got)
		}
		if times, e := curve.Mul(raw(n), curve.Base(small(1))); times != got || e != 0 {
			t.Errorf("%v times: %x %v", n, times, e)
		}
	}
	if curve.Base(raw(order)) != small(1) || curve.Base(raw(orders(1, 1))) != curve.Base(small(1)) {
		t.Error("L times the base is not nought")
	}
	minusOne, _ := curve.Neg(curve.Base(small(1)))
	if curve.Base(raw(orders(1, -1))) != minusOne {
		t.Error("L - 1 times the base is not its other side")
	}
}

// P6.1: multiples of the base are the keys that another one's Ed25519 has.
func TestBaseKeys(t *testing.T) {
	r := rand.New(rand.NewSource(7))
	for range 100 {
		seed := bytesOf(r)
		h := sha512.Sum512(seed[:])
		n := [32]byte(h[:32])
		n[0] &= 0xf8
		n[31] = n[31]&0x7f | 0x40
		want := ed25519.NewKeyFromSeed(seed[:]).Public().(ed25519.PublicKey)
		if got := curve.Base(n); got != [32]byte(want) {
			t.Errorf("%x: %x", n, got)
		}
	}
}

// P6.1, R4: ErrArg and noughts for each of a function's points that is not right, whatever the others are.
func TestErrArg(t *testing.T) {
	right := [][32]byte{small(1), curve.Base(small(1)), text(eighth(t))}
	for _, a := range wrong() {
		for _, b := range append(right, a, other(a)) {
			if got, e := curve.Add(a, b); got != [32]byte{} || e != api.ErrArg {
				t.Errorf("%x and %x: %x %v", a, b, got, e)
			}
			if got, e := curve.Add(b, a); got != [32]byte{} || e != api.ErrArg {
				t.Errorf("%x and %x: %x %v", b, a, got, e)
			}
		}
		if got, e := curve.Neg(a); got != [32]byte{} || e != api.ErrArg {
			t.Errorf("%x: %x %v", a, got, e)
		}
		for _, n := range named() {
			if got, e := curve.Mul(raw(n), a); got != [32]byte{} || e != api.ErrArg {
				t.Errorf("%v times %x: %x %v", n, a, got, e)
			}
		}
	}
}

// add is the sum of right points.
func add(t testing.TB, a, b [32]byte) [32]byte {
	t.Helper()
	c, e := curve.Add(a, b)
	if e != 0 || !curve.Check(c) {
		t.Errorf("%x and %x: %x %v", a, b, c, e)
	}
	return c
}

// mul is n times a right point.
func mul(t testing.TB, n, a [32]byte) [32]byte {
	t.Helper()
	c, e := curve.Mul(n, a)
	if e != 0 || !curve.Check(c) {
		t.Errorf("%x times %x: %x %v", n, a, c, e)
	}
	return c
}

// neg is the other side of a right point.
func neg(t testing.TB, a [32]byte) [32]byte {
	t.Helper()
	c, e := curve.Neg(a)
	if e != 0 || !curve.Check(c) {
		t.Errorf("%x: %x %v", a, c, e)
	}
	return c
}

// P6.2: sums hang on no order, nought changes nothing, with the other side a point is nought.
func TestGroup(t *testing.T) {
	nought := small(1)
	all := some(t, rand.New(rand.NewSource(8)))
	for i := range all {
		a, b, c := text(all[i]), text(all[(i+7)%len(all)]), text(all[(i*5+3)%len(all)])
		if add(t, a, nought) != a || add(t, nought, a) != a {
			t.Errorf("%x and nought", a)
		}
		if add(t, a, neg(t, a)) != nought || add(t, neg(t, a), a) != nought || neg(t, neg(t, a)) != a {
			t.Errorf("%x and its other side", a)
		}
		if add(t, a, b) != add(t, b, a) {
			t.Errorf("%x and %x, in the other order", a, b)
		}
		if add(t, add(t, a, b), c) != add(t, a, add(t, b, c)) {
			t.Errorf("%x, %x and %x, in the other order", a, b, c)
		}
		if add(t, add(t, a, b), neg(t, b)) != a {
			t.Errorf("%x, and %x to and fro", a, b)
		}
		if neg(t, add(t, a, b)) != add(t, neg(t, a), neg(t, b)) {
			t.Errorf("the other side of %x and %x", a, b)
		}
	}
}

// P6.2: sums of multiples are multiples of sums, multiples of multiples are those by the product.
func TestGroupMultiples(t *testing.T) {
	r := rand.New(rand.NewSource(9))
	all := some(t, r)
	for i := range all {
		a, b := text(all[i]), text(all[(i+5)%len(all)])
		n, m := bytesOf(r), bytesOf(r)
		n[31], m[31] = n[31]&0x7f, m[31]&0x7f
		both := raw(new(big.Int).Add(number(n), number(m)))
		if mul(t, n, add(t, a, b)) != add(t, mul(t, n, a), mul(t, n, b)) {
			t.Errorf("%x times %x and %x", n, a, b)
		}
		if mul(t, both, a) != add(t, mul(t, n, a), mul(t, m, a)) {
			t.Errorf("%x and %x times %x", n, m, a)
		}
		clear(n[16:])
		clear(m[16:])
		if by := raw(new(big.Int).Mul(number(n), number(m))); mul(t, n, mul(t, m, a)) != mul(t, by, a) {
			t.Errorf("%x times %x times %x", n, m, a)
		}
	}
}

// P6.2: every point is nought 8 L times, those of small order 8 times, and not all of these sooner.
func TestOrders(t *testing.T) {
	nought := small(1)
	for _, a := range some(t, rand.New(rand.NewSource(10))) {
		if mul(t, raw(orders(8, 0)), text(a)) != nought {
			t.Errorf("8 L times %x", text(a))
		}
	}
	for i, a := range few(t) {
		least := [...]int{1, 8, 4, 8, 2, 8, 4, 8}[i]
		for n := 1; n <= 8; n++ {
			if is := mul(t, small(int64(n)), text(a)) == nought; is != (n%least == 0) {
				t.Errorf("%d times %x", n, text(a))
			}
		}
	}
	if two := text(few(t)[4]); two != raw(near(255, -20)) {
		t.Errorf("%x is not y = p - 1", two)
	}
	if four := text(few(t)[2]); four != small(0) && four != other(small(0)) {
		t.Errorf("%x is not y = 0", four)
	}
}

// P6.1, P6.2: any bytes.
func FuzzCurve(f *testing.F) {
	one, last := curve.Base(small(1)), near(256, -1)
	f.Add(one[:], one[:], last.Bytes())
	for _, a := range append(wrong(), text(eighth(f)), small(0), small(1), small(3)) {
		f.Add(a[:], one[:], a[:])
	}
	f.Fuzz(func(t *testing.T, first, second, third []byte) {
		var a, b, n [32]byte
		copy(a[:], first)
		copy(b[:], second)
		copy(n[:], third)
		x, isX := pointOf(a)
		y, isY := pointOf(b)
		if curve.Check(a) != isX || curve.Check(b) != isY {
			t.Fatalf("%x %v, %x %v", a, isX, b, isY)
		}
		var wantSum, wantNeg, wantMul [32]byte
		wrongSum, wrongA := api.ErrArg, api.ErrArg
		if isX && isY {
			wantSum, wrongSum = text(sum(x, y)), 0
		}
		if isX {
			wantNeg, wantMul, wrongA = text(pair{minus(big.NewInt(0), x.x), x.y}), text(times(number(n), x)), 0
		}
		if got, e := curve.Add(a, b); got != wantSum || e != wrongSum {
			t.Errorf("%x and %x: %x %v", a, b, got, e)
		}
		if got, e := curve.Neg(a); got != wantNeg || e != wrongA {
			t.Errorf("%x: %x %v", a, got, e)
		}
		if got, e := curve.Mul(n, a); got != wantMul || e != wrongA {
			t.Errorf("%x times %x: %x %v", n, a, got, e)
		}
		if got := curve.Base(n); got != text(times(number(n), base())) {
			t.Errorf("%x times the base: %x", n, got)
		}
	})
}

func BenchmarkMul(b *testing.B) {
	n, a := bytesOf(rand.New(rand.NewSource(11))), curve.Base(small(9))
	for b.Loop() {
		curve.Mul(n, a)
	}
}

func BenchmarkBase(b *testing.B) {
	n := bytesOf(rand.New(rand.NewSource(12)))
	for b.Loop() {
		curve.Base(n)
	}
}

func BenchmarkCheck(b *testing.B) {
	a := curve.Base(small(9))
	for b.Loop() {
		curve.Check(a)
	}
}
