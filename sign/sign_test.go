package sign_test

import (
	"bytes"
	"crypto/ed25519"
	"crypto/sha512"
	"encoding/hex"
	"math/big"
	"math/rand"
	"slices"
	"strconv"
	"strings"
	"testing"

	"codicil/api"
	"codicil/curve"
	"codicil/scalar"
	"codicil/sign"
)

// near is 2^power and more.
func near(power uint, more int64) *big.Int {
	n := new(big.Int).Lsh(big.NewInt(1), power)
	return n.Add(n, big.NewInt(more))
}

// orders is L so many times, and more.
func orders(count, more int64) *big.Int {
	n, _ := new(big.Int).SetString("27742317777372353535851937790883648493", 10)
	n.Add(n, near(252, 0))
	n.Mul(n, big.NewInt(count))
	return n.Add(n, big.NewInt(more))
}

// number is what the bytes are, the lowest first.
func number(a []byte) *big.Int {
	a = slices.Clone(a)
	slices.Reverse(a)
	return new(big.Int).SetBytes(a)
}

// raw is the bytes of n, from 0 to 2^256 - 1, the lowest first.
func raw(n *big.Int) [32]byte {
	var a [32]byte
	n.FillBytes(a[:])
	slices.Reverse(a[:])
	return a
}

// small is the bytes of n.
func small(n int64) [32]byte { return raw(big.NewInt(n)) }

// other is the bytes with the highest bit turned about.
func other(a [32]byte) [32]byte {
	a[31] ^= 0x80
	return a
}

// digits is the bytes of hexadecimal digits.
func digits(t testing.TB, s string) []byte {
	t.Helper()
	b, err := hex.DecodeString(s)
	if err != nil {
		t.Fatal(s, err)
	}
	return b
}

// bytesOf is any 32 bytes.
func bytesOf(r *rand.Rand) [32]byte {
	var a [32]byte
	r.Read(a[:])
	return a
}

// textOf is any text of so many bytes.
func textOf(r *rand.Rand, length int) []byte {
	text := make([]byte, length)
	r.Read(text)
	return text
}

// seeds is those at the edges, and some others.
func seeds(r *rand.Rand, others int) [][32]byte {
	all := [][32]byte{{}, small(1), raw(near(256, -1)), raw(near(255, 0))}
	for range others {
		all = append(all, bytesOf(r))
	}
	return all
}

// together is a signature of its two halves.
func together(point, s [32]byte) [64]byte {
	return [64]byte(slices.Concat(point[:], s[:]))
}

// secret is a seed's number, as the chapter has it.
func secret(seed [32]byte) *big.Int {
	h := sha512.Sum512(seed[:])
	n := number(h[:32])
	for _, i := range []int{0, 1, 2, 255} {
		n.SetBit(n, i, 0)
	}
	return n.SetBit(n, 254, 1)
}

// binding is the number k.
func binding(point, public [32]byte, text []byte) *big.Int {
	h := sha512.Sum512(slices.Concat(point[:], public[:], text))
	return new(big.Int).Mod(number(h[:]), orders(1, 0))
}

// answer is the S that goes with a first half whose point is r times the base, and perhaps one of small order: k times s, and r.
func answer(k, s, r *big.Int) [32]byte {
	n := new(big.Int).Mul(k, s)
	n.Add(n, r)
	return raw(n.Mod(n, orders(1, 0)))
}

// textFor is a text whose k leaves so much modulo 8.
func textFor(point, public [32]byte, left int64) []byte {
	for i := 0; ; i++ {
		text := []byte("text " + strconv.Itoa(i))
		if new(big.Int).And(binding(point, public, text), big.NewInt(7)).Int64() == left {
			return text
		}
	}
}

// few is the eight points of small order, each at its place as a multiple of one of order eight.
func few(t testing.TB) [8][32]byte {
	t.Helper()
	eighth := [32]byte(digits(t, "26e8958fc2b227b045c3f489f2ef98f0d5dfac05d3c63339b13802886d53fc05"))
	var all [8][32]byte
	for i := range all {
		point, e := curve.Mul(small(int64(i)), eighth)
		if e != api.OK || slices.Contains(all[:i], point) {
			t.Fatal("not a point of order eight")
		}
		all[i] = point
	}
	return all
}

// add is the sum of two points.
func add(t testing.TB, a, b [32]byte) [32]byte {
	t.Helper()
	c, e := curve.Add(a, b)
	if e != api.OK {
		t.Fatal(e)
	}
	return c
}

// double is bytes that are not right, though one who reads them with less care takes them for a point.
type double struct{ wrong, right [32]byte }

// doubles is those of points of small order: of these alone we can make all else of a signature fit.
func doubles() []double {
	last := raw(near(255, -20))
	return []double{
		{other(small(1)), small(1)}, {other(last), last}, // x is 0
		{raw(near(255, -19)), small(0)}, {other(raw(near(255, -19))), other(small(0))}, // y is p
		{raw(near(255, -18)), small(1)}, {other(raw(near(255, -18))), small(1)}, // y is p + 1
	}
}

// wrong is bytes that are no point's.
func wrong() [][32]byte {
	all := [][32]byte{small(2), other(small(2)), small(7), other(small(7)), raw(near(256, -1))} // there is no x; all bits
	for more := int64(1); more <= 19; more++ {
		y := raw(near(255, -more)) // p or more
		all = append(all, y, other(y))
	}
	for _, d := range doubles() {
		all = append(all, d.wrong)
	}
	return all
}

// verified is what another one's Ed25519 says, that reads some keys that are not right.
func verified(public [32]byte, text []byte, sig [64]byte) bool {
	y := public
	y[31] &= 0x7f
	if number(y[:]).Cmp(near(255, -19)) >= 0 || public == other(small(1)) || public == other(raw(near(255, -20))) {
		return false
	}
	return ed25519.Verify(public[:], text, sig[:])
}

// vector is one of RFC 8032, 7.1.
type vector struct{ seed, public, text, sig string }

var vectors = []vector{
	{
		"9d61b19deffd5a60ba844af492ec2cc44449c5697b326919703bac031cae7f60",
		"d75a980182b10ab7d54bfed3c964073a0ee172f3daa62325af021a68f707511a",
		"",
		"e5564300c360ac729086e2cc806e828a84877f1eb8e5d974d873e065224901555fb8821590a33bacc61e39701cf9b46bd25bf5f0595bbe24655141438e7a100b",
	},
	{
		"4ccd089b28ff96da9db6c346ec114e0f5b8a319f35aba624da8cf6ed4fb8a6fb",
		"3d4017c3e843895a92b70aa74d1b7ebc9c982ccf2ec4968cc0cd55f12af4660c",
		"72",
		"92a009a9f0d4cab8720e820b5f642540a2b27b5416503f8fb3762223ebdb69da085ac1e43e15996e458f3613d0f11d8c387b2eaeb4302aeeb00d291612bb0c00",
	},
	{
		"c5aa8df43f9f837bedb7442f31dcb7b166d38535076f094b85ce3a2e0b4458f7",
		"fc51cd8e6218a1a38da47ed00230f0580816ed13ba3303ac5deb911548908025",
		"af82",
		"6291d657deec24024827e69c3abe01a30ce548a284743a445e3680d7db5ac3ac18ff9b538d16f290ae67f760984dc6594a7c15e9716ed28dc027beceea1ec40a",
	},
	{
		"f5e5767cf153319517630f226876b86c8160cc583bc013744c6bf255f5cc0ee5",
		"278117fc144c72340f67d0f2316e8386ceffbf2b2428c9c51fef7c597f1d426e",
		longText,
		"0aab4c900501b3e24d7cdf4663326a3a87df5e4843b2cbdb67cbf6e460fec350aa5371b1508f9f4528ecea23c436d94b5e8fcd4f681e30a6ac00a9704a188a03",
	},
	{
		"833fe62409237b9d62ec77587520911e9a759cec1d19755b7da901b96dca3d42",
		"ec172b93ad5e563bf4932c70e1245034c35467ef2efd4d64ebf819683467e2bf",
		"ddaf35a193617abacc417349ae20413112e6fa4e89a97ea20a9eeee64b55d39a2192992a274fc1a836ba3c23a3feebbd454d4423643ce80e2a9ac94fa54ca49f",
		"dc2a4459e7369633a52b1bf277839a00201009a3efbf3ecb69bea2186c26b58909351fc9ac90b3ecfdfbc7c66431e0303dca179c138ac17ad9bef1177331a704",
	},
}

// longText is the text of the one that the RFC calls TEST 1024; it has 1023 bytes.
const longText = "" +
	"08b8b2b733424243760fe426a4b54908632110a66c2f6591eabd3345e3e4eb98fa6e264bf09efe12ee50f8f54e9f77b1e355f6c50544e23fb1433ddf73be84d8" +
	"79de7c0046dc4996d9e773f4bc9efe5738829adb26c81b37c93a1b270b20329d658675fc6ea534e0810a4432826bf58c941efb65d57a338bbd2e26640f89ffbc" +
	"1a858efcb8550ee3a5e1998bd177e93a7363c344fe6b199ee5d02e82d522c4feba15452f80288a821a579116ec6dad2b3b310da903401aa62100ab5d1a36553e" +
	"06203b33890cc9b832f79ef80560ccb9a39ce767967ed628c6ad573cb116dbefefd75499da96bd68a8a97b928a8bbc103b6621fcde2beca1231d206be6cd9ec7" +
	"aff6f6c94fcd7204ed3455c68c83f4a41da4af2b74ef5c53f1d8ac70bdcb7ed185ce81bd84359d44254d95629e9855a94a7c1958d1f8ada5d0532ed8a5aa3fb2" +
	"d17ba70eb6248e594e1a2297acbbb39d502f1a8c6eb6f1ce22b3de1a1f40cc24554119a831a9aad6079cad88425de6bde1a9187ebb6092cf67bf2b13fd65f270" +
	"88d78b7e883c8759d2c4f5c65adb7553878ad575f9fad878e80a0c9ba63bcbcc2732e69485bbc9c90bfbd62481d9089beccf80cfe2df16a2cf65bd92dd597b07" +
	"07e0917af48bbb75fed413d238f5555a7a569d80c3414a8d0859dc65a46128bab27af87a71314f318c782b23ebfe808b82b0ce26401d2e22f04d83d1255dc51a" +
	"ddd3b75a2b1ae0784504df543af8969be3ea7082ff7fc9888c144da2af58429ec96031dbcad3dad9af0dcbaaaf268cb8fcffead94f3c7ca495e056a9b47acdb7" +
	"51fb73e666c6c655ade8297297d07ad1ba5e43f1bca32301651339e22904cc8c42f58c30c04aafdb038dda0847dd988dcda6f3bfd15c4b4c4525004aa06eeff8" +
	"ca61783aacec57fb3d1f92b0fe2fd1a85f6724517b65e614ad6808d6f6ee34dff7310fdc82aebfd904b01e1dc54b2927094b2db68d6f903b68401adebf5a7e08" +
	"d78ff4ef5d63653a65040cf9bfd4aca7984a74d37145986780fc0b16ac451649de6188a7dbdf191f64b5fc5e2ab47b57f7f7276cd419c17a3ca8e1b939ae49e4" +
	"88acba6b965610b5480109c8b17b80e1b7b750dfc7598d5d5011fd2dcc5600a32ef5b52a1ecc820e308aa342721aac0943bf6686b64b2579376504ccc493d97e" +
	"6aed3fb0f9cd71a43dd497f01f17c0e2cb3797aa2a2f256656168e6c496afc5fb93246f6b1116398a346f1a641f3b041e989f7914f90cc2c7fff357876e506b5" +
	"0d334ba77c225bc307ba537152f3f1610e4eafe595f6d9d90d11faa933a15ef1369546868a7f3a45a96768d40fd9d03412c091c6315cf4fde7cb68606937380d" +
	"b2eaaa707b4c4185c32eddcdd306705e4dc1ffc872eeee475a64dfac86aba41c0618983f8741c5ef68d3a101e8a3b8cac60c905c15fc910840b94c00a0b9d0"

// P7.1: the example of the chapter.
func TestExample(t *testing.T) {
	public := sign.Public([32]byte(digits(t, vectors[0].seed)))
	if got := hex.EncodeToString(public[:]); !strings.HasPrefix(got, "d75a9801") || !strings.HasSuffix(got, "511a") || got != vectors[0].public {
		t.Error(got)
	}
}

// P7.1: the published vectors.
func TestVectors(t *testing.T) {
	for i, v := range vectors {
		seed, text := [32]byte(digits(t, v.seed)), digits(t, v.text)
		public, sig := sign.Public(seed), sign.Sign(seed, text)
		if hex.EncodeToString(public[:]) != v.public {
			t.Errorf("%d: public key %x", i, public)
		}
		if hex.EncodeToString(sig[:]) != v.sig {
			t.Errorf("%d: signature %x", i, sig)
		}
		if !sign.Verify([32]byte(digits(t, v.public)), text, [64]byte(digits(t, v.sig))) {
			t.Errorf("%d: not verified", i)
		}
	}
}

// hold asks that a text is signed as by another one's Ed25519, and that this is verified.
func hold(t *testing.T, seed [32]byte, text []byte) {
	t.Helper()
	key := ed25519.NewKeyFromSeed(seed[:])
	public, sig := sign.Public(seed), sign.Sign(seed, text)
	if !bytes.Equal(public[:], key[32:]) {
		t.Errorf("seed %x: public key %x", seed, public)
	}
	if !bytes.Equal(sig[:], ed25519.Sign(key, text)) {
		t.Errorf("seed %x, %d bytes: signature %x", seed, len(text), sig)
	}
	if !sign.Verify(public, text, sig) {
		t.Errorf("seed %x, %d bytes: not verified", seed, len(text))
	}
}

// P7.1, P7.2: ordinary seeds, and those of all noughts and all ones.
func TestSeeds(t *testing.T) {
	r := rand.New(rand.NewSource(1))
	for _, seed := range seeds(r, 150) {
		hold(t, seed, textOf(r, r.Intn(100)))
	}
}

// P7.1, P7.2: texts of no byte, of one, of each length about the ends of the first blocks of layer 2, whatever stands ahead of the text.
func TestLengths(t *testing.T) {
	r := rand.New(rand.NewSource(2))
	seed := bytesOf(r)
	for length := range 400 {
		hold(t, seed, textOf(r, length))
	}
}

// P7.1, P7.2: each text of one byte.
func TestOneByte(t *testing.T) {
	seed := bytesOf(rand.New(rand.NewSource(3)))
	for c := range 256 {
		hold(t, seed, []byte{byte(c)})
	}
}

// P7.1, P7.2: long texts.
func TestLong(t *testing.T) {
	r := rand.New(rand.NewSource(4))
	for _, length := range []int{1000, 1023, 1024, 4095, 4096, 1 << 15, 1<<16 + 1, 1<<20 - 64} {
		hold(t, bytesOf(r), textOf(r, length))
	}
}

// P7.1: the halves of a signature are those of which the chapter speaks.
func TestHalves(t *testing.T) {
	r := rand.New(rand.NewSource(5))
	for _, seed := range seeds(r, 20) {
		text := textOf(r, 50)
		public, sig := sign.Public(seed), sign.Sign(seed, text)
		if public != curve.Base(raw(secret(seed))) {
			t.Errorf("seed %x: public key %x", seed, public)
		}
		h := sha512.Sum512(seed[:])
		h = sha512.Sum512(slices.Concat(h[32:], text))
		once := new(big.Int).Mod(number(h[:]), orders(1, 0))
		point := curve.Base(raw(once))
		if want := together(point, answer(binding(point, public, text), secret(seed), once)); sig != want {
			t.Errorf("seed %x: %x, want %x", seed, sig, want)
		}
		if !scalar.Check([32]byte(sig[32:])) || !curve.Check([32]byte(sig[:32])) {
			t.Errorf("seed %x: %x is not right", seed, sig)
		}
		if sign.Verify(public, text, together([32]byte(sig[32:]), [32]byte(sig[:32]))) {
			t.Errorf("seed %x: verified with its halves in the other order", seed)
		}
	}
}

// P7.1: with any one bit of the text, the key or the signature turned about, nothing is verified.
func TestTurned(t *testing.T) {
	r := rand.New(rand.NewSource(6))
	seed, text := bytesOf(r), textOf(r, 40)
	public, sig := sign.Public(seed), sign.Sign(seed, text)
	turn := func(name string, part []byte) {
		for i := range 8 * len(part) {
			part[i/8] ^= 1 << (i % 8)
			if sign.Verify(public, text, sig) {
				t.Errorf("bit %d of the %s turned about", i, name)
			}
			part[i/8] ^= 1 << (i % 8)
		}
	}
	turn("text", text)
	turn("key", public[:])
	turn("signature's first half", sig[:32])
	turn("signature's second half", sig[32:])
	if !sign.Verify(public, text, sig) {
		t.Error("not verified, with every bit turned back")
	}
}

// P7.1: a signature is of its text alone, not of a longer or shorter one.
func TestOtherTexts(t *testing.T) {
	r := rand.New(rand.NewSource(7))
	seed := bytesOf(r)
	public := sign.Public(seed)
	for _, length := range []int{1, 63, 64, 65, 96, 127, 128, 129, 5000} {
		text := textOf(r, length)
		sig := sign.Sign(seed, text)
		for _, not := range [][]byte{
			nil, text[1:], text[:length-1], append(slices.Clone(text), 0), append([]byte{0}, text...), slices.Concat(text, text),
		} {
			if sign.Verify(public, not, sig) {
				t.Errorf("%d bytes: verified for %d others", length, len(not))
			}
		}
	}
	if sig := sign.Sign(seed, nil); sign.Verify(public, []byte{0}, sig) || sign.Verify(public, make([]byte, 128), sig) {
		t.Error("the signature of no byte verified for noughts")
	}
}

// P7.1: a signature is verified with its own seed's key alone.
func TestOtherSeeds(t *testing.T) {
	r := rand.New(rand.NewSource(8))
	all, text := seeds(r, 4), textOf(r, 30)
	for i, a := range all {
		sig := sign.Sign(a, text)
		for k, b := range all {
			if got := sign.Verify(sign.Public(b), text, sig); got != (i == k) {
				t.Errorf("seeds %x and %x: %v", a, b, got)
			}
		}
		neg, _ := curve.Neg(sign.Public(a))
		if sign.Verify(neg, text, sig) {
			t.Errorf("seed %x: verified with the other side of its key", a)
		}
	}
}

// P7.1: bytes that are no point's are no key and no first half.
func TestWrongPoints(t *testing.T) {
	r := rand.New(rand.NewSource(9))
	seed, text := bytesOf(r), textOf(r, 20)
	public, sig := sign.Public(seed), sign.Sign(seed, text)
	point, s := [32]byte(sig[:32]), [32]byte(sig[32:])
	for _, a := range wrong() {
		for _, s := range [][32]byte{s, small(0), small(1)} {
			if sign.Verify(a, text, together(point, s)) || sign.Verify(a, text, together(small(1), s)) {
				t.Errorf("verified with the key %x", a)
			}
			if sign.Verify(public, text, together(a, s)) || sign.Verify(small(1), text, together(a, s)) {
				t.Errorf("verified with the first half %x", a)
			}
			if sign.Verify(a, text, together(a, s)) {
				t.Errorf("verified with both %x", a)
			}
		}
	}
}

// P7.1: with a key that is no point's, no point of small order stands in for what it would count for.
func TestNothingStandsIn(t *testing.T) {
	s := bytesOf(rand.New(rand.NewSource(18)))
	s[31] = 0 // below L
	for _, part := range few(t) {
		sig := together(add(t, curve.Base(s), part), s)
		for _, a := range wrong() {
			if sign.Verify(a, []byte("text"), sig) {
				t.Errorf("verified with the key %x, signature %x", a, sig)
			}
		}
	}
}

// P7.1: a key that is not right is refused where nothing else is wrong, and taken where it is written right.
func TestWrongKey(t *testing.T) {
	r := number([]byte("any number will do"))
	point := curve.Base(raw(r))
	sig := together(point, raw(r))
	for _, d := range doubles() {
		// k is divided by the key's order, so the key counts for nothing.
		if text := textFor(point, d.wrong, 0); sign.Verify(d.wrong, text, sig) {
			t.Errorf("verified with the key %x", d.wrong)
		}
		if text := textFor(point, d.right, 0); !sign.Verify(d.right, text, sig) {
			t.Errorf("not verified with the key %x", d.right)
		}
	}
}

// P7.1: so is a first half.
func TestWrongFirstHalf(t *testing.T) {
	seed := bytesOf(rand.New(rand.NewSource(10)))
	all := few(t)
	public := add(t, sign.Public(seed), all[1])
	for _, d := range doubles() {
		place := slices.Index(all[:], d.right)
		if place < 0 {
			t.Fatalf("%x is not of small order", d.right)
		}
		for _, point := range [][32]byte{d.wrong, d.right} {
			// k times the key has just what takes the first half away.
			text := textFor(point, public, int64((8-place)%8))
			sig := together(point, answer(binding(point, public, text), secret(seed), new(big.Int)))
			if got := sign.Verify(public, text, sig); got != (point == d.right) {
				t.Errorf("the first half %x: %v", point, got)
			}
		}
	}
}

// P7.1: keys and first halves with a part of small order, or nothing else, are verified just where the sum is the same: k is what is left modulo L, and nothing is multiplied by 8.
func TestSmallOrder(t *testing.T) {
	r := rand.New(rand.NewSource(11))
	all := few(t)
	for i, keyPart := range all {
		for k, pointPart := range all {
			seed, once := bytesOf(r), new(big.Int).Mod(number(textOf(r, 32)), orders(1, 0))
			text := textOf(r, 10)
			right := func(point, public [32]byte) bool {
				n := new(big.Int).Mul(binding(point, public, text), big.NewInt(int64(i)))
				return n.Add(n, big.NewInt(int64(k))).And(n, big.NewInt(7)).Sign() == 0
			}
			if got := sign.Verify(keyPart, text, together(pointPart, small(0))); got != right(pointPart, keyPart) {
				t.Errorf("key %x, first half %x: %v", keyPart, pointPart, got)
			}
			public, point := add(t, sign.Public(seed), keyPart), add(t, curve.Base(raw(once)), pointPart)
			sig := together(point, answer(binding(point, public, text), secret(seed), once))
			if got := sign.Verify(public, text, sig); got != right(point, public) || got != verified(public, text, sig) {
				t.Errorf("key %x, signature %x: %v", public, sig, got)
			}
			text = textFor(point, public, 0)
			sig = together(point, answer(binding(point, public, text), secret(seed), once))
			if got := sign.Verify(public, text, sig); got != (k == 0) {
				t.Errorf("key %x, signature %x: %v", public, sig, got)
			}
		}
	}
}

// P7.1: S may be any number below L, and none from L on, though the point is the same.
func TestS(t *testing.T) {
	key := small(1) // nought: it counts for nothing, whatever k is
	for _, n := range []*big.Int{
		big.NewInt(0), big.NewInt(1), big.NewInt(2), near(128, 0), near(252, -1), near(252, 0), orders(1, -2), orders(1, -1),
	} {
		if !sign.Verify(key, []byte("text"), together(curve.Base(raw(n)), raw(n))) {
			t.Errorf("S of %x is not verified", n)
		}
	}
	all := []*big.Int{near(253, 0), near(254, 0), near(255, -1), near(255, 0), near(256, -1)}
	for count := int64(1); count <= 15; count++ {
		all = append(all, orders(count, 0), orders(count, 1), orders(count+1, -1))
	}
	for _, n := range all {
		if n.BitLen() > 256 {
			continue
		}
		if sign.Verify(key, []byte("text"), together(curve.Base(raw(n)), raw(n))) {
			t.Errorf("S of %x is verified", n)
		}
	}
}

// P7.2: S with L added, once or more often, is not verified.
func TestMoreThanS(t *testing.T) {
	r := rand.New(rand.NewSource(12))
	for _, seed := range seeds(r, 6) {
		text := textOf(r, r.Intn(60))
		public, sig := sign.Public(seed), sign.Sign(seed, text)
		if !sign.Verify(public, text, sig) {
			t.Errorf("seed %x: not verified", seed)
		}
		for count := int64(1); count <= 15; count++ {
			n := orders(count, 0)
			n.Add(n, number(sig[32:]))
			if n.BitLen() <= 256 && sign.Verify(public, text, together([32]byte(sig[:32]), raw(n))) {
				t.Errorf("seed %x: verified with L added %d times", seed, count)
			}
		}
	}
}

// P7.1, R3: the same text is signed alike, whatever was asked ahead of it; no byte is as nil.
func TestAlike(t *testing.T) {
	r := rand.New(rand.NewSource(13))
	seed, text := bytesOf(r), textOf(r, 70)
	public, sig := sign.Public(seed), sign.Sign(seed, text)
	for _, another := range seeds(r, 5) {
		sign.Verify(sign.Public(another), text, sign.Sign(another, text[:9]))
		if sign.Public(seed) != public || sign.Sign(seed, slices.Clone(text)) != sig || !sign.Verify(public, slices.Clone(text), sig) {
			t.Error("not alike")
		}
	}
	if sign.Sign(seed, nil) != sign.Sign(seed, []byte{}) || !sign.Verify(public, nil, sign.Sign(seed, []byte{})) {
		t.Error("nil and no byte are not alike")
	}
}

// R2, R6: the text and what lies behind it stay as they were, and what lies behind it isn't read.
func TestTextStays(t *testing.T) {
	r := rand.New(rand.NewSource(14))
	seed := bytesOf(r)
	public := sign.Public(seed)
	for _, length := range []int{0, 1, 31, 64, 100, 128, 500} {
		room := textOf(r, length+300)
		before := slices.Clone(room)
		sig := sign.Sign(seed, room[:length])
		if !sign.Verify(public, room[:length], sig) || !bytes.Equal(room, before) {
			t.Errorf("%d bytes: not verified, or changed", length)
		}
		clear(room[length:])
		if sign.Sign(seed, room[:length]) != sig || !sign.Verify(public, room[:length], sig) {
			t.Errorf("%d bytes: what is behind them counts", length)
		}
	}
}

// P7.1, P7.2: any seed and text, and any key and signature.
func FuzzSign(f *testing.F) {
	for _, v := range vectors {
		f.Add(digits(f, v.seed), digits(f, v.text), digits(f, v.public), digits(f, v.sig))
	}
	for _, a := range append(wrong(), small(0), small(1)) {
		f.Add(a[:], []byte("text"), a[:], append(a[:], make([]byte, 32)...))
	}
	f.Fuzz(func(t *testing.T, first, text, second, third []byte) {
		var seed, public [32]byte
		var sig [64]byte
		copy(seed[:], first)
		copy(public[:], second)
		copy(sig[:], third)
		hold(t, seed, text)
		if sign.Verify(public, text, sig) != verified(public, text, sig) {
			t.Errorf("key %x, text %x, signature %x", public, text, sig)
		}
		own := sign.Public(seed)
		if sign.Verify(own, text, sig) != verified(own, text, sig) {
			t.Errorf("key %x, text %x, signature %x", own, text, sig)
		}
	})
}

func BenchmarkPublic(b *testing.B) {
	seed := bytesOf(rand.New(rand.NewSource(15)))
	for b.Loop() {
		sign.Public(seed)
	}
}

func BenchmarkSign(b *testing.B) {
	seed, text := bytesOf(rand.New(rand.NewSource(16))), make([]byte, 200)
	for b.Loop() {
		sign.Sign(seed, text)
	}
}

func BenchmarkVerify(b *testing.B) {
	seed, text := bytesOf(rand.New(rand.NewSource(17))), make([]byte, 200)
	public, sig := sign.Public(seed), sign.Sign(seed, text)
	for b.Loop() {
		sign.Verify(public, text, sig)
	}
}
