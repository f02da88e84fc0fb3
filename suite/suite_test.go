package suite_test

import (
	"bytes"
	"crypto/ed25519"
	"crypto/sha256"
	"encoding/hex"
	"math"
	"math/rand"
	"slices"
	"testing"

	"codicil/api"
	"codicil/sha"
	"codicil/sign"
	"codicil/suite"
)

// kinds is all that there are.
var kinds = []int{api.SuiteReal, api.SuiteOpen}

// wrongKinds is numbers that are none: about those that are, with bits of theirs, and the greatest and least.
func wrongKinds() []int {
	all := []int{
		0, -1, -2, -3, 3, 4, 5, 255, 256,
		api.SuiteReal + 1<<8, api.SuiteOpen + 1<<8, api.SuiteReal + 1<<32, api.SuiteOpen + 1<<32,
		math.MaxInt, math.MinInt, math.MinInt + api.SuiteReal, math.MinInt + api.SuiteOpen, math.MaxInt32, math.MinInt32,
	}
	for power := 2; power < 63; power++ {
		all = append(all, 1<<power, -1<<power, ^(1 << power))
	}
	return all
}

// bytesOf is any 32 bytes.
func bytesOf(r *rand.Rand) [32]byte {
	var a [32]byte
	r.Read(a[:])
	return a
}

// textOf is any text of so many bytes.
func textOf(r *rand.Rand, length int) []byte {
	text := make([]byte, length)
	r.Read(text)
	return text
}

// full is 32 bytes of ones.
func full() [32]byte { return [32]byte(bytes.Repeat([]byte{0xff}, 32)) }

// seeds is those at the edges, and some others.
func seeds(r *rand.Rand, others int) [][32]byte {
	all := [][32]byte{{}, {1}, {31: 1}, full()}
	for range others {
		all = append(all, bytesOf(r))
	}
	return all
}

// lengths is those of texts: none, few and many bytes, and those about the ends of layer 1's blocks, with a byte and a key ahead of the text and without.
func lengths() []int {
	all := []int{0, 1, 2, 3, 10, 300, 1000, 4095, 4096, 4097, 1 << 15}
	for _, end := range []int{64, 128, 192, 256} {
		for _, ahead := range []int{0, 33, 33 + 9, 9} {
			all = append(all, end-ahead-1, end-ahead, end-ahead+1)
		}
	}
	return all
}

// openPublic is SuiteOpen's public key, by another one's SHA-256.
func openPublic(seed [32]byte) [32]byte {
	return sha256.Sum256(slices.Concat([]byte{1}, seed[:]))
}

// openSig is SuiteOpen's signature, by another one's SHA-256.
func openSig(public [32]byte, text []byte) [64]byte {
	first := sha256.Sum256(slices.Concat([]byte{2}, public[:], text))
	second := sha256.Sum256(slices.Concat([]byte{3}, public[:], text))
	return [64]byte(slices.Concat(first[:], second[:]))
}

// signed is a seed's public key and its signature of a text, of a kind that there is.
func signed(t testing.TB, kind int, seed [32]byte, text []byte) (public [32]byte, sig [64]byte) {
	t.Helper()
	public, e := suite.Public(kind, seed)
	if e != api.OK {
		t.Errorf("kind %d, seed %x: public key: %v", kind, seed, e)
	}
	sig, e = suite.Sign(kind, seed, text)
	if e != api.OK {
		t.Errorf("kind %d, seed %x: signature: %v", kind, seed, e)
	}
	return public, sig
}

// hold asks all that is promised of a seed and a text.
func hold(t testing.TB, seed [32]byte, text []byte) {
	t.Helper()
	holdReal(t, seed, text)
	holdOpen(t, seed, text)
}

// holdReal asks that SuiteReal tells what layer 7 and another one's Ed25519 tell.
func holdReal(t testing.TB, seed [32]byte, text []byte) {
	t.Helper()
	public, sig := signed(t, api.SuiteReal, seed, text)
	key := ed25519.NewKeyFromSeed(seed[:])
	if public != sign.Public(seed) || !bytes.Equal(public[:], key[32:]) {
		t.Errorf("seed %x: public key %x", seed, public)
	}
	if sig != sign.Sign(seed, text) || !bytes.Equal(sig[:], ed25519.Sign(key, text)) {
		t.Errorf("seed %x, %d bytes: signature %x", seed, len(text), sig)
	}
	if !suite.Verify(api.SuiteReal, public, text, sig) {
		t.Errorf("seed %x, %d bytes: not verified", seed, len(text))
	}
}

// holdOpen asks that SuiteOpen tells the sums of the bytes that the chapter names, by layer 1 and by another one.
func holdOpen(t testing.TB, seed [32]byte, text []byte) {
	t.Helper()
	public, sig := signed(t, api.SuiteOpen, seed, text)
	if public != sha.Sum(slices.Concat([]byte{1}, seed[:])) || public != openPublic(seed) {
		t.Errorf("seed %x: open public key %x", seed, public)
	}
	if [32]byte(sig[:32]) != sha.Sum(slices.Concat([]byte{2}, public[:], text)) {
		t.Errorf("seed %x, %d bytes: open signature's first half %x", seed, len(text), sig[:32])
	}
	if [32]byte(sig[32:]) != sha.Sum(slices.Concat([]byte{3}, public[:], text)) {
		t.Errorf("seed %x, %d bytes: open signature's second half %x", seed, len(text), sig[32:])
	}
	if sig != openSig(public, text) {
		t.Errorf("seed %x, %d bytes: open signature %x", seed, len(text), sig)
	}
	if !suite.Verify(api.SuiteOpen, public, text, sig) {
		t.Errorf("seed %x, %d bytes: open signature not verified", seed, len(text))
	}
}

// P8.1, P8.2: ordinary seeds, and those of all noughts and all ones.
func TestSeeds(t *testing.T) {
	r := rand.New(rand.NewSource(1))
	for _, seed := range seeds(r, 60) {
		hold(t, seed, textOf(r, r.Intn(200)))
	}
}

// P8.1, P8.2: no byte, as nil and as an empty list, one byte, many, and about the ends of blocks.
func TestLengths(t *testing.T) {
	r := rand.New(rand.NewSource(2))
	seed := bytesOf(r)
	hold(t, seed, nil)
	for _, length := range lengths() {
		hold(t, seed, textOf(r, length))
	}
}

// P8.1, P8.2: each text of one byte.
func TestOneByte(t *testing.T) {
	seed := bytesOf(rand.New(rand.NewSource(3)))
	for c := range 256 {
		hold(t, seed, []byte{byte(c)})
	}
}

// P8.1, P8.2: SuiteOpen at each length up to some hundreds.
func TestOpenLengths(t *testing.T) {
	r := rand.New(rand.NewSource(4))
	seed := bytesOf(r)
	for length := range 500 {
		holdOpen(t, seed, textOf(r, length))
	}
}

// P8.1: what others publish of Ed25519.
func TestRealKnown(t *testing.T) {
	for _, c := range []struct{ seed, public, text, sig string }{
		{
			"9d61b19deffd5a60ba844af492ec2cc44449c5697b326919703bac031cae7f60",
			"d75a980182b10ab7d54bfed3c964073a0ee172f3daa62325af021a68f707511a",
			"",
			"e5564300c360ac729086e2cc806e828a84877f1eb8e5d974d873e065224901555fb8821590a33bacc61e39701cf9b46bd25bf5f0595bbe24655141438e7a100b",
		},
		{
			"4ccd089b28ff96da9db6c346ec114e0f5b8a319f35aba624da8cf6ed4fb8a6fb",
			"3d4017c3e843895a92b70aa74d1b7ebc9c982ccf2ec4968cc0cd55f12af4660c",
			"72",
			"92a009a9f0d4cab8720e820b5f642540a2b27b5416503f8fb3762223ebdb69da085ac1e43e15996e458f3613d0f11d8c387b2eaeb4302aeeb00d291612bb0c00",
		},
	} {
		seed, _ := hex.DecodeString(c.seed)
		text, _ := hex.DecodeString(c.text)
		public, sig := signed(t, api.SuiteReal, [32]byte(seed), text)
		if hex.EncodeToString(public[:]) != c.public || hex.EncodeToString(sig[:]) != c.sig {
			t.Errorf("seed %s: %x, %x", c.seed, public, sig)
		}
	}
}

// P8.1: a number that is no kind has no key and no signature, and nothing is verified of it, whatever kind it would be of.
func TestWrongKinds(t *testing.T) {
	r := rand.New(rand.NewSource(5))
	text := textOf(r, 20)
	for _, kind := range wrongKinds() {
		for _, seed := range seeds(r, 1) {
			for _, text := range [][]byte{nil, {}, {0}, text} {
				if public, e := suite.Public(kind, seed); public != [32]byte{} || e != api.ErrArg {
					t.Errorf("kind %d, seed %x: public key %x, %v", kind, seed, public, e)
				}
				if sig, e := suite.Sign(kind, seed, text); sig != [64]byte{} || e != api.ErrArg {
					t.Errorf("kind %d, seed %x: signature %x, %v", kind, seed, sig, e)
				}
			}
		}
	}
}

// P8.1: of a number that is no kind nothing is verified: no right signature of another kind, none of noughts.
func TestWrongKindsVerifyNothing(t *testing.T) {
	r := rand.New(rand.NewSource(6))
	seed, text := bytesOf(r), textOf(r, 20)
	nought := [64]byte{1} // Ed25519 verifies it with the key {1}, whatever the text
	if !suite.Verify(api.SuiteReal, [32]byte{1}, text, nought) {
		t.Error("nought is not verified")
	}
	for _, kind := range wrongKinds() {
		for _, of := range kinds {
			public, sig := signed(t, of, seed, text)
			if suite.Verify(kind, public, text, sig) || suite.Verify(kind, public, text, [64]byte{}) {
				t.Errorf("kind %d: verified, with a key of kind %d", kind, of)
			}
		}
		if suite.Verify(kind, [32]byte{1}, text, nought) || suite.Verify(kind, [32]byte{}, nil, [64]byte{}) {
			t.Errorf("kind %d: noughts are verified", kind)
		}
		if suite.Verify(kind, [32]byte{}, text, openSig([32]byte{}, text)) {
			t.Errorf("kind %d: verified, with a key of noughts", kind)
		}
	}
}

// P8.1: with any one bit of the text, the key or the signature turned about, nothing is verified, of either kind.
func TestTurned(t *testing.T) {
	r := rand.New(rand.NewSource(7))
	for _, kind := range kinds {
		seed, text := bytesOf(r), textOf(r, 80)
		public, sig := signed(t, kind, seed, text)
		turn := func(name string, part []byte) {
			for i := range 8 * len(part) {
				part[i/8] ^= 1 << (i % 8)
				if suite.Verify(kind, public, text, sig) {
					t.Errorf("kind %d: bit %d of the %s turned about", kind, i, name)
				}
				part[i/8] ^= 1 << (i % 8)
			}
		}
		turn("text", text)
		turn("key", public[:])
		turn("signature's first half", sig[:32])
		turn("signature's second half", sig[32:])
		if !suite.Verify(kind, public, text, sig) {
			t.Errorf("kind %d: not verified, with every bit turned back", kind)
		}
	}
}

// P8.1: both of a signature's halves are asked for, each at its own place.
func TestHalves(t *testing.T) {
	r := rand.New(rand.NewSource(8))
	for _, kind := range kinds {
		seed, text := bytesOf(r), textOf(r, 50)
		public, sig := signed(t, kind, seed, text)
		_, another := signed(t, kind, seed, text[1:])
		for i, wrong := range [][]byte{
			slices.Concat(sig[32:], sig[:32]), slices.Concat(sig[:32], sig[:32]), slices.Concat(sig[32:], sig[32:]),
			slices.Concat(sig[:32], another[32:]), slices.Concat(another[:32], sig[32:]), another[:],
			slices.Concat(sig[:32], make([]byte, 32)), slices.Concat(make([]byte, 32), sig[32:]), make([]byte, 64),
		} {
			if suite.Verify(kind, public, text, [64]byte(wrong)) {
				t.Errorf("kind %d: wrong halves %d are verified", kind, i)
			}
		}
	}
}

// P8.1: a signature is of its text alone, not of a longer or shorter one.
func TestOtherTexts(t *testing.T) {
	r := rand.New(rand.NewSource(9))
	for _, kind := range kinds {
		for _, length := range []int{1, 31, 63, 64, 65, 500} {
			seed, text := bytesOf(r), textOf(r, length)
			public, sig := signed(t, kind, seed, text)
			for _, not := range [][]byte{
				nil, text[1:], text[:length-1], append(slices.Clone(text), 0), append([]byte{0}, text...), slices.Concat(text, text),
			} {
				if suite.Verify(kind, public, not, sig) {
					t.Errorf("kind %d, %d bytes: verified for %d others", kind, length, len(not))
				}
			}
		}
	}
}

// P8.1: a signature is verified with its own seed's key alone, and a seed is no key.
func TestOtherSeeds(t *testing.T) {
	r := rand.New(rand.NewSource(10))
	all, text := seeds(r, 3), textOf(r, 30)
	for _, kind := range kinds {
		for i, a := range all {
			_, sig := signed(t, kind, a, text)
			for k, b := range all {
				public, _ := signed(t, kind, b, text)
				if got := suite.Verify(kind, public, text, sig); got != (i == k) {
					t.Errorf("kind %d, seeds %x and %x: %v", kind, a, b, got)
				}
			}
			if suite.Verify(kind, a, text, sig) {
				t.Errorf("kind %d, seed %x: verified with the seed as the key", kind, a)
			}
		}
	}
}

// P8.1: no key and no signature of one kind does for the other.
func TestOtherKind(t *testing.T) {
	r := rand.New(rand.NewSource(11))
	for _, seed := range seeds(r, 10) {
		text := textOf(r, r.Intn(100))
		realKey, realSig := signed(t, api.SuiteReal, seed, text)
		openKey, open := signed(t, api.SuiteOpen, seed, text)
		if realKey == openKey || realSig == open {
			t.Errorf("seed %x: both kinds tell the same", seed)
		}
		for _, public := range [][32]byte{realKey, openKey} {
			if suite.Verify(api.SuiteReal, public, text, open) || suite.Verify(api.SuiteOpen, public, text, realSig) {
				t.Errorf("seed %x: verified with a signature of the other kind, key %x", seed, public)
			}
		}
		if suite.Verify(api.SuiteReal, openKey, text, realSig) || suite.Verify(api.SuiteOpen, realKey, text, open) {
			t.Errorf("seed %x: verified with a key of the other kind", seed)
		}
	}
}

// P8.1: any 32 bytes are a public key of SuiteOpen, and anybody may make its signatures.
func TestOpenToAnybody(t *testing.T) {
	r := rand.New(rand.NewSource(12))
	for _, public := range append(seeds(r, 20), [32]byte{2}, [32]byte{31: 0x80}) {
		text := textOf(r, r.Intn(100))
		sig := openSig(public, text)
		if !suite.Verify(api.SuiteOpen, public, text, sig) {
			t.Errorf("key %x: not verified", public)
		}
		sig[r.Intn(64)]++
		if suite.Verify(api.SuiteOpen, public, text, sig) {
			t.Errorf("key %x: verified", public)
		}
	}
}

// P8.1: SuiteReal verifies just what layer 7 verifies, also what nobody signed and what no point's bytes are.
func TestRealAsLayer7(t *testing.T) {
	r := rand.New(rand.NewSource(13))
	var order [32]byte
	copy(order[:], []byte{0xed, 0xd3, 0xf5, 0x5c, 0x1a, 0x63, 0x12, 0x58, 0xd6, 0x9c, 0xf7, 0xa2, 0xde, 0xf9, 0xde, 0x14})
	order[31] = 0x10
	text := textOf(r, 10)
	taken := 0
	for _, public := range append(seeds(r, 3), [32]byte{2}, [32]byte{1, 31: 0x80}) {
		for _, point := range append(seeds(r, 3), [32]byte{2}, [32]byte{1, 31: 0x80}) {
			for _, s := range [][32]byte{{}, {1}, order, bytesOf(r), full()} {
				sig := [64]byte(slices.Concat(point[:], s[:]))
				got := suite.Verify(api.SuiteReal, public, text, sig)
				if got != sign.Verify(public, text, sig) {
					t.Errorf("key %x, signature %x: %v", public, sig, got)
				}
				if got {
					taken++
				}
			}
		}
	}
	if taken == 0 {
		t.Error("none of them is verified")
	}
}

// P8.1, R3: the same text is signed alike, whatever was asked ahead of it; no byte is as nil.
func TestAlike(t *testing.T) {
	r := rand.New(rand.NewSource(14))
	seed, text := bytesOf(r), textOf(r, 70)
	for _, kind := range kinds {
		public, sig := signed(t, kind, seed, text)
		for _, another := range seeds(r, 3) {
			for _, kind := range []int{0, api.SuiteReal, api.SuiteOpen, 3} {
				key, _ := suite.Public(kind, another)
				its, _ := suite.Sign(kind, another, text[:9])
				suite.Verify(kind, key, text, its)
			}
			key, its := signed(t, kind, seed, slices.Clone(text))
			if key != public || its != sig || !suite.Verify(kind, public, slices.Clone(text), sig) {
				t.Errorf("kind %d: not alike", kind)
			}
		}
		_, none := signed(t, kind, seed, nil)
		_, empty := signed(t, kind, seed, []byte{})
		if none != empty || !suite.Verify(kind, public, nil, empty) || !suite.Verify(kind, public, text[:0], none) {
			t.Errorf("kind %d: nil and no byte are not alike", kind)
		}
	}
}

// R2, R6: the text and what lies behind it stay as they were, and what lies behind it isn't read.
func TestTextStays(t *testing.T) {
	r := rand.New(rand.NewSource(15))
	seed := bytesOf(r)
	for _, kind := range []int{api.SuiteReal, api.SuiteOpen, 0, 3} {
		public, _ := suite.Public(kind, seed)
		for _, length := range []int{0, 1, 31, 64, 100, 128, 500} {
			room := textOf(r, length+300)
			before := slices.Clone(room)
			sig, _ := suite.Sign(kind, seed, room[:length])
			right := kind == api.SuiteReal || kind == api.SuiteOpen
			if suite.Verify(kind, public, room[:length], sig) != right || !bytes.Equal(room, before) {
				t.Errorf("kind %d, %d bytes: not verified, or changed", kind, length)
			}
			clear(room[length:])
			again, _ := suite.Sign(kind, seed, room[:length])
			if again != sig || suite.Verify(kind, public, room[:length], sig) != right {
				t.Errorf("kind %d, %d bytes: what is behind them counts", kind, length)
			}
		}
	}
}

// P8.1, P8.2: any kind, seed, text, key and signature.
func FuzzSuite(f *testing.F) {
	f.Add(api.SuiteReal, []byte{1}, []byte("text"), []byte{1}, []byte{1})
	f.Add(api.SuiteOpen, []byte{2}, []byte(""), []byte{}, []byte{})
	f.Add(0, []byte{}, []byte("text"), []byte{1}, []byte{1})
	f.Fuzz(func(t *testing.T, kind int, first, text, second, third []byte) {
		var seed, public [32]byte
		var sig [64]byte
		copy(seed[:], first)
		copy(public[:], second)
		copy(sig[:], third)
		hold(t, seed, text)
		want := false
		switch kind {
		case api.SuiteReal:
			want = sign.Verify(public, text, sig)
		case api.SuiteOpen:
			want = sig == openSig(public, text)
		}
		if got := suite.Verify(kind, public, text, sig); got != want {
			t.Errorf("kind %d, key %x, signature %x: %v", kind, public, sig, got)
		}
	})
}
