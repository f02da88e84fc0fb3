package cbor_test

import (
	"bytes"
	"encoding/binary"
	"fmt"
	"math"
	"math/rand"
	"slices"
	"strings"
	"testing"

	"codicil/api"
	"codicil/cbor"
)

func row(l ...api.Tok) []api.Tok { return l }

func num(n int) api.Tok     { return api.Tok{Kind: api.TokInt, N: n} }
func neg(n int) api.Tok     { return api.Tok{Kind: api.TokNeg, N: n} }
func str(s string) api.Tok  { return api.Tok{Kind: api.TokBytes, B: []byte(s)} }
func text(s string) api.Tok { return api.Tok{Kind: api.TokText, B: []byte(s)} }
func list(n int) api.Tok    { return api.Tok{Kind: api.TokArray, N: n} }
func pairs(n int) api.Tok   { return api.Tok{Kind: api.TokMap, N: n} }

// xs is a string of so many bytes.
func xs(n int) string { return strings.Repeat("x", n) }

// times is a row so many times, one behind the other.
func times(n int, l ...api.Tok) []api.Tok { return slices.Repeat(l, n) }

// join is rows, one behind the other.
func join(l ...[]api.Tok) []api.Tok { return slices.Concat(l...) }

// wordedHead is a head as layer 9's chapter words it.
func wordedHead(major, n int) []byte {
	first := byte(major * 32)
	switch u := uint64(n); {
	case n < 24:
		return []byte{first + byte(n)}
	case n < 256:
		return []byte{first + 24, byte(n)}
	case n < 65536:
		return binary.BigEndian.AppendUint16([]byte{first + 25}, uint16(u))
	case n < 4294967296:
		return binary.BigEndian.AppendUint32([]byte{first + 26}, uint32(u))
	default:
		return binary.BigEndian.AppendUint64([]byte{first + 27}, u)
	}
}

// longHead is a head in the form of so many bytes behind the first one, whether it needs them or not.
func longHead(major, n, behind int) []byte {
	low := map[int]byte{1: 24, 2: 25, 4: 26, 8: 27}[behind]
	return append([]byte{byte(major*32) + low}, binary.BigEndian.AppendUint64(nil, uint64(n))[8-behind:]...)
}

// wordedUtf8 tells of bytes whether they are UTF-8, by taking each code point apart.
func wordedUtf8(b []byte) bool {
	for len(b) > 0 {
		length, point := 0, 0
		switch c := int(b[0]); {
		case c < 0x80:
			length, point = 1, c
		case c >= 0xc0 && c < 0xe0:
			length, point = 2, c-0xc0
		case c >= 0xe0 && c < 0xf0:
			length, point = 3, c-0xe0
		case c >= 0xf0 && c < 0xf8:
			length, point = 4, c-0xf0
		}
		if length == 0 || len(b) < length {
			return false
		}
		for _, c := range b[1:length] {
			if c < 0x80 || c >= 0xc0 {
				return false
			}
			point = point*64 + int(c-0x80)
		}
		if length != formOf(point) || point > 0x10ffff || point >= 0xd800 && point <= 0xdfff {
			return false
		}
		b = b[length:]
	}
	return true
}

// formOf is how many bytes a code point's shortest form has.
func formOf(point int) int {
	switch {
	case point < 0x80:
		return 1
	case point < 0x800:
		return 2
	case point < 0x10000:
		return 3
	}
	return 4
}

// longPoint is a code point in the form of so many bytes, from 1 to 6, whether it may be or not.
func longPoint(point, length int) []byte {
	if length == 1 {
		return []byte{byte(point)}
	}
	b := make([]byte, length)
	for i := length - 1; i > 0; i-- {
		b[i] = 0x80 | byte(point&0x3f)
		point >>= 6
	}
	b[0] = byte(0xff<<(8-length)) | byte(point)
	return b
}

// thing is an item with the items that it holds.
type thing struct {
	tok  api.Tok
	held []thing
}

// thingOf is the item ahead in a row, and what is behind it; false if a token there is none, or the row is too short.
func thingOf(l []api.Tok) (one thing, rest []api.Tok, is bool) {
	if len(l) == 0 {
		return thing{}, nil, false
	}
	one.tok, rest = l[0], l[1:]
	holds := 0
	switch t := one.tok; t.Kind {
	case api.TokInt, api.TokNeg:
		is = t.N >= 0 && len(t.B) == 0
	case api.TokBytes:
		is = t.N == 0
	case api.TokText:
		is = t.N == 0 && wordedUtf8(t.B)
	case api.TokArray:
		is, holds = t.N >= 0 && t.N <= 64 && len(t.B) == 0, t.N
	case api.TokMap:
		is, holds = t.N >= 0 && t.N <= 64 && len(t.B) == 0, 2*t.N
	}
	for i := 0; is && i < holds; i++ {
		var inner thing
		inner, rest, is = thingOf(rest)
		one.held = append(one.held, inner)
	}
	return one, rest, is
}

// bytes is an item's bytes.
func (o thing) bytes() []byte {
	b := tokenBytes(o.tok)
	for _, inner := range o.held {
		b = append(b, inner.bytes()...)
	}
	return b
}

// tokenBytes is a token's bytes, without those of what it holds.
func tokenBytes(t api.Tok) []byte {
	switch t.Kind {
	case api.TokInt:
		return wordedHead(0, t.N)
	case api.TokNeg:
		return wordedHead(1, t.N)
	case api.TokBytes:
		return append(wordedHead(2, len(t.B)), t.B...)
	case api.TokText:
		return append(wordedHead(3, len(t.B)), t.B...)
	case api.TokArray:
		return wordedHead(4, t.N)
	case api.TokMap:
		return wordedHead(5, t.N)
	}
	panic("no such kind")
}

// depth is how deep an item goes: 0 if it is no array and no map.
func (o thing) depth() int {
	if o.tok.Kind != api.TokArray && o.tok.Kind != api.TokMap {
		return 0
	}
	most := 0
	for _, inner := range o.held {
		most = max(most, inner.depth())
	}
	return 1 + most
}

// sorted tells whether in each map the keys rise.
func (o thing) sorted() bool {
	for i, inner := range o.held {
		if !inner.sorted() {
			return false
		}
		if o.tok.Kind == api.TokMap && i%2 == 0 && i > 0 && bytes.Compare(o.held[i-2].bytes(), inner.bytes()) >= 0 {
			return false
		}
	}
	return true
}

// wordedRow is the bytes of a row, as the chapter words them; false unless it is a right one.
func wordedRow(l []api.Tok) ([]byte, bool) {
	one, rest, is := thingOf(l)
	if !is || len(rest) > 0 || len(l) > 600 || one.depth() > 6 || !one.sorted() {
		return nil, false
	}
	b := one.bytes()
	return b, len(b) <= 32768
}

// readTokens is the row of the item ahead in bytes, and what is behind it; heads may be in any form.
func readTokens(b []byte) (l []api.Tok, rest []byte, is bool) {
	if len(b) == 0 || b[0]%32 > 27 {
		return nil, nil, false
	}
	behind, told := 0, uint64(b[0]%32)
	if told >= 24 {
		behind = 1 << (told - 24)
		if len(b) < 1+behind {
			return nil, nil, false
		}
		told = binary.BigEndian.Uint64(append(make([]byte, 8-behind), b[1:1+behind]...))
	}
	if told > math.MaxInt64 {
		return nil, nil, false
	}
	n, rest := int(told), b[1+behind:]
	holds := 0
	switch b[0] / 32 {
	case 0:
		return row(num(n)), rest, true
	case 1:
		return row(neg(n)), rest, true
	case 2, 3:
		if n > len(rest) {
			return nil, nil, false
		}
		t := str(string(rest[:n]))
		if b[0]/32 == 3 {
			t.Kind = api.TokText
		}
		return row(t), rest[n:], true
	case 4:
		l, holds = row(list(n)), n
	case 5:
		if n > 64 {
			return nil, nil, false
		}
		l, holds = row(pairs(n)), 2*n
	default:
		return nil, nil, false
	}
	for range holds {
		var inner []api.Tok
		if inner, rest, is = readTokens(rest); !is {
			return nil, nil, false
		}
		l = append(l, inner...)
	}
	return l, rest, true
}

// wordedDecode is the right row that has these bytes, if there is one.
func wordedDecode(b []byte) ([]api.Tok, bool) {
	l, rest, is := readTokens(b)
	if !is || len(rest) > 0 {
		return nil, false
	}
	again, is := wordedRow(l)
	if !is || !bytes.Equal(again, b) {
		return nil, false
	}
	return l, true
}

// alike tells whether two rows are: nil and an empty list mean the same.
func alike(l, k []api.Tok) bool {
	return slices.EqualFunc(l, k, func(a, b api.Tok) bool {
		return a.Kind == b.Kind && a.N == b.N && bytes.Equal(a.B, b.B)
	})
}

// short is a beginning of a row or of bytes, to be told of.
func short(a any) string {
	s := fmt.Sprintf("%x", a)
	return s[:min(len(s), 200)]
}

// holdRight asks that a row is a right one with these bytes, and that these are its bytes.
func holdRight(t testing.TB, l []api.Tok, want []byte) {
	t.Helper()
	if e := cbor.Check(l); e != api.OK {
		t.Errorf("Check(%s): %v", short(l), e)
	}
	if b, e := cbor.Encode(l); !bytes.Equal(b, want) || e != api.OK {
		t.Errorf("Encode(%s) = %s, %v, want %s", short(l), short(b), e, short(want))
	}
	if got, e := cbor.Decode(want); !alike(got, l) || e != api.OK {
		t.Errorf("Decode(%s) = %s, %v, want %s", short(want), short(got), e, short(l))
	}
}

// holdWrong asks that a row is none.
func holdWrong(t testing.TB, l []api.Tok) {
	t.Helper()
	if e := cbor.Check(l); e != api.ErrArg {
		t.Errorf("Check(%s): %v", short(l), e)
	}
	if b, e := cbor.Encode(l); len(b) != 0 || e != api.ErrArg {
		t.Errorf("Encode(%s) = %s, %v", short(l), short(b), e)
	}
}

// holdNone asks that bytes are those of no right row.
func holdNone(t testing.TB, b []byte) {
	t.Helper()
	if l, e := cbor.Decode(b); len(l) != 0 || e != api.ErrBytes {
		t.Errorf("Decode(%s) = %s, %v", short(b), short(l), e)
	}
}

// holdOut asks that a row, whose tokens have bytes each, is no right one, and that these bytes are no right row's.
func holdOut(t testing.TB, l []api.Tok) {
	t.Helper()
	holdWrong(t, l)
	var b []byte
	for _, tok := range l {
		b = append(b, tokenBytes(tok)...)
	}
	holdNone(t, b)
}

// holdIn asks that a row is a right one with the bytes that the chapter words.
func holdIn(t testing.TB, l []api.Tok) {
	t.Helper()
	b, is := wordedRow(l)
	if !is {
		t.Errorf("%s is no right row", short(l))
	}
	holdRight(t, l, b)
}

// holdRow asks that a row is what the chapter words.
func holdRow(t testing.TB, l []api.Tok) {
	t.Helper()
	if b, is := wordedRow(l); is {
		holdRight(t, l, b)
	} else {
		holdWrong(t, l)
	}
}

// holdBytes asks that bytes are decoded as the chapter words it, and encoded as they were.
func holdBytes(t testing.TB, b []byte) {
	t.Helper()
	if l, is := wordedDecode(b); is {
		holdRight(t, l, b)
	} else {
		holdNone(t, b)
	}
}

// known is a row and its bytes.
type known struct {
	l    []api.Tok
	want string
}

// byHand is rows of each kind of token, and their bytes by hand; those that RFC 8949 shows in its Appendix A among them.
func byHand() []known {
	return []known{
		{row(num(0)), "\x00"},
		{row(num(1)), "\x01"},
		{row(num(23)), "\x17"},
		{row(num(24)), "\x18\x18"},
		{row(num(100)), "\x18\x64"},
		{row(num(255)), "\x18\xff"},
		{row(num(256)), "\x19\x01\x00"},
		{row(num(1000)), "\x19\x03\xe8"},
		{row(num(65535)), "\x19\xff\xff"},
		{row(num(65536)), "\x1a\x00\x01\x00\x00"},
		{row(num(1000000)), "\x1a\x00\x0f\x42\x40"},
		{row(num(1<<32 - 1)), "\x1a\xff\xff\xff\xff"},
		{row(num(1 << 32)), "\x1b\x00\x00\x00\x01\x00\x00\x00\x00"},
		{row(num(api.MaxNum)), "\x1b\x7f\xff\xff\xff\xff\xff\xff\xff"},
		{row(neg(0)), "\x20"},
		{row(neg(9)), "\x29"},
		{row(neg(23)), "\x37"},
		{row(neg(24)), "\x38\x18"},
		{row(neg(99)), "\x38\x63"},
		{row(neg(999)), "\x39\x03\xe7"},
		{row(neg(65536)), "\x3a\x00\x01\x00\x00"},
		{row(neg(1 << 32)), "\x3b\x00\x00\x00\x01\x00\x00\x00\x00"},
		{row(neg(api.MaxNum)), "\x3b\x7f\xff\xff\xff\xff\xff\xff\xff"},
		{row(str("")), "\x40"},
		{row(str("\x01\x02\x03\x04")), "\x44\x01\x02\x03\x04"},
		{row(str("\xff\x00\x80")), "\x43\xff\x00\x80"},
		{row(str(xs(23))), "\x57" + xs(23)},
		{row(str(xs(24))), "\x58\x18" + xs(24)},
		{row(str(xs(255))), "\x58\xff" + xs(255)},
		{row(str(xs(256))), "\x59\x01\x00" + xs(256)},
		{row(text("")), "\x60"},
		{row(text("a")), "\x61\x61"},
		{row(text("IETF")), "\x64IETF"},
		{row(text("\"\\")), "\x62\x22\x5c"},
		{row(text("\u00fc")), "\x62\xc3\xbc"},
		{row(text("\u6c34")), "\x63\xe6\xb0\xb4"},
		{row(text("\U00010151")), "\x64\xf0\x90\x85\x91"},
		{row(text("\x00")), "\x61\x00"},
		{row(text(xs(23))), "\x77" + xs(23)},
		{row(text(xs(24))), "\x78\x18" + xs(24)},
		{row(text(xs(256))), "\x79\x01\x00" + xs(256)},
		{row(list(0)), "\x80"},
		{row(list(3), num(1), num(2), num(3)), "\x83\x01\x02\x03"},
		{row(list(3), num(1), list(2), num(2), num(3), list(2), num(4), num(5)), "\x83\x01\x82\x02\x03\x82\x04\x05"},
		{join(row(list(23)), times(23, num(7))), "\x97" + strings.Repeat("\x07", 23)},
		{join(row(list(24)), times(24, num(7))), "\x98\x18" + strings.Repeat("\x07", 24)},
		{join(row(list(64)), times(64, num(7))), "\x98\x40" + strings.Repeat("\x07", 64)},
		{row(list(2), num(1), text("a")), "\x82\x01\x61\x61"},
		{row(list(2), num(7), num(7)), "\x82\x07\x07"},
		{row(list(2), num(8), num(7)), "\x82\x08\x07"},
		{row(pairs(0)), "\xa0"},
		{row(pairs(1), num(1), num(2)), "\xa1\x01\x02"},
		{row(pairs(2), num(1), num(2), num(3), num(4)), "\xa2\x01\x02\x03\x04"},
		{row(pairs(2), num(1), num(9), num(3), num(9)), "\xa2\x01\x09\x03\x09"},
		{row(pairs(2), num(1), num(3), num(3), num(1)), "\xa2\x01\x03\x03\x01"},
		{row(pairs(2), text("a"), num(1), text("b"), list(2), num(2), num(3)), "\xa2\x61a\x01\x61b\x82\x02\x03"},
		{row(list(2), text("a"), pairs(1), text("b"), text("c")), "\x82\x61a\xa1\x61b\x61c"},
		{row(pairs(1), pairs(1), num(1), num(2), list(0)), "\xa1\xa1\x01\x02\x80"},
		{row(list(6), num(0), neg(0), str("\x00"), text("\x00"), list(0), pairs(0)), "\x86\x00\x20\x41\x00\x61\x00\x80\xa0"},
	}
}

// P10.1: rows of each kind of token, and their bytes by hand.
func TestKnown(t *testing.T) {
	for _, c := range byHand() {
		holdRight(t, c.l, []byte(c.want))
		holdIn(t, c.l)
	}
}

// P10.1: bytes that are cut short at each place, or have others behind or ahead, are none.
func TestCutAndMore(t *testing.T) {
	for _, c := range byHand() {
		b := []byte(c.want)
		for cut := range b {
			holdNone(t, b[:cut])
		}
		for more := range 256 {
			holdNone(t, append(slices.Clone(b), byte(more)))
		}
		holdNone(t, slices.Concat(b, b))
		holdNone(t, slices.Concat([]byte{0}, b))
		holdNone(t, slices.Concat(b, b[:len(b)-1], b))
	}
}

// P10.1: heads in a longer form than they need are none, wherever they stand.
func TestLongHeads(t *testing.T) {
	for _, c := range byHand() {
		for _, behind := range []int{1, 2, 4, 8} {
			for at := range c.l {
				var b []byte
				for i, tok := range c.l {
					one := tokenBytes(tok)
					major, n := tok.Kind-api.TokInt, tok.N+len(tok.B)
					plain := wordedHead(major, n)
					if i == at && len(plain) >= 1+behind {
						b = nil
						break
					}
					if i == at {
						one = append(longHead(major, n, behind), one[len(plain):]...)
					}
					b = append(b, one...)
				}
				holdNone(t, b)
			}
		}
	}
}

// P10.1: no token is no row, no byte none, in whatever way there is none.
func TestNothing(t *testing.T) {
	holdWrong(t, nil)
	holdWrong(t, []api.Tok{})
	holdWrong(t, row(num(1), list(0))[:0])
	holdNone(t, nil)
	holdNone(t, []byte{})
	holdNone(t, []byte{1, 2}[:0])
}

// P10.1: one item too few or too many behind an array or a map, or behind none.
func TestTooFewTooMany(t *testing.T) {
	for n := range 65 {
		key := row()
		for i := range n {
			key = append(key, num(i), neg(i))
		}
		full := append(row(pairs(n)), key...)
		holdIn(t, full)
		holdOut(t, append(full, num(1000)))
		holdOut(t, append(full, num(1000), num(0)))
		if n > 0 {
			holdOut(t, full[:len(full)-1])
			holdOut(t, full[:len(full)-2])
		}
		if 2*n > 64 {
			continue
		}
		full = append(row(list(2*n)), key...)
		holdIn(t, full)
		holdOut(t, append(full, num(1000)))
		if n > 0 {
			holdOut(t, full[:len(full)-1])
		}
	}
	for _, l := range [][]api.Tok{
		row(num(1), num(1)), row(num(1), list(0)), row(neg(1), neg(1)), row(str("a"), str("")), row(text("a"), text("")), row(list(0), list(0)), row(list(0), pairs(0)), row(pairs(0), pairs(0)),
		row(list(1)), row(list(2), list(1), num(1)), row(list(2), list(0)), row(list(1), list(2), num(1)), row(list(2), pairs(1), num(1), num(1)), row(list(1), pairs(1), num(1)),
		row(pairs(1)), row(pairs(1), num(1)), row(pairs(1), list(1), num(1)), row(pairs(1), num(1), list(1)), row(pairs(1), list(0), list(0), list(0)), row(pairs(2), num(1), num(1), num(2)),
	} {
		holdOut(t, l)
	}
}

// numbers is those at the edges of an int.
func numbers() []int {
	return []int{0, 1, -1, 2, -2, 6, 23, 24, 63, 64, 65, 255, 256, 600, 1 << 15, 1 << 16, 1 << 32, 1<<32 + 1, 1 << 62, math.MaxInt, math.MaxInt - 1, math.MinInt, math.MinInt + 1, math.MinInt + 2, -1 << 32, -65, -64}
}

// P10.1: a Kind that there is not, alone and within an array and a map, whatever else the token has.
func TestWrongKinds(t *testing.T) {
	kinds := []int{0, -1, -2, 7, 8, 9, 31, 255, 256, math.MaxInt, math.MinInt}
	for right := api.TokInt; right <= api.TokMap; right++ {
		kinds = append(kinds, right+8, right+32, right+256, right+1<<32, right-8, right-256, right+math.MinInt, -right, ^right)
	}
	for _, kind := range kinds {
		for _, b := range [][]byte{nil, {}, {0}, []byte("a")} {
			for _, n := range []int{0, 1, -1, 2, math.MaxInt, math.MinInt} {
				wrong := api.Tok{Kind: kind, N: n, B: b}
				holdWrong(t, row(wrong))
				holdWrong(t, row(wrong, num(1)))
				holdWrong(t, row(wrong, num(1), num(1)))
				holdWrong(t, row(list(1), wrong))
				holdWrong(t, row(list(2), num(1), wrong))
				holdWrong(t, row(pairs(1), wrong, num(1)))
				holdWrong(t, row(pairs(1), num(1), wrong))
			}
		}
	}
}

// P10.1: an N below 0, and an N or bytes where the Kind names none; what it names may be any.
func TestWrongParts(t *testing.T) {
	for _, n := range numbers() {
		for _, b := range [][]byte{nil, {}, {0}, []byte("a"), []byte(xs(300))} {
			for kind := api.TokInt; kind <= api.TokMap; kind++ {
				l := row(api.Tok{Kind: kind, N: n, B: b})
				if kind == api.TokArray && n > 0 && n <= 64 {
					l = append(l, times(n, num(0))...)
				}
				for i := 0; kind == api.TokMap && i < n && i < 64; i++ {
					l = append(l, num(i), num(0))
				}
				right := len(b) == 0 && n >= 0
				switch kind {
				case api.TokBytes, api.TokText:
					right = n == 0
				case api.TokArray, api.TokMap:
					right = right && n <= 64
				}
				for _, l := range [][]api.Tok{l, append(row(list(1)), l...), append(row(pairs(1), num(0)), l...), join(row(pairs(1)), l, row(num(0)))} {
					if right {
						holdIn(t, l)
					} else {
						holdWrong(t, l)
					}
				}
			}
		}
	}
}

// P10.1: a text that is no UTF-8 is none, wherever it stands; as bytes it may be.
func TestWrongTexts(t *testing.T) {
	for _, s := range []string{"\xff", "\x80", "\xc3", "a\xc3", "\xc3\xa4\x80", "\xed\xa0\x80", "\xed\xbf\xbf", "\xf4\x90\x80\x80", "\xc0\x80", "\xc1\xbf", "\xe0\x9f\xbf", "\xf0\x8f\xbf\xbf", "\xe4\xb8", "\xf8\x88\x80\x80\x80", "\xfe", xs(16000) + "\xff", "\xff" + xs(16000)} {
		holdIn(t, row(str(s)))
		holdIn(t, row(pairs(1), str(s), str(s)))
		holdOut(t, row(text(s)))
		holdOut(t, row(list(2), text("a"), text(s)))
		holdOut(t, row(list(2), text(s), text("a")))
		holdOut(t, row(pairs(1), text(s), num(1)))
		holdOut(t, row(pairs(1), num(1), text(s)))
		holdOut(t, row(list(1), list(1), list(1), list(1), list(1), list(1), text(s)))
	}
	// A text that two tokens would make is none in either of them.
	holdIn(t, row(list(1), text("\u00e4")))
	holdOut(t, row(list(2), text("\xc3"), text("\xa4")))
}

// P10.1: as many items and pairs as may be, and one more, with what they hold and without.
func TestMaxCount(t *testing.T) {
	for _, n := range []int{62, 63, 64, 65, 66, 128, 255, 256, 300} {
		keys := row(pairs(n))
		for i := range n {
			keys = append(keys, num(i), num(0))
		}
		for _, l := range [][]api.Tok{append(row(list(n)), times(n, num(1))...), keys} {
			if len(l) > api.MaxToks {
				l = l[:api.MaxToks]
			}
			for _, ahead := range [][]api.Tok{nil, row(list(1)), row(list(1), list(1)), row(pairs(1), num(0))} {
				if all := join(ahead, l); n <= api.MaxCount {
					holdIn(t, all)
				} else {
					holdOut(t, all)
				}
			}
		}
	}
	for _, n := range []int{65, 66, 1 << 16, 1 << 31, 1 << 32, 1 << 61, 1 << 62, 1<<62 + 1, 1<<63 - 1} {
		for _, behind := range [][]api.Tok{nil, row(num(1)), row(num(1), num(1)), times(64, num(1)), times(599, num(1))} {
			holdOut(t, append(row(list(n)), behind...))
			holdOut(t, append(row(pairs(n)), behind...))
			holdOut(t, append(row(list(1), pairs(n)), behind...))
		}
	}
}

// around is what stands ahead of an item that an array or a map holds, and what behind it.
type around struct{ ahead, behind []api.Tok }

// arounds is arrays and maps about an item: alone, first, last, as a value, as a key.
func arounds() []around {
	return []around{
		{row(list(1)), nil}, {row(list(2), list(0)), nil}, {row(list(2)), row(num(1))},
		{row(pairs(1), num(3)), nil}, {row(pairs(2), num(3), pairs(0), num(4)), nil},
		{row(pairs(1)), row(num(3))}, {row(pairs(2), num(3), num(4)), row(list(1), num(0))},
	}
}

// P10.1: arrays and maps as deep as may be, and one deeper: as items, values and keys, in any mixture, beside others; what is no array and no map may be in the deepest.
func TestMaxDepth(t *testing.T) {
	r := rand.New(rand.NewSource(9))
	ends := [][]api.Tok{row(list(0)), row(pairs(0)), row(list(1), num(5)), row(pairs(1), num(5), num(5)), row(list(2), str("a"), text("a"))}
	for i := range 500 {
		l := ends[i%len(ends)]
		for deep := 1; deep <= api.MaxDepth+2; deep++ {
			if one, _, _ := thingOf(l); one.depth() < deep {
				t.Fatalf("%s is less than %d deep", short(l), deep)
			} else if one.depth() <= api.MaxDepth {
				holdIn(t, l)
			} else {
				holdOut(t, l)
			}
			a := arounds()[r.Intn(len(arounds()))]
			l = join(a.ahead, l, a.behind)
		}
	}
	for deep := 1; deep <= 20; deep++ {
		arrays := append(times(deep-1, list(1)), list(0))
		values := append(times(deep-1, pairs(1), num(0)), pairs(0))
		keys := join(times(deep-1, pairs(1)), row(pairs(0)), times(deep-1, num(0)))
		number := append(times(deep, list(1)), num(0))
		for _, l := range [][]api.Tok{arrays, values, keys, number} {
			if deep <= api.MaxDepth {
				holdIn(t, l)
			} else {
				holdOut(t, l)
			}
		}
	}
	for _, deep := range []int{599, 600, 601, 32767, 32768, 32769, 1 << 20} {
		holdOut(t, append(times(deep-1, list(1)), list(0)))
		holdNone(t, bytes.Repeat([]byte{0x81}, deep))
		holdNone(t, bytes.Repeat([]byte{0xa1}, deep))
	}
}

// tokens is a right row of so many tokens, at least 2, arrays in an array, and beside it one with maps in it.
func tokens(n int) (arrays, maps []api.Tok) {
	var within, keyed []api.Tok
	count := 0
	for left := n - 1; left > 0; count++ {
		some := min(left-1, 60)
		within = append(within, list(some))
		within = append(within, times(some, num(count))...)
		keyed = append(keyed, pairs(some/2))
		for i := range some / 2 {
			keyed = append(keyed, num(i), num(count))
		}
		left -= 1 + some
		if some%2 == 1 {
			keyed = append(keyed, num(count))
		}
	}
	outer := 0
	for at := 0; at < len(keyed); outer++ {
		at += 1 + 2*keyed[at].N*(keyed[at].Kind-api.TokInt)/(api.TokMap-api.TokInt)
	}
	return append(row(list(count)), within...), append(row(list(outer)), keyed...)
}

// P10.1: as many tokens as may be, and more.
func TestMaxToks(t *testing.T) {
	for _, n := range []int{2, 3, 100, 598, 599, 600, 601, 602, 700, 1201} {
		arrays, maps := tokens(n)
		if len(arrays) != n || len(maps) != n {
			t.Fatalf("%d, %d tokens, not %d", len(arrays), len(maps), n)
		}
		for _, l := range [][]api.Tok{arrays, maps} {
			if n <= api.MaxToks {
				holdIn(t, l)
			} else {
				holdOut(t, l)
			}
		}
	}
	holdOut(t, times(600, num(1)))
	holdOut(t, times(601, num(1)))
	holdOut(t, times(1<<16, num(1)))
	holdOut(t, append(row(list(0)), times(600, num(1))...))
	right, _ := tokens(600)
	holdOut(t, append(right, num(1)))
	holdOut(t, append(right, right...))
}

// P10.1: as many bytes as may be, and one more: of one token, of several, of the last one's head, its first byte or its second.
func TestMaxBytes(t *testing.T) {
	for more := -2; more <= 3; more++ {
		n := 1<<15 - 3 + more // behind a head of 3 bytes
		half := n / 2
		for _, l := range [][]api.Tok{
			row(str(xs(n))),
			row(text(xs(n))),
			row(text(strings.Repeat("\u00e4", half) + xs(n-2*half))),
			row(list(1), str(xs(n-1))),
			row(list(2), str(xs(n-2)), num(0)),
			row(list(2), num(0), str(xs(n-2))),
			row(list(2), str(xs(n-3)), num(24)),
			row(list(2), str(xs(n-4)), num(256)),
			row(list(2), str(xs(n-6)), neg(65536)),
			row(list(2), str(xs(n-10)), neg(api.MaxNum)),
			row(list(2), text(xs(n-2)), str("")),
			row(list(2), str(xs(n-2)), list(0)),
			row(list(2), str(xs(n-2)), pairs(0)),
			row(list(2), str(xs(half)), text(xs(n-half-4))),
			row(list(1), list(1), list(1), list(1), list(1), list(1), str(xs(n-6))),
			row(pairs(1), str(xs(n-2)), num(0)),
			row(pairs(1), num(0), str(xs(n-2))),
			row(pairs(1), str(xs(half)), text(xs(n-half-4))),
			row(pairs(2), num(0), num(0), num(1), str(xs(n-4))),
			join(row(list(64)), times(63, str(xs(500))), row(str(xs(n-2-63*503)))),
		} {
			if more <= 0 {
				holdIn(t, l)
			} else {
				holdOut(t, l)
			}
		}
	}
	for _, n := range []int{1<<15 - 1, 1 << 15, 1<<15 + 1, 1 << 16, 1 << 20, 1 << 24} {
		holdOut(t, row(str(xs(n))))
		holdOut(t, row(text(xs(n))))
		holdNone(t, make([]byte, n))
		holdNone(t, bytes.Repeat([]byte{0x80}, n))
	}
	// Many long texts in one row, all the same memory.
	long := str(xs(1 << 24))
	arrays, _ := tokens(600)
	for i, tok := range arrays {
		if tok.Kind == api.TokInt {
			arrays[i] = long
		}
	}
	holdWrong(t, arrays)
}

// rising is keys of each kind, as they rise by their bytes; arrays and maps are among them.
func rising() [][]api.Tok {
	return [][]api.Tok{
		row(num(0)), row(num(1)), row(num(10)), row(num(23)), row(num(24)), row(num(100)), row(num(255)), row(num(256)), row(num(65535)), row(num(65536)), row(num(1 << 32)), row(num(api.MaxNum)),
		row(neg(0)), row(neg(1)), row(neg(23)), row(neg(24)), row(neg(255)), row(neg(256)), row(neg(65536)), row(neg(api.MaxNum)),
		row(str("")), row(str("\x00")), row(str("\xff")), row(str("\x00\x00")), row(str("\x00\x01")), row(str("\x01\x00")), row(str(xs(23))), row(str(xs(24))), row(str(xs(23) + "y")), row(str(xs(256))),
		row(text("")), row(text("a")), row(text("b")), row(text("z")), row(text("aa")), row(text("ab")), row(text("\u00e4")), row(text("aaa")), row(text(xs(24))),
		row(list(0)), row(list(1), num(0)), row(list(1), num(100)), row(list(1), neg(0)), row(list(1), list(0)), row(list(1), pairs(0)), row(list(2), num(0), num(0)), row(list(2), num(0), num(1)), row(list(2), num(1), num(0)),
		row(pairs(0)), row(pairs(1), num(0), num(0)), row(pairs(1), num(0), num(1)), row(pairs(1), num(1), num(0)), row(pairs(1), pairs(0), num(0)), row(pairs(2), num(0), num(1), num(1), num(0)),
	}
}

// P10.1: keys of each kind: each two of them, risen, fallen and alike; with values that rise, fall and are alike.
func TestKeys(t *testing.T) {
	values := [][]api.Tok{row(num(0)), row(num(1)), row(text("b")), row(list(2), num(2), num(1)), row(pairs(1), num(0), num(0))}
	for i, a := range rising() {
		for k, b := range rising() {
			for v, value := range values {
				other := values[(v+i)%len(values)]
				l := join(row(pairs(2)), a, value, b, other)
				for _, ahead := range [][]api.Tok{nil, row(list(1)), row(pairs(1), num(0)), row(list(2), num(9))} {
					if all := join(ahead, l); i < k {
						holdIn(t, all)
					} else {
						holdOut(t, all)
					}
				}
			}
		}
	}
}

// P10.1: maps as keys, whose own keys are in order, or not, or alike.
func TestKeysInKeys(t *testing.T) {
	for i, a := range rising() {
		for k, b := range rising() {
			inner := join(row(pairs(2)), a, row(num(0)), b, row(num(0)))
			for _, l := range [][]api.Tok{
				join(row(pairs(1)), inner, row(num(0))),
				join(row(pairs(1), num(0)), inner),
				join(row(pairs(1), list(1)), inner, row(num(0))),
				join(row(pairs(2), num(0), num(0)), inner, row(num(0))),
				join(row(pairs(1), pairs(1)), inner, row(num(0), num(0))),
			} {
				if i < k {
					holdIn(t, l)
				} else {
					holdOut(t, l)
				}
			}
		}
	}
}

// P10.1: many keys: in order; any two of them changed about; one of them twice.
func TestManyKeys(t *testing.T) {
	keys := rising()
	build := func(keys [][]api.Tok) []api.Tok {
		l := row(pairs(len(keys)))
		for i, key := range keys {
			l = join(l, key, row(num(i%3)))
		}
		return l
	}
	holdIn(t, build(keys))
	for i := range keys {
		holdIn(t, build(slices.Delete(slices.Clone(keys), i, i+1)))
		holdOut(t, build(slices.Insert(slices.Clone(keys), i, keys[i])))
		for k := range i {
			other := slices.Clone(keys)
			other[i], other[k] = other[k], other[i]
			holdOut(t, build(other))
			other = slices.Clone(keys)
			other[i] = other[k]
			holdOut(t, build(other))
		}
	}
}

// P10.1: the same map twice in an array, and keys that fall from one map to the next, are right.
func TestMapsApart(t *testing.T) {
	holdIn(t, row(list(2), pairs(1), num(1), num(1), pairs(1), num(1), num(1)))
	holdIn(t, row(list(2), pairs(1), num(2), num(1), pairs(1), num(1), num(1)))
	holdIn(t, row(pairs(2), num(1), pairs(1), num(9), num(9), num(2), pairs(1), num(9), num(9)))
	holdIn(t, row(pairs(2), num(8), pairs(1), num(9), num(9), num(9), pairs(1), num(0), num(0)))
	holdIn(t, row(pairs(2), pairs(1), num(5), num(0), num(0), pairs(1), num(5), num(1), num(0)))
}

// P10.1: each first byte alone and with others behind it; all of two bytes, too: major types 6 and 7, and low bits that are no head's, are none.
func TestFirstBytes(t *testing.T) {
	for first := range 256 {
		b := []byte{byte(first)}
		holdBytes(t, b)
		for second := range 256 {
			holdBytes(t, append(b, byte(second)))
		}
		for _, behind := range []byte{0, 1, 0x60, 0x7f, 0xff} {
			for length := range 40 {
				all := append(slices.Clone(b), bytes.Repeat([]byte{behind}, length)...)
				holdBytes(t, all)
				if first%32 > 27 || first/32 > 5 {
					holdNone(t, all)
					holdNone(t, append([]byte{0x81}, all...))
				}
			}
		}
	}
}

// P10.1: any three bytes.
func TestThreeBytes(t *testing.T) {
	if testing.Short() {
		t.Skip()
	}
	for first := range 256 {
		for second := range 256 {
			for third := 0; third < 256; third += 1 + 16*(first%2) {
				holdBytes(t, []byte{byte(first), byte(second), byte(third)})
			}
		}
	}
}

// P10.1: a length beyond the end: by one byte and by many, up to the greatest number, and above it.
func TestBeyond(t *testing.T) {
	for _, major := range []int{2, 3} {
		for _, n := range []int{0, 1, 23, 24, 255, 256, 1000} {
			for _, least := range []int{n + 1, n + 2, n + 256, 1 << 15, 1 << 16, 1 << 31, 1 << 32, 1 << 62, math.MaxInt - 9, math.MaxInt - 1, math.MaxInt} {
				b := append(wordedHead(major, least), xs(n)...)
				holdNone(t, b)
				holdNone(t, append([]byte{0x81}, b...))
				holdNone(t, append([]byte{0xa1, 0x00}, b...))
				holdNone(t, append([]byte{0xa1}, b...))
			}
		}
	}
	for major := range 8 {
		for _, first := range []byte{0x80, 0x81, 0xff} {
			for _, last := range []byte{0, 1, 0xff} {
				b := []byte{byte(major*32 + 27), first, last, last, last, last, last, last, last}
				holdNone(t, b)
				holdNone(t, append(b, xs(300)...))
			}
		}
	}
}

// P10.1: things of other CBOR: lengths that are not told, floats, tags, true, false, nothing.
func TestOtherCbor(t *testing.T) {
	for _, s := range []string{
		"\xf4", "\xf5", "\xf6", "\xf7", "\xf0", "\xf8\xff", "\xf9\x00\x00", "\xfa\x47\xc3\x50\x00", "\xfb\x3f\xf1\x99\x99\x99\x99\x99\x9a", "\xff",
		"\xc0\x74" + "2013-03-21T20:04:00Z", "\xc1\x1a\x51\x4b\x67\xb0", "\xc2\x49\x01\x00\x00\x00\x00\x00\x00\x00\x00", "\xc3\x41\x01", "\xd7\x44\x01\x02\x03\x04", "\xd8\x18\x45\x64IETF",
		"\x5f\x42\x01\x02\x43\x03\x04\x05\xff", "\x5f\xff", "\x7f\x65strea\x64ming\xff", "\x9f\xff", "\x9f\x01\x02\xff", "\xbf\xff", "\xbf\x61a\x01\xff", "\x83\x01\x9f\x02\x03\xff\x01", "\x1f", "\x3f", "\x1c", "\x1d", "\x1e",
		"\x81\xf4", "\x82\x01\xf6", "\xa1\x01\xf5", "\xa1\xf5\x01", "\xa1\xc0\x00\x01",
	} {
		holdNone(t, []byte(s))
	}
}

// P10.1: the ends of each form of UTF-8, d800 and dfff, 10ffff and beyond, forms longer than needed, cut short.
func TestUtf8Known(t *testing.T) {
	for _, c := range []struct {
		b    string
		want bool
	}{
		{"", true}, {"\x00", true}, {"a", true}, {"abc", true}, {"\x7f", true},
		{"\x80", false}, {"\xbf", false}, {"a\x80", false}, {"\x80a", false},
		{"\xc0\x80", false}, {"\xc0\xaf", false}, {"\xc1\xbf", false}, {"\xc2\x80", true}, {"\xdf\xbf", true},
		{"\xe0\x80\x80", false}, {"\xe0\x9f\xbf", false}, {"\xe0\xa0\x80", true}, {"\xed\x9f\xbf", true}, {"\xee\x80\x80", true}, {"\xef\xbf\xbd", true}, {"\xef\xbf\xbe", true}, {"\xef\xbf\xbf", true},
		{"\xed\xa0\x80", false}, {"\xed\xad\xbf", false}, {"\xed\xae\x80", false}, {"\xed\xaf\xbf", false}, {"\xed\xb0\x80", false}, {"\xed\xbf\xbf", false}, {"\xed\xa0\x80\xed\xb0\x80", false}, {"\xed\xa1\x8c\xed\xbe\xb4", false},
		{"\xf0\x80\x80\x80", false}, {"\xf0\x8f\xbf\xbf", false}, {"\xf0\x90\x80\x80", true}, {"\xf1\x80\x80\x80", true}, {"\xf3\xbf\xbf\xbf", true}, {"\xf4\x8f\xbf\xbf", true},
		{"\xf4\x90\x80\x80", false}, {"\xf5\x80\x80\x80", false}, {"\xf7\xbf\xbf\xbf", false}, {"\xf8\x88\x80\x80\x80", false}, {"\xf8\x80\x80\x80\x80", false}, {"\xfb\xbf\xbf\xbf\xbf", false}, {"\xfc\x84\x80\x80\x80\x80", false}, {"\xfd\xbf\xbf\xbf\xbf\xbf", false}, {"\xfe", false}, {"\xff", false},
		{"\xc2", false}, {"\xdf", false}, {"\xe0\xa0", false}, {"\xe1", false}, {"\xe4\xb8", false}, {"\xf0\x90\x80", false}, {"\xf0\x90", false}, {"\xf4", false}, {"\xf4\x8f\xbf", false},
		{"\xc2\x80\x80", false}, {"\xc2a", false}, {"\xc2\xc2\x80", false}, {"\xe4\xb8a", false}, {"\xe4a\xad", false}, {"\xf0\x90\x80\xc0", false}, {"\xf0\x90\x00\x80", false}, {"\xf0\x10\x80\x80", false},
		{"\u00e4\u4e2d\U0010ffffz", true}, {"\xef\xbb\xbf", true}, {"ab\xc3\xa4cd", true}, {"ab\xc3cd", false},
	} {
		holdUtf8(t, []byte(c.b), c.want)
		holdUtf8(t, []byte(xs(7)+c.b+xs(9)), c.want)
		holdUtf8(t, []byte("\u00e4"+c.b+"\u4e2d"), c.want)
		holdUtf8(t, []byte(xs(100)+c.b), c.want)
	}
}

// holdUtf8 asks whether bytes are UTF-8, and a text, too.
func holdUtf8(t testing.TB, b []byte, want bool) {
	t.Helper()
	if cbor.Utf8(b) != want || wordedUtf8(b) != want {
		t.Errorf("Utf8(%x) = %v", b, !want)
	}
	tok := api.Tok{Kind: api.TokText, B: b}
	if len(b) > 1000 {
		return
	}
	if want {
		holdRight(t, row(tok), tokenBytes(tok))
	} else {
		holdOut(t, row(tok))
	}
}

// P10.1: each code point in each form: right in its shortest one alone, and unless it is one from d800 to dfff, or beyond 10ffff.
func TestUtf8Points(t *testing.T) {
	step := 1
	if testing.Short() {
		step = 61
	}
	for point := 0; point < 0x200000; point += step {
		may := point <= 0x10ffff && (point < 0xd800 || point > 0xdfff)
		for length := formOf(point); length <= 6; length++ {
			b := longPoint(point, length)
			want := may && length == formOf(point)
			if cbor.Utf8(b) != want {
				t.Fatalf("Utf8(%x) = %v, of %x in %d bytes", b, !want, point, length)
			}
		}
		if point > 0x10ffff || point%7 > 0 {
			continue
		}
		b := longPoint(point, formOf(point))
		for cut := 1; cut < len(b); cut++ {
			if cbor.Utf8(b[:cut]) || cbor.Utf8(b[cut:]) {
				t.Fatalf("Utf8 of %x, cut at %d, is true", b, cut)
			}
		}
	}
}

// P10.1: all of up to two bytes, and each first three and four with continuations about their ends.
func TestUtf8Bytes(t *testing.T) {
	ask := func(b ...byte) {
		if cbor.Utf8(b) != wordedUtf8(b) {
			t.Errorf("Utf8(%x) = %v", b, !wordedUtf8(b))
		}
	}
	ends := []byte{0, 0x0f, 0x40, 0x7f, 0x80, 0x81, 0x8f, 0x90, 0x91, 0x9f, 0xa0, 0xa1, 0xbf, 0xc0, 0xc2, 0xe0, 0xf0, 0xff}
	for first := range 256 {
		ask(byte(first))
		for second := range 256 {
			ask(byte(first), byte(second))
			for _, third := range ends {
				ask(byte(first), byte(second), third)
				for _, fourth := range ends {
					ask(byte(first), byte(second), third, fourth)
					ask('a', byte(first), byte(second), third, fourth, 'b')
				}
			}
		}
	}
}

// P10.1: long texts, right but for one byte, at each of some places.
func TestUtf8Long(t *testing.T) {
	long := []byte(strings.Repeat("a\u00e4\u4e2d\U0010ffff", 2000))
	for i := range long {
		for _, c := range []byte{0x80, 0xff, 'a'} {
			before := long[i]
			long[i] = c
			if i%37 == 0 && cbor.Utf8(long) != wordedUtf8(long) {
				t.Errorf("Utf8 with %x at %d", c, i)
			}
			long[i] = before
		}
	}
	if !cbor.Utf8(long) || cbor.Utf8(long[:len(long)-1]) || cbor.Utf8(long[2:]) || !cbor.Utf8(nil) || !cbor.Utf8([]byte{}) {
		t.Error("long texts, or none")
	}
}

// anyText is any UTF-8 of so many code points.
func anyText(r *rand.Rand, points int) string {
	var s strings.Builder
	for range points {
		point := r.Intn(0x110000) >> (r.Intn(3) * 7)
		if point >= 0xd800 && point <= 0xdfff {
			point = 'a'
		}
		s.WriteRune(rune(point))
	}
	return s.String()
}

// anyThing is any right item, so deep at most.
func anyThing(r *rand.Rand, deep, wide int) thing {
	kinds := 6
	if deep == 0 {
		kinds = 4
	}
	switch 1 + r.Intn(kinds) {
	case api.TokInt:
		return thing{tok: num(int(r.Uint64() >> (1 + r.Intn(63))))}
	case api.TokNeg:
		return thing{tok: neg(int(r.Uint64() >> (1 + r.Intn(63))))}
	case api.TokBytes:
		b := make([]byte, r.Intn(4)*r.Intn(20))
		r.Read(b)
		return thing{tok: str(string(b))}
	case api.TokText:
		return thing{tok: text(anyText(r, r.Intn(8)))}
	case api.TokArray:
		one := thing{tok: list(r.Intn(wide + 1))}
		for range one.tok.N {
			one.held = append(one.held, anyThing(r, deep-1, wide))
		}
		return one
	default:
		return anyMap(r, deep, wide)
	}
}

// anyMap is any right map, so deep at most.
func anyMap(r *rand.Rand, deep, wide int) thing {
	var keys []thing
	for range r.Intn(wide + 1) {
		keys = append(keys, anyThing(r, deep-1, wide))
	}
	slices.SortFunc(keys, func(a, b thing) int { return bytes.Compare(a.bytes(), b.bytes()) })
	keys = slices.CompactFunc(keys, func(a, b thing) bool { return bytes.Equal(a.bytes(), b.bytes()) })
	one := thing{tok: pairs(len(keys))}
	for _, key := range keys {
		one.held = append(one.held, key, anyThing(r, deep-1, wide))
	}
	return one
}

// row is an item's tokens.
func (o thing) row() []api.Tok {
	l := row(o.tok)
	for _, inner := range o.held {
		l = append(l, inner.row()...)
	}
	return l
}

// anyRow is any right row.
func anyRow(r *rand.Rand) []api.Tok {
	for {
		if l := anyThing(r, 1+r.Intn(6), 1+r.Intn(5)).row(); len(l) <= api.MaxToks {
			return l
		}
	}
}

// P10.1, P10.2: any right rows.
func TestAnyRows(t *testing.T) {
	r := rand.New(rand.NewSource(1))
	for range 4000 {
		holdIn(t, anyRow(r))
	}
}

// bend is a row that is unlike another one in some part.
func bend(r *rand.Rand, l []api.Tok) []api.Tok {
	l = slices.Clone(l)
	at, other := r.Intn(len(l)), r.Intn(len(l))
	switch r.Intn(9) {
	case 0:
		l = slices.Delete(l, at, at+1)
	case 1:
		l = slices.Insert(l, at, l[other])
	case 2:
		l[at], l[other] = l[other], l[at]
	case 3:
		l[at].N += 1 - 2*r.Intn(2)
	case 4:
		l[at].Kind += 1 - 2*r.Intn(2)
	case 5:
		l[at].B = append(slices.Clone(l[at].B), byte(r.Intn(256)))
	case 6:
		l[at].N = numbers()[r.Intn(len(numbers()))]
	case 7:
		l[at] = l[other]
	default:
		l[at].B = l[at].B[:len(l[at].B)/2]
	}
	return l
}

// P10.1, P10.2: rows that were right, but for a part or two, are right where the chapter says so alone.
func TestBentRows(t *testing.T) {
	r := rand.New(rand.NewSource(2))
	for range 4000 {
		l := anyRow(r)
		for range 8 {
			bent := bend(r, l)
			holdRow(t, bent)
			if len(bent) > 0 {
				holdRow(t, bend(r, bent))
			}
		}
	}
}

// P10.1, P10.2: bytes that were a right row's, with each bit turned about, each byte gone, each doubled, cut at each place.
func TestBentBytes(t *testing.T) {
	r := rand.New(rand.NewSource(3))
	for range 400 {
		b, _ := wordedRow(anyRow(r))
		b = b[:min(len(b), 300)]
		for at := range b {
			for bit := range 8 {
				other := slices.Clone(b)
				other[at] ^= 1 << bit
				holdBytes(t, other)
			}
			holdBytes(t, slices.Delete(slices.Clone(b), at, at+1))
			holdBytes(t, slices.Insert(slices.Clone(b), at, b[at]))
			holdBytes(t, slices.Insert(slices.Clone(b), at, byte(r.Intn(256))))
			holdNone(t, b[:at])
		}
	}
}

// P10.1: any bytes.
func TestAnyBytes(t *testing.T) {
	r := rand.New(rand.NewSource(4))
	for range 100000 {
		b := make([]byte, r.Intn(12))
		for i := range b {
			b[i] = byte(r.Intn(256)) & []byte{0xff, 0xe7, 0xe3, 0x3}[r.Intn(4)]
		}
		holdBytes(t, b)
	}
}

// rowsOf calls back with each row of so many of these tokens.
func rowsOf(of []api.Tok, n int, ahead []api.Tok, each func([]api.Tok)) {
	if n == 0 {
		each(ahead)
		return
	}
	for _, tok := range of {
		rowsOf(of, n-1, append(slices.Clip(ahead), tok), each)
	}
}

// P10.1, P10.2: all small rows; those that are right have bytes of their own.
func TestSmallRows(t *testing.T) {
	seen := map[string][]api.Tok{}
	each := func(l []api.Tok) {
		holdRow(t, l)
		b, e := cbor.Encode(l)
		if e != api.OK {
			return
		}
		if other := seen[string(b)]; other != nil && !alike(other, l) {
			t.Errorf("%x has the bytes %x, and so has %x", l, b, other)
		}
		seen[string(b)] = slices.Clone(l)
	}
	many := row(num(0), num(1), num(24), neg(0), neg(1), str(""), str("\x00"), text(""), text("\x00"), text("\xff"), list(0), list(1), list(2), list(3), pairs(0), pairs(1), num(-1), api.Tok{}, api.Tok{Kind: 7})
	few := row(num(0), num(1), str(""), list(0), list(1), list(2), pairs(1), pairs(2))
	for n := range 4 {
		rowsOf(many, n, nil, each)
	}
	for n := 4; n <= 5; n++ {
		rowsOf(few, n, nil, each)
	}
	if len(seen) < 1000 {
		t.Errorf("%d right rows alone", len(seen))
	}
}

// P10.2: unlike rows have unlike bytes, and none's are a beginning of another one's.
func TestUnlike(t *testing.T) {
	r := rand.New(rand.NewSource(5))
	rows := rising()
	for _, c := range byHand() {
		rows = append(rows, c.l)
	}
	for range 600 {
		rows = append(rows, anyRow(r))
	}
	all := make([][]byte, len(rows))
	for i, l := range rows {
		b, e := cbor.Encode(l)
		if e != api.OK {
			t.Fatalf("Encode(%s): %v", short(l), e)
		}
		all[i] = b
	}
	for i, a := range all {
		for k, b := range all {
			if same := alike(rows[i], rows[k]); same != bytes.Equal(a, b) || !same && bytes.HasPrefix(a, b) {
				t.Errorf("%s, %s: %s, %s", short(rows[i]), short(rows[k]), short(a), short(b))
			}
		}
	}
}

// roomy is a row alike, with room behind it and behind its tokens' bytes, and something there.
func roomy(r *rand.Rand, l []api.Tok) []api.Tok {
	all := make([]api.Tok, 0, len(l)+3)
	for _, tok := range l {
		b := make([]byte, len(tok.B)+20)
		r.Read(b)
		copy(b, tok.B)
		all = append(all, api.Tok{Kind: tok.Kind, N: tok.N, B: b[:len(tok.B)]})
	}
	return append(all, num(1), str("ab"), list(2))[:len(l)]
}

// shot tells all of a row, and of the room behind it.
func shot(l []api.Tok) string {
	var s strings.Builder
	for _, tok := range l[:cap(l)] {
		fmt.Fprintln(&s, tok.Kind, tok.N, len(tok.B), tok.B[:cap(tok.B)])
	}
	return s.String()
}

// wrongRows is some rows that are none, in each of several ways.
func wrongRows() [][]api.Tok {
	return [][]api.Tok{
		row(num(-1)), row(num(1), num(1)), row(list(2), str("a")), row(text("a\xff")), row(api.Tok{Kind: api.TokBytes, N: 1, B: []byte("a")}), row(api.Tok{Kind: 9, B: []byte("a")}),
		row(pairs(2), text("b"), num(1), text("a"), num(1)), row(pairs(2), str("a"), num(1), str("a"), num(1)), times(7, list(1)), append(times(7, list(1)), str("a")), row(str(xs(1 << 15))), append(row(list(65)), times(65, str("a"))...),
	}
}

// R2, R6: what is handed in stays as it was, its spare room too, and the room is not read.
func TestStays(t *testing.T) {
	r := rand.New(rand.NewSource(6))
	rows := wrongRows()
	for _, c := range byHand() {
		rows = append(rows, c.l)
	}
	for range 300 {
		rows = append(rows, anyRow(r))
	}
	for _, plain := range rows {
		l := roomy(r, plain)
		before := shot(l)
		b, e := cbor.Encode(l)
		if cbor.Check(l) != e || shot(l) != before {
			t.Fatalf("%s: the row has changed", short(plain))
		}
		again, other := cbor.Encode(slices.Clip(plain))
		if !bytes.Equal(b, again) || e != other {
			t.Fatalf("%s: the room behind it counts", short(plain))
		}
		room := append(slices.Clone(b), make([]byte, 40)...)
		r.Read(room[len(b):])
		kept := slices.Clone(room)
		for end := range min(len(b)+3, 400) {
			got, e := cbor.Decode(room[:end])
			cbor.Utf8(room[:end])
			want, other := cbor.Decode(slices.Clip(slices.Clone(room[:end])))
			if !bytes.Equal(room, kept) || !alike(got, want) || e != other {
				t.Fatalf("Decode(%s), at %d: the bytes have changed, or the room behind them counts", short(b), end)
			}
		}
	}
}

// spoil writes over a row, its tokens' bytes, and the room behind all of them.
func spoil(l []api.Tok) {
	l = l[:cap(l)]
	for i, tok := range l {
		spoilBytes(tok.B)
		l[i] = api.Tok{Kind: 77, N: 77}
	}
}

// spoilBytes writes over bytes and the room behind them.
func spoilBytes(b []byte) {
	b = b[:cap(b)]
	for i := range b {
		b[i] ^= 0xff
	}
}

// R2: what is answered shares no memory with what was handed in, nor with another answer, its spare room neither.
func TestShares(t *testing.T) {
	r := rand.New(rand.NewSource(7))
	for range 500 {
		plain := anyRow(r)
		want, _ := wordedRow(plain)
		l := roomy(r, plain)
		before := shot(l)
		one, _ := cbor.Encode(l)
		two, _ := cbor.Encode(l)
		spoilBytes(one)
		if shot(l) != before || !bytes.Equal(two, want) {
			t.Fatalf("Encode(%s) shares memory", short(plain))
		}
		spoil(l)
		if !bytes.Equal(two, want) {
			t.Fatalf("Encode(%s) hangs on what was handed in", short(plain))
		}
		room := append(slices.Clone(want), 1, 2, 3)
		first, _ := cbor.Decode(room[:len(want)])
		second, _ := cbor.Decode(room[:len(want)])
		spoil(first)
		if !bytes.Equal(room, append(slices.Clone(want), 1, 2, 3)) || !alike(second, plain) {
			t.Fatalf("Decode(%s) shares memory", short(want))
		}
		spoilBytes(room)
		if !alike(second, plain) {
			t.Fatalf("Decode(%s) hangs on what was handed in", short(want))
		}
	}
}

// R2: no two tokens that are answered share memory, their spare room neither.
func TestTokensApart(t *testing.T) {
	r := rand.New(rand.NewSource(8))
	for range 500 {
		plain := anyRow(r)
		b, _ := wordedRow(plain)
		l, _ := cbor.Decode(b)
		for i, tok := range l {
			spoilBytes(tok.B)
			if !alike(l[:i], plain[:i]) || !alike(l[i+1:], plain[i+1:]) {
				t.Fatalf("Decode(%s): token %d shares memory", short(b), i)
			}
			l[i].B = slices.Clone(plain[i].B)
		}
	}
}

// R2: tokens that share memory where they are handed in do no harm.
func TestSharedIn(t *testing.T) {
	b := []byte("abcdef")
	l := row(list(4), api.Tok{Kind: api.TokBytes, B: b}, api.Tok{Kind: api.TokText, B: b[:3]}, api.Tok{Kind: api.TokText, B: b[3:]}, api.Tok{Kind: api.TokText, B: b[:3]})
	holdRight(t, l, []byte("\x84\x46abcdef\x63abc\x63def\x63abc"))
}

// R3: nil and an empty list mean the same, and nothing is kept from call to call, be it right or wrong.
func TestAlike(t *testing.T) {
	wrong := wrongRows()
	for i, c := range byHand() {
		holdWrong(t, wrong[i%len(wrong)])
		holdNone(t, []byte(c.want)[:len(c.want)-1])
		l := slices.Clone(c.l)
		for i := range l {
			if len(l[i].B) == 0 {
				l[i].B = [][]byte{nil, {}, []byte("abc")[:0]}[i%3]
			}
		}
		holdRight(t, l, []byte(c.want))
	}
}

// rowFrom is a row that bytes tell, be it right or not.
func rowFrom(b []byte) []api.Tok {
	var l []api.Tok
	for len(b) > 2 && len(l) < 700 {
		tok := api.Tok{Kind: int(b[0]) % 8, N: int(b[1]) % 8}
		if tok.Kind == api.TokBytes || tok.Kind == api.TokText {
			size := min(tok.N, len(b)-2)
			tok.N, tok.B = int(b[0]/128), b[2:2+size]
			b = b[size:]
		}
		l = append(l, tok)
		b = b[2:]
	}
	return l
}

// P10.1, P10.2: any bytes, any row that they tell.
func FuzzCbor(f *testing.F) {
	for _, c := range byHand() {
		f.Add([]byte(c.want))
	}
	f.Add([]byte{6, 2, 1, 3, 1, 0, 1, 2, 1, 0})
	f.Add([]byte{5, 2, 4, 1, 'a', 3, 0, 0})
	f.Fuzz(func(t *testing.T, b []byte) {
		holdBytes(t, b)
		holdRow(t, rowFrom(b))
		if cbor.Utf8(b) != wordedUtf8(b) {
			t.Errorf("Utf8(%x)", b)
		}
	})
}
