package entry_test

import (
	"bytes"
	"crypto/ed25519"
	"crypto/sha256"
	"encoding/binary"
	"encoding/hex"
	"fmt"
	"math"
	"math/rand"
	"slices"
	"strings"
	"testing"
	"unicode/utf8"

	"codicil/api"
	"codicil/cbor"
	"codicil/entry"
	"codicil/head"
	"codicil/sha"
	"codicil/suite"
)

// kinds is all kinds of signatures that there are.
var kinds = []int{api.SuiteReal, api.SuiteOpen}

// xs is a text of so many bytes.
func xs(n int) string { return strings.Repeat("x", n) }

// full is 32 bytes of ones.
func full() [32]byte { return [32]byte(bytes.Repeat([]byte{0xff}, 32)) }

// fullSig is 64 bytes of ones.
func fullSig() [64]byte { return [64]byte(bytes.Repeat([]byte{0xff}, 64)) }

// upTo is bytes that count from one on up.
func upTo(from, length int) []byte {
	b := make([]byte, length)
	for i := range b {
		b[i] = byte(from + i)
	}
	return b
}

// headOf is a head, by layer 9.
func headOf(major, n int) []byte {
	b, _ := head.Put(nil, major, n)
	return b
}

// number is a number's bytes, of one below 0, too.
func number(n int) []byte {
	if n < 0 {
		return headOf(1, -1-n)
	}
	return headOf(0, n)
}

// data is the bytes of bytes.
func data(b []byte) []byte { return append(headOf(2, len(b)), b...) }

// text is the bytes of a text.
func text(s string) []byte { return append(headOf(3, len(s)), s...) }

// list is the bytes of an array of these items.
func list(items ...[]byte) []byte {
	return append(headOf(4, len(items)), slices.Concat(items...)...)
}

// opOf is an operation's bytes, of one that may not be, too.
func opOf(o api.Op) []byte { return list(number(o.Kind), text(o.Key), data(o.Val)) }

// items is an entry's seven items as the chapter words them, of one that is not right, too.
func items(e api.Entry) [][]byte {
	return [][]byte{number(1), data(e.Author[:]), number(e.Seq), data(e.Prev[:]), number(e.Stamp), opOf(e.Op), data(e.Sig[:])}
}

// wordedBytes is an entry's bytes as the chapter words them.
func wordedBytes(e api.Entry) []byte { return list(items(e)...) }

// wordedBody is an entry's body as the chapter words it.
func wordedBody(e api.Entry) []byte { return list(items(e)[:6]...) }

// wordedRight tells whether an entry is right as the chapter words it.
func wordedRight(e api.Entry) bool {
	place := e.Seq >= 1 && e.Seq <= 200 && (e.Seq != 1 || e.Prev == [32]byte{})
	key := len(e.Op.Key) >= 1 && len(e.Op.Key) <= 16 && utf8.ValidString(e.Op.Key)
	put := e.Op.Kind == api.OpPut && len(e.Op.Val) <= 40
	del := e.Op.Kind == api.OpDel && len(e.Op.Val) == 0
	return place && e.Stamp >= 0 && key && (put || del)
}

// reader takes an entry's bytes apart; wrong, once something else stood there.
type reader struct {
	b     []byte
	wrong bool
}

// take is so many bytes; noughts, if there are fewer.
func (r *reader) take(n int) []byte {
	if n > len(r.b) {
		r.wrong, r.b = true, nil
		return make([]byte, n)
	}
	b := r.b[:n]
	r.b = r.b[n:]
	return b
}

// head is the number of a head of a major type, in whatever form.
func (r *reader) head(major int) int {
	low := int(r.take(1)[0]) - major*32
	if low < 0 || low > 27 {
		r.wrong = true
		return 0
	}
	if low < 24 {
		return low
	}
	behind := 1 << (low - 24)
	told := binary.BigEndian.Uint64(append(make([]byte, 8-behind), r.take(behind)...))
	if told > math.MaxInt64 {
		r.wrong = true
		return 0
	}
	return int(told)
}

// is asks that these bytes stand there.
func (r *reader) is(b ...byte) {
	if !bytes.Equal(r.take(len(b)), b) {
		r.wrong = true
	}
}

// wordedRead is the right entry that has these bytes, if there is one.
func wordedRead(b []byte) (api.Entry, bool) {
	r := &reader{b: b}
	var e api.Entry
	r.is(0x87, 1, 0x58, 32)
	e.Author = [32]byte(r.take(32))
	e.Seq = r.head(0)
	r.is(0x58, 32)
	e.Prev = [32]byte(r.take(32))
	e.Stamp = r.head(0)
	r.is(0x83)
	e.Op.Kind = r.head(0)
	e.Op.Key = string(r.take(min(r.head(3), 41)))
	e.Op.Val = slices.Clone(r.take(min(r.head(2), 41)))
	r.is(0x58, 64)
	e.Sig = [64]byte(r.take(64))
	if r.wrong || len(r.b) > 0 || !wordedRight(e) || !bytes.Equal(wordedBytes(e), b) {
		return api.Entry{}, false
	}
	return e, true
}

// alike tells whether two entries are: nil and no byte mean the same.
func alike(a, b api.Entry) bool {
	return a.Author == b.Author && a.Seq == b.Seq && a.Prev == b.Prev && a.Stamp == b.Stamp && a.Sig == b.Sig &&
		a.Op.Kind == b.Op.Kind && a.Op.Key == b.Op.Key && bytes.Equal(a.Op.Val, b.Op.Val)
}

// isNone tells whether an entry has nothing but zero values.
func isNone(e api.Entry) bool { return alike(e, api.Entry{}) }

// short is a beginning of an entry or of bytes, to be told of.
func short(a any) string {
	s := fmt.Sprintf("%x", a)
	return s[:min(len(s), 500)]
}

// put is a right entry of an OpPut, behind another one.
func put() api.Entry {
	return api.Entry{
		Author: [32]byte(upTo(1, 32)), Seq: 2, Prev: [32]byte(upTo(101, 32)), Stamp: 500,
		Op:  api.Op{Kind: api.OpPut, Key: "key", Val: []byte{0xff, 0, 'v'}},
		Sig: [64]byte(upTo(161, 64)),
	}
}

// del is a right entry of an OpDel, ahead of which is none.
func del() api.Entry {
	return api.Entry{
		Author: [32]byte(upTo(201, 32)), Seq: 1, Stamp: 7,
		Op:  api.Op{Kind: api.OpDel, Key: "k"},
		Sig: [64]byte(upTo(3, 64)),
	}
}

// with is an entry with a change.
func with(e api.Entry, change func(e *api.Entry)) api.Entry {
	e.Op.Val = slices.Clone(e.Op.Val)
	change(&e)
	return e
}

// withOp is an entry with another operation.
func withOp(e api.Entry, kind int, key string, val []byte) api.Entry {
	e.Op = api.Op{Kind: kind, Key: key, Val: val}
	return e
}

// rightKeys is keys at the ends of their lengths and of UTF-8's forms.
func rightKeys() []string {
	return []string{
		"k", "\x00", "\x7f", "xy", xs(15), xs(16), strings.Repeat("\x00", 16),
		"\u0080", "\u07ff", "\u0800", "\ud7ff", "\ue000", "\uffff", "\U00010000", "\U0010ffff",
		strings.Repeat("\u00e4", 8), strings.Repeat("\U0010ffff", 4), strings.Repeat("\u4e2d", 5), strings.Repeat("\u4e2d", 5) + "x", xs(14) + "\u00e4", xs(12) + "\U0010ffff",
	}
}

// wrongKeys is keys of no byte, of too many, and of bytes that are no UTF-8, at each end.
func wrongKeys() []string {
	return []string{
		"", xs(17), xs(18), xs(24), xs(32), xs(255), xs(256), xs(257), xs(1000), xs(1 << 16), xs(1<<16 + 1), strings.Repeat("\x00", 17),
		xs(15) + "\u00e4", xs(16) + "\u00e4", xs(13) + "\U0010ffff", strings.Repeat("\u00e4", 9), strings.Repeat("\u00e4", 16), strings.Repeat("\U0010ffff", 5), strings.Repeat("\u4e2d", 6),
		"\xff", "\x80", "\xbf", "\xc0\x80", "\xc1\xbf", "\xc3", "\xe0\x80\x80", "\xe4\xb8", "\xed\xa0\x80", "\xed\xbf\xbf", "\xf0\x80\x80\x80", "\xf0\x90\x80", "\xf4\x90\x80\x80", "\xf8\x88\x80\x80\x80",
		"a\xff", "\xffa", "ab\xc3", "a\x80b", xs(15) + "\xc3", xs(15) + "\xff", "\xff" + xs(15), xs(14) + "\xe4\xb8", xs(16) + "\xff",
	}
}

// lengthsOf is lengths up to a greatest one: all of them.
func lengthsOf(most int) []int {
	var all []int
	for n := range most + 1 {
		all = append(all, n)
	}
	return all
}

// rights is right entries: of both kinds, each field at its ends, and between.
func rights() []api.Entry {
	all := []api.Entry{put(), del()}
	for _, e := range []api.Entry{put(), del()} {
		for _, seq := range []int{2, 3, 22, 23, 24, 25, 100, 198, 199, 200} {
			for _, prev := range [][32]byte{{}, {1}, {31: 1}, full()} {
				all = append(all, with(e, func(e *api.Entry) { e.Seq, e.Prev = seq, prev }))
			}
		}
		all = append(all, with(e, func(e *api.Entry) { e.Seq, e.Prev = 1, [32]byte{} }))
		for _, stamp := range []int{0, 1, 22, 23, 24, 25, 255, 256, 257, 65535, 65536, 1<<32 - 1, 1 << 32, 1<<32 + 1, 1 << 62, math.MaxInt64 - 1, math.MaxInt64} {
			all = append(all, with(e, func(e *api.Entry) { e.Stamp = stamp }))
		}
		for _, id := range [][32]byte{{}, {1}, {31: 1}, full()} {
			all = append(all, with(e, func(e *api.Entry) { e.Author = id }))
		}
		for _, sig := range [][64]byte{{}, {1}, {63: 1}, fullSig()} {
			all = append(all, with(e, func(e *api.Entry) { e.Sig = sig }))
		}
		for _, key := range rightKeys() {
			all = append(all, withOp(e, api.OpDel, key, nil), withOp(e, api.OpPut, key, []byte("v")), withOp(e, api.OpPut, key, []byte(xs(40))))
		}
		for _, length := range lengthsOf(40) {
			all = append(all, withOp(e, api.OpPut, "key", upTo(250, length)))
		}
		all = append(all, withOp(e, api.OpDel, "key", nil), withOp(e, api.OpDel, "key", []byte{}), withOp(e, api.OpPut, "key", []byte("abc")[:0]), withOp(e, api.OpDel, "key", []byte("abc")[:0]))
	}
	return append(all, with(put(), func(e *api.Entry) {
		e.Author, e.Seq, e.Prev, e.Stamp, e.Sig = full(), 200, full(), math.MaxInt64, fullSig()
		e.Op = api.Op{Kind: api.OpPut, Key: xs(16), Val: []byte(xs(40))}
	}))
}

// wrongs is entries that are none, each by one field alone, at its end, and beyond it.
func wrongs() []api.Entry {
	all := []api.Entry{{}}
	for _, e := range []api.Entry{put(), del()} {
		all = append(all, wrongPlaces(e)...)
		for _, stamp := range []int{-1, -2, -24, -500, -1 << 32, math.MinInt64 + 1, math.MinInt64} {
			all = append(all, with(e, func(e *api.Entry) { e.Stamp = stamp }))
		}
		for _, kind := range []int{0, -1, -2, 3, 4, 23, 24, 255, 256, 257, 258, 1<<32 + 1, 1<<32 + 2, math.MaxInt64, math.MinInt64, math.MinInt64 + 1, math.MinInt64 + 2} {
			all = append(all, withOp(e, kind, "key", nil), withOp(e, kind, "key", []byte("v")))
		}
		for _, key := range wrongKeys() {
			all = append(all, withOp(e, api.OpDel, key, nil), withOp(e, api.OpPut, key, nil), withOp(e, api.OpPut, key, []byte("v")))
		}
		for _, length := range []int{41, 42, 64, 80, 255, 256, 257, 296, 1000, 1 << 16, 1<<16 + 40} {
			all = append(all, withOp(e, api.OpPut, "key", make([]byte, length)))
		}
		for _, length := range []int{1, 2, 39, 40, 41, 256, 1 << 16} {
			all = append(all, withOp(e, api.OpDel, "key", make([]byte, length)))
		}
	}
	return all
}

// wrongPlaces is an entry at places where there is none, and at the first one behind another.
func wrongPlaces(e api.Entry) []api.Entry {
	var all []api.Entry
	for _, seq := range []int{0, -1, -2, -200, 201, 202, 255, 256, 257, 1<<16 + 1, 1<<32 + 1, 1<<32 + 2, math.MaxInt64, math.MinInt64, math.MinInt64 + 1, math.MinInt64 + 2} {
		for _, prev := range [][32]byte{{}, {7}} {
			all = append(all, with(e, func(e *api.Entry) { e.Seq, e.Prev = seq, prev }))
		}
	}
	for i := range 32 {
		all = append(all, with(e, func(e *api.Entry) {
			e.Seq, e.Prev = 1, [32]byte{}
			e.Prev[i] = 1
		}))
	}
	return append(all, with(e, func(e *api.Entry) { e.Seq, e.Prev = 1, full() }))
}

// holdRight asks that an entry is a right one, with these bytes and this body, and is read.
func holdRight(t testing.TB, e api.Entry, want, body []byte) {
	t.Helper()
	if f := entry.Check(e); f != api.OK {
		t.Errorf("Check(%s): %v", short(e), f)
	}
	if b, f := entry.Bytes(e); !bytes.Equal(b, want) || f != api.OK {
		t.Errorf("Bytes(%s) = %x, %v, want %x", short(e), b, f, want)
	}
	if b, f := entry.Body(e); !bytes.Equal(b, body) || f != api.OK {
		t.Errorf("Body(%s) = %x, %v, want %x", short(e), b, f, body)
	}
	if id, f := entry.Id(e); id != sha256.Sum256(want) || id != sha.Sum(want) || f != api.OK {
		t.Errorf("Id(%s) = %x, %v", short(e), id, f)
	}
	if got, f := entry.Read(want); !alike(got, e) || f != api.OK {
		t.Errorf("Read(%x) = %s, %v, want %s", want, short(got), f, short(e))
	}
}

// holdIn asks that an entry is a right one, with what the chapter words.
func holdIn(t testing.TB, e api.Entry) {
	t.Helper()
	holdRight(t, e, wordedBytes(e), wordedBody(e))
}

// holdWrong asks that an entry is none: that it has no bytes, is not signed, not verified, and not read.
func holdWrong(t testing.TB, e api.Entry) {
	t.Helper()
	if f := entry.Check(e); f != api.ErrArg {
		t.Errorf("Check(%s): %v", short(e), f)
	}
	if b, f := entry.Bytes(e); len(b) != 0 || f != api.ErrArg {
		t.Errorf("Bytes(%s) = %x, %v", short(e), b, f)
	}
	if b, f := entry.Body(e); len(b) != 0 || f != api.ErrArg {
		t.Errorf("Body(%s) = %x, %v", short(e), b, f)
	}
	if id, f := entry.Id(e); id != [32]byte{} || f != api.ErrArg {
		t.Errorf("Id(%s) = %x, %v", short(e), id, f)
	}
	for _, kind := range []int{api.SuiteReal, api.SuiteOpen, 0, 3} {
		if got, f := entry.Sign(kind, [32]byte{7}, e); !isNone(got) || f != api.ErrArg {
			t.Errorf("Sign(%d, %s) = %s, %v", kind, short(e), short(got), f)
		}
		if entry.Verify(kind, e) {
			t.Errorf("Verify(%d, %s)", kind, short(e))
		}
	}
	holdNone(t, wordedBytes(e))
}

// holdEntry asks that an entry is what the chapter words.
func holdEntry(t testing.TB, e api.Entry) {
	t.Helper()
	if wordedRight(e) {
		holdIn(t, e)
	} else {
		holdWrong(t, e)
	}
}

// holdNone asks that bytes are those of no right entry.
func holdNone(t testing.TB, b []byte) {
	t.Helper()
	if e, f := entry.Read(b); !isNone(e) || f != api.ErrBytes {
		t.Errorf("Read(%s) = %s, %v", short(b), short(e), f)
	}
}

// holdBytes asks that bytes are read as the chapter words it, and written as they were.
func holdBytes(t testing.TB, b []byte) {
	t.Helper()
	if e, is := wordedRead(b); is {
		holdRight(t, e, b, wordedBody(e))
	} else {
		holdNone(t, b)
	}
}

// P11.1: an entry of an OpPut, and its bytes, body and id by hand.
func TestPutByHand(t *testing.T) {
	const author = "0102030405060708090a0b0c0d0e0f101112131415161718191a1b1c1d1e1f20"
	const prev = "65666768696a6b6c6d6e6f707172737475767778797a7b7c7d7e7f8081828384"
	const sig = "a1a2a3a4a5a6a7a8a9aaabacadaeafb0b1b2b3b4b5b6b7b8b9babbbcbdbebfc0" + "c1c2c3c4c5c6c7c8c9cacbcccdcecfd0d1d2d3d4d5d6d7d8d9dadbdcdddedfe0"
	const behind = "01" + "5820" + author + "02" + "5820" + prev + "1901f4" + "83" + "01" + "636b6579" + "43ff0076"
	want, _ := hex.DecodeString("87" + behind + "5840" + sig)
	body, _ := hex.DecodeString("86" + behind)
	holdRight(t, put(), want, body)
	const id = "a8ff7c8f8f257c1e526af02da9150e4a7cbd01c154372d805478d7cf0ef8a806"
	if got, _ := entry.Id(put()); hex.EncodeToString(got[:]) != id {
		t.Errorf("id %x", got)
	}
}

// P11.1: an entry of an OpDel, and its bytes, body and id by hand; the chapter's example.
func TestDelByHand(t *testing.T) {
	const author = "c9cacbcccdcecfd0d1d2d3d4d5d6d7d8d9dadbdcdddedfe0e1e2e3e4e5e6e7e8"
	const prev = "0000000000000000000000000000000000000000000000000000000000000000"
	const sig = "030405060708090a0b0c0d0e0f101112131415161718191a1b1c1d1e1f202122" + "232425262728292a2b2c2d2e2f303132333435363738393a3b3c3d3e3f404142"
	const behind = "01" + "5820" + author + "01" + "5820" + prev + "07" + "83" + "02" + "616b" + "40"
	want, _ := hex.DecodeString("87" + behind + "5840" + sig)
	body, _ := hex.DecodeString("86" + behind)
	holdRight(t, del(), want, body)
	const id = "071ff5d11ee0af0e07efdce55dc9b45aa114555bcfa04ec2c820411e391d377d"
	if got, _ := entry.Id(del()); hex.EncodeToString(got[:]) != id {
		t.Errorf("id %x", got)
	}
	for _, n := range []int{1, 2, 23} {
		for _, stamp := range []int{0, 1, 23} {
			if b, f := entry.Bytes(with(del(), func(e *api.Entry) { e.Seq, e.Stamp = n, stamp })); len(b) != 143 || f != api.OK {
				t.Errorf("Seq %d, Stamp %d: %d bytes, %v", n, stamp, len(b), f)
			}
		}
	}
	if b, _ := entry.Bytes(with(del(), func(e *api.Entry) { e.Seq, e.Stamp = 24, 24 })); len(b) != 145 {
		t.Errorf("Seq 24, Stamp 24: %d bytes", len(b))
	}
}

// P11.1: what goes into which item: entries by hand in which one field alone is another.
func TestFieldsByHand(t *testing.T) {
	const plain = "\x83\x02\x61k\x40"
	for i, c := range []struct {
		change func(e *api.Entry)
		was    string
		is     string
	}{
		{func(e *api.Entry) { e.Seq = 24 }, "\x01\x58\x20" + strings.Repeat("\x00", 32), "\x18\x18\x58\x20" + strings.Repeat("\x00", 32)},
		{func(e *api.Entry) { e.Seq = 200 }, "\x01\x58\x20" + strings.Repeat("\x00", 32), "\x18\xc8\x58\x20" + strings.Repeat("\x00", 32)},
		{func(e *api.Entry) { e.Stamp = 0 }, "\x07" + plain, "\x00" + plain},
		{func(e *api.Entry) { e.Stamp = 256 }, "\x07" + plain, "\x19\x01\x00" + plain},
		{func(e *api.Entry) { e.Stamp = 1 << 31 }, "\x07" + plain, "\x1a\x80\x00\x00\x00" + plain},
		{func(e *api.Entry) { e.Stamp = api.MaxNum }, "\x07" + plain, "\x1b\x7f\xff\xff\xff\xff\xff\xff\xff" + plain},
		{func(e *api.Entry) { e.Op.Key = "\u00e4\x00" }, plain, "\x83\x02\x63\xc3\xa4\x00\x40"},
		{func(e *api.Entry) { e.Op.Key = xs(16) }, plain, "\x83\x02\x70" + xs(16) + "\x40"},
		{func(e *api.Entry) { e.Op.Kind = api.OpPut }, plain, "\x83\x01\x61k\x40"},
		{func(e *api.Entry) { e.Op = api.Op{Kind: api.OpPut, Key: "k", Val: []byte(xs(23))} }, plain, "\x83\x01\x61k\x57" + xs(23)},
		{func(e *api.Entry) { e.Op = api.Op{Kind: api.OpPut, Key: "k", Val: []byte(xs(40))} }, plain, "\x83\x01\x61k\x58\x28" + xs(40)},
	} {
		bend := func(b []byte) []byte {
			if strings.Count(string(b), c.was) != 1 {
				t.Errorf("%d: %x", i, b)
			}
			return []byte(strings.Replace(string(b), c.was, c.is, 1))
		}
		b, _ := entry.Bytes(del())
		body, _ := entry.Body(del())
		holdRight(t, with(del(), c.change), bend(b), bend(body))
	}
}

// P11.1, P11.3: right entries, each field at its ends.
func TestRights(t *testing.T) {
	for _, e := range rights() {
		if !wordedRight(e) {
			t.Errorf("%s is none", short(e))
		}
		holdIn(t, e)
	}
}

// P11.1, P11.2: entries that are none, by one field alone: they have no bytes, no body, no id, and are neither signed, verified nor read.
func TestWrongs(t *testing.T) {
	for _, e := range wrongs() {
		if wordedRight(e) {
			t.Errorf("%s is right", short(e))
		}
		holdWrong(t, e)
	}
}

// P11.1: each Seq about those that may be, at which Prev is noughts, and is not.
func TestPlaces(t *testing.T) {
	for seq := -300; seq <= 600; seq++ {
		for _, prev := range [][32]byte{{}, {3}, {31: 0x80}} {
			holdEntry(t, with(del(), func(e *api.Entry) { e.Seq, e.Prev = seq, prev }))
		}
	}
}

// P11.1: each key of one byte, and each length of a key and of a Val, of both kinds and of those about them.
func TestOps(t *testing.T) {
	for c := range 256 {
		holdEntry(t, withOp(del(), api.OpDel, string([]byte{byte(c)}), nil))
		holdEntry(t, withOp(put(), api.OpPut, string([]byte{'a', byte(c)}), []byte{byte(c)}))
	}
	for kind := -1; kind <= 4; kind++ {
		for length := range 100 {
			holdEntry(t, withOp(put(), kind, xs(length), nil))
			holdEntry(t, withOp(del(), kind, "key", []byte(xs(length))))
			holdEntry(t, withOp(put(), kind, xs(length), []byte(xs(length))))
		}
	}
}

// P11.1: bytes that are cut short, at each place.
func TestCut(t *testing.T) {
	for _, e := range rights() {
		b := wordedBytes(e)
		for at := range b {
			holdNone(t, b[:at])
			if at > 0 {
				holdNone(t, b[at:])
			}
		}
		for _, body := range [][]byte{wordedBody(e), nil, {}} {
			holdNone(t, body)
		}
	}
}

// P11.1: bytes with a byte more, behind them and ahead, and at each place.
func TestByteMore(t *testing.T) {
	for _, e := range []api.Entry{put(), del()} {
		b := wordedBytes(e)
		for c := range 256 {
			holdNone(t, append(slices.Clone(b), byte(c)))
			holdNone(t, append([]byte{byte(c)}, b...))
			for at := range b {
				holdBytes(t, slices.Insert(slices.Clone(b), at, byte(c)))
			}
		}
		for at := range b {
			holdBytes(t, slices.Delete(slices.Clone(b), at, at+1))
		}
		holdNone(t, slices.Concat(b, b))
		holdNone(t, slices.Concat(b, make([]byte, 1<<15)))
		holdNone(t, slices.Concat(b, make([]byte, 1<<17)))
	}
}

// P11.1: bytes of which one is another: they are read as the entry that has these, or none.
func TestByteOther(t *testing.T) {
	for _, e := range []api.Entry{put(), del(), withOp(put(), api.OpPut, "\u00e4\u4e2d", []byte(xs(40)))} {
		b := wordedBytes(e)
		read := 0
		for at := range b {
			for c := range 256 {
				other := slices.Clone(b)
				other[at] = byte(c)
				holdBytes(t, other)
				if _, is := wordedRead(other); is {
					read++
				}
			}
		}
		if read < 96*255 {
			t.Errorf("%d alone are read", read)
		}
	}
}

// foreign is items that stand at no place of an entry, or at another one, by the kind of their token: each is right CBOR.
func foreign() map[int][][]byte {
	return map[int][][]byte{
		api.TokInt:   {number(0), number(1), number(2), number(3), number(24), number(200), number(500), number(math.MaxInt64)},
		api.TokNeg:   {number(-1), number(-2), number(-3), number(-25), number(-500), number(math.MinInt64)},
		api.TokBytes: {data(nil), data([]byte("k")), data(upTo(0, 2)), data(make([]byte, 32)), data(upTo(1, 32)), data(upTo(1, 64))},
		api.TokText:  {text(""), text("k"), text("key"), text(xs(16)), text(xs(32)), text(xs(64)), text(strings.Repeat("\x00", 32))},
		api.TokArray: {list(), list(number(1)), list(data(nil)), list(number(1), text("k")), list(number(1), text("k"), data(nil)), list(number(2), text("k"), data(nil)), list(number(1), text("k"), data(nil), number(0)), list(data(make([]byte, 32)))},
		api.TokMap:   {{0xa0}, slices.Concat([]byte{0xa1}, number(1), text("k")), slices.Concat([]byte{0xa1}, text("k"), data(nil)), slices.Concat([]byte{0xa3}, number(1), number(1), number(2), text("k"), number(3), data(nil))},
	}
}

// otherCbor is items that are none here: tags, floats, true, nothing, lengths that are not told, heads that are longer than needed.
func otherCbor() [][]byte {
	var all [][]byte
	for _, s := range []string{
		"\xf4", "\xf5", "\xf6", "\xf7", "\xe0", "\xe1", "\xf8\x20", "\xf9\x3c\x00", "\xfa\x3f\x80\x00\x00", "\xfb\x3f\xf0\x00\x00\x00\x00\x00\x00",
		"\xc1\x01", "\xc2\x41\x01", "\xd8\x18\x01", "\xff", "\x9f\xff", "\x9f\x01\x61k\x40\xff", "\x5f\xff", "\x7f\x61k\xff", "\xbf\xff", "\x5f\x58\x20" + strings.Repeat("\x00", 32) + "\xff",
		"\x18\x01", "\x18\x02", "\x19\x00\x02", "\x1a\x00\x00\x00\x02", "\x1b\x00\x00\x00\x00\x00\x00\x00\x02", "\x19\x00\xc8", "\x1b\x80\x00\x00\x00\x00\x00\x00\x00", "\x1b\xff\xff\xff\xff\xff\xff\xff\xff", "\x1b\xff\xff\xff\xff\xff\xff\xff\xfe", "\x3b\xff\xff\xff\xff\xff\xff\xff\xff", "\x1c", "\x1f",
		"\x59\x00\x20" + strings.Repeat("\x00", 32), "\x5a\x00\x00\x00\x20" + strings.Repeat("\x00", 32), "\x59\x00\x40" + strings.Repeat("\x00", 64), "\x58\x00", "\x58\x01k", "\x78\x01k", "\x79\x00\x01k", "\x98\x03\x01\x61k\x40", "\x83\x18\x01\x61k\x40", "\x83\x01\x78\x01k\x40", "\x83\x01\x61k\x58\x00", "\x83\x01\x61k\x58\x01v", "",
	} {
		all = append(all, []byte(s))
	}
	return all
}

// holdPlace asks that what is joined around an item of another kind than the place's, or of other CBOR, is none.
func holdPlace(t testing.TB, own int, join func(item []byte) []byte) {
	t.Helper()
	for kind, l := range foreign() {
		for _, item := range l {
			if kind != own {
				holdNone(t, join(item))
			} else {
				holdBytes(t, join(item))
			}
		}
	}
	for _, item := range otherCbor() {
		holdNone(t, join(item))
	}
}

// P11.1: other kinds of tokens at each place.
func TestOtherTokens(t *testing.T) {
	own := []int{api.TokInt, api.TokBytes, api.TokInt, api.TokBytes, api.TokInt, api.TokArray, api.TokBytes}
	ownOp := []int{api.TokInt, api.TokText, api.TokBytes}
	for _, e := range []api.Entry{put(), del(), with(put(), func(e *api.Entry) { e.Prev = [32]byte{} })} {
		for at := range own {
			holdPlace(t, own[at], func(item []byte) []byte {
				l := items(e)
				l[at] = item
				return list(l...)
			})
		}
		op := [][]byte{number(e.Op.Kind), text(e.Op.Key), data(e.Op.Val)}
		for at := range ownOp {
			holdPlace(t, ownOp[at], func(item []byte) []byte {
				o, l := slices.Clone(op), items(e)
				o[at] = item
				l[5] = list(o...)
				return list(l...)
			})
		}
		holdPlace(t, 0, func(item []byte) []byte { return item })
	}
}

// P11.1: arrays of six items and eight, of fewer and more, each one left away, doubled, in another's place; other things than arrays.
func TestOtherArrays(t *testing.T) {
	for _, e := range []api.Entry{put(), del()} {
		l := items(e)
		all := slices.Concat(l...)
		for n := range 64 {
			if n != 7 {
				holdNone(t, append(headOf(4, n), all...))
				holdNone(t, list(slices.Repeat(l, 10)[:n]...))
			}
			holdNone(t, append(headOf(5, n), all...))
		}
		for _, ahead := range []string{"", "\x98\x07", "\x99\x00\x07", "\x9a\x00\x00\x00\x07", "\x9b\x00\x00\x00\x00\x00\x00\x00\x07", "\x9f", "\xc1\x87", "\xd9\xd9\xf7\x87"} {
			holdNone(t, slices.Concat([]byte(ahead), all))
			holdNone(t, slices.Concat([]byte(ahead), all, []byte{0xff}))
		}
		for at := range l {
			holdNone(t, list(slices.Delete(slices.Clone(l), at, at+1)...))
			holdNone(t, list(slices.Insert(slices.Clone(l), at, l[at])...))
			for other := range l {
				swapped := slices.Clone(l)
				swapped[at], swapped[other] = l[other], l[at]
				holdBytes(t, list(swapped...))
			}
			for _, more := range foreign() {
				for _, item := range more {
					holdNone(t, list(slices.Insert(slices.Clone(l), at, item)...))
					holdNone(t, list(append(slices.Clone(l), item)...))
					holdNone(t, append(wordedBytes(e), item...))
				}
			}
		}
		b := wordedBytes(e)
		for _, whole := range [][]byte{list(b), list(b, b), data(b), append([]byte{0xa1}, append(b, b...)...), append(headOf(3, len(b)), b...)} {
			holdNone(t, whole)
		}
	}
}

// P11.1: each other first number.
func TestFirstNumber(t *testing.T) {
	for _, e := range []api.Entry{put(), del()} {
		l := items(e)
		for n := -300; n <= 300; n++ {
			l[0] = number(n)
			if n == 1 {
				holdRight(t, e, list(l...), list(l[:6]...))
			} else {
				holdNone(t, list(l...))
			}
		}
		for _, n := range []int{1 << 16, 1<<32 + 1, math.MaxInt64, math.MinInt64} {
			l[0] = number(n)
			holdNone(t, list(l...))
		}
	}
}

// P11.1: an Author, a Prev and a Sig that are shorter or longer than theirs.
func TestOtherLengths(t *testing.T) {
	for _, e := range []api.Entry{put(), del(), {Seq: 1, Op: api.Op{Kind: api.OpPut, Key: "k"}}, {Seq: 2, Op: api.Op{Kind: api.OpDel, Key: "k"}}} {
		for length := range 300 {
			for _, at := range []int{1, 3, 6} {
				own := map[int]int{1: 32, 3: 32, 6: 64}[at]
				for _, b := range [][]byte{make([]byte, length), upTo(1, length), slices.Concat(items(e)[at][2:], make([]byte, 300))[:length]} {
					l := items(e)
					l[at] = data(b)
					if length == own {
						holdBytes(t, list(l...))
					} else {
						holdNone(t, list(l...))
					}
				}
			}
		}
	}
}

// P11.1: an Op that is no array of three, or has other items, or stands with the entry's own.
func TestOtherOps(t *testing.T) {
	for _, e := range []api.Entry{put(), del()} {
		kind, key, val := number(e.Op.Kind), text(e.Op.Key), data(e.Op.Val)
		flat := slices.Concat(kind, key, val)
		for n := range 30 {
			for major := range 8 {
				if major == 4 && n == 3 {
					continue
				}
				l := items(e)
				l[5] = append(headOf(major, n), flat...)
				holdNone(t, list(l...))
			}
		}
		for _, op := range [][]byte{
			{}, list(), list(kind), list(key), list(val), list(kind, key), list(key, val), list(kind, val), list(kind, key, val, val), list(kind, key, key, val), list(kind, kind, key, val), list(kind, key, val, number(0)), list(kind, key, val, data(nil)), list(kind, key, val, list()),
			list(key, kind, val), list(kind, val, key), list(val, key, kind), list(key, val, kind), list(val, kind, key),
			list(list(kind, key, val)), list(list(kind), key, val), list(kind, list(key), val), list(kind, key, list(val)), list(kind, list(key, val)), list(list(kind, key), val), list(kind, key, val, list(kind, key, val)),
			list(kind, data([]byte(e.Op.Key)), val), list(kind, key, text(string(e.Op.Val[:0]))), data(flat), data(list(kind, key, val)), flat,
		} {
			l := items(e)
			l[5] = op
			holdNone(t, list(l...))
		}
		l := items(e)
		holdNone(t, list(l[0], l[1], l[2], l[3], l[4], kind, key, val, l[6]))
		holdNone(t, append(headOf(4, 7), slices.Concat(l[0], l[1], l[2], l[3], l[4], kind, key, val, l[6])...))
		holdNone(t, append(headOf(4, 7), slices.Concat(l[0], l[1], l[2], l[3], l[4], headOf(4, 4), kind, key, val, l[6])...))
	}
}

// P11.1: bytes that are no entry's at all.
func TestOtherBytes(t *testing.T) {
	for c := range 256 {
		holdNone(t, []byte{byte(c)})
		holdNone(t, bytes.Repeat([]byte{byte(c)}, 143))
		holdNone(t, bytes.Repeat([]byte{byte(c)}, 1<<16))
	}
	r := rand.New(rand.NewSource(1))
	for range 2000 {
		b := make([]byte, r.Intn(300))
		r.Read(b)
		holdNone(t, b)
		holdNone(t, append([]byte{0x87, 1, 0x58, 32}, b...))
	}
}

// anyKey is a key that may be.
func anyKey(r *rand.Rand) string {
	for {
		var s strings.Builder
		for range 1 + r.Intn(16) {
			s.WriteRune(rune(r.Intn(0x110000) >> (r.Intn(3) * 7)))
		}
		if s.Len() <= 16 {
			return s.String()
		}
	}
}

// anyEntry is any right entry.
func anyEntry(r *rand.Rand) api.Entry {
	e := api.Entry{Seq: 1 + r.Intn(200), Stamp: int(r.Uint64() >> (1 + r.Intn(63))), Op: api.Op{Kind: api.OpDel, Key: anyKey(r)}}
	r.Read(e.Author[:])
	r.Read(e.Sig[:])
	if e.Seq > 1 && r.Intn(5) > 0 {
		r.Read(e.Prev[:])
	}
	if r.Intn(3) > 0 {
		e.Op.Kind = api.OpPut
		e.Op.Val = make([]byte, r.Intn(41))
		r.Read(e.Op.Val)
	}
	return e
}

// P11.1, P11.3: any right entries: what is written is read, and what is read is written as it was.
func TestThereAndBack(t *testing.T) {
	r := rand.New(rand.NewSource(2))
	for range 5000 {
		e := anyEntry(r)
		holdIn(t, e)
		b, f := entry.Bytes(e)
		got, g := entry.Read(b)
		again, h := entry.Bytes(got)
		if f != api.OK || g != api.OK || h != api.OK || !alike(got, e) || !bytes.Equal(again, b) {
			t.Errorf("%s: %x, read as %s", short(e), b, short(got))
		}
	}
}

// P11.1, P11.3: bytes that were a right entry's, with bits turned about, bytes gone and doubled: they are read as they are written, or none.
func TestBentBytes(t *testing.T) {
	r := rand.New(rand.NewSource(3))
	for range 3000 {
		b := wordedBytes(anyEntry(r))
		for range 10 {
			at := r.Intn(len(b))
			other := slices.Clone(b)
			switch r.Intn(3) {
			case 0:
				other[at] ^= 1 << r.Intn(8)
			case 1:
				other = slices.Delete(other, at, at+1)
			default:
				other = slices.Insert(other, at, b[at])
			}
			holdBytes(t, other)
		}
	}
}

// P11.1: unlike entries have unlike bytes and ids, and bodies, unless it is but for their Sigs.
func TestUnlike(t *testing.T) {
	seen, bodies := map[string]api.Entry{}, map[string]api.Entry{}
	ids := map[[32]byte]api.Entry{}
	for _, e := range rights() {
		b, _ := entry.Bytes(e)
		body, _ := entry.Body(e)
		id, _ := entry.Id(e)
		if other, is := seen[string(b)]; is && !alike(e, other) {
			t.Errorf("%s, %s: their bytes are alike", short(e), short(other))
		}
		if other, is := ids[id]; is && !alike(e, other) {
			t.Errorf("%s, %s: their ids are alike", short(e), short(other))
		}
		unsigned := with(e, func(e *api.Entry) { e.Sig = [64]byte{} })
		if other, is := bodies[string(body)]; is && !alike(unsigned, other) {
			t.Errorf("%s, %s: their bodies are alike", short(e), short(other))
		}
		seen[string(b)], bodies[string(body)], ids[id] = e, unsigned, e
	}
	if len(seen) < 300 || len(ids) != len(seen) || len(bodies) >= len(seen) {
		t.Errorf("%d entries, %d ids, %d bodies", len(seen), len(ids), len(bodies))
	}
}

// holdSigned asks that Sign of an entry tells what the chapter words, and that this is verified, by that kind alone.
func holdSigned(t testing.TB, kind int, seed [32]byte, e api.Entry) api.Entry {
	t.Helper()
	public, _ := suite.Public(kind, seed)
	want := e
	want.Author = public
	want.Sig, _ = suite.Sign(kind, seed, wordedBody(want))
	got, f := entry.Sign(kind, seed, e)
	if f != api.OK || !alike(got, want) {
		t.Errorf("Sign(%d, %x, %s) = %s, %v, want %s", kind, seed, short(e), short(got), f, short(want))
	}
	holdVerified(t, kind, want)
	return got
}

// holdVerified asks that an entry is verified, by that kind alone.
func holdVerified(t testing.TB, kind int, e api.Entry) {
	t.Helper()
	for _, other := range append(wrongKinds(), kinds...) {
		if entry.Verify(other, e) != (other == kind) {
			t.Errorf("Verify(%d, %s) = %v, signed by kind %d", other, short(e), other != kind, kind)
		}
	}
}

// wrongKinds is numbers that are no kind of signature.
func wrongKinds() []int {
	return []int{0, -1, -2, 3, 4, 255, 257, 258, 1<<32 + 1, 1<<32 + 2, math.MaxInt64, math.MinInt64, math.MinInt64 + 1, math.MinInt64 + 2}
}

// seeds is those at the edges, and another one.
func seeds() [][32]byte { return [][32]byte{{}, {1}, {31: 1}, full(), [32]byte(upTo(77, 32))} }

// P11.2, P11.3: right entries are signed by each kind.
func TestSigns(t *testing.T) {
	for i, e := range rights() {
		holdSigned(t, api.SuiteOpen, seeds()[i%5], e)
		if i%9 == 0 {
			holdSigned(t, api.SuiteReal, seeds()[i%5], e)
		}
	}
	for _, seed := range seeds() {
		for _, kind := range kinds {
			holdSigned(t, kind, seed, put())
			holdSigned(t, kind, seed, del())
		}
	}
}

// P11.2: what is signed is the body with the seed's own Author, by others' Ed25519 and SHA-256.
func TestSignsByOthers(t *testing.T) {
	for _, seed := range seeds() {
		key := ed25519.NewKeyFromSeed(seed[:])
		want := put()
		want.Author = [32]byte(key[32:])
		want.Sig = [64]byte(ed25519.Sign(key, wordedBody(want)))
		if e, f := entry.Sign(api.SuiteReal, seed, put()); !alike(e, want) || f != api.OK {
			t.Errorf("seed %x: %s, %v", seed, short(e), f)
		}
		want.Author = sha256.Sum256(append([]byte{1}, seed[:]...))
		body := wordedBody(want)
		first := sha256.Sum256(slices.Concat([]byte{2}, want.Author[:], body))
		second := sha256.Sum256(slices.Concat([]byte{3}, want.Author[:], body))
		want.Sig = [64]byte(slices.Concat(first[:], second[:]))
		if e, f := entry.Sign(api.SuiteOpen, seed, put()); !alike(e, want) || f != api.OK {
			t.Errorf("seed %x: %s, %v", seed, short(e), f)
		}
	}
}

// P11.2: whatever Author and Sig stood there before, what is signed is the same.
func TestSignsAnew(t *testing.T) {
	for _, kind := range kinds {
		seed := [32]byte(upTo(50, 32))
		public, _ := suite.Public(kind, seed)
		for _, e := range []api.Entry{put(), del()} {
			want := holdSigned(t, kind, seed, e)
			for _, author := range [][32]byte{{}, {1}, {2}, full(), public, seed} {
				for _, sig := range [][64]byte{{}, {1}, fullSig(), want.Sig} {
					before := with(e, func(e *api.Entry) { e.Author, e.Sig = author, sig })
					if got, f := entry.Sign(kind, seed, before); !alike(got, want) || f != api.OK {
						t.Errorf("Sign(%d, %s) = %s, %v", kind, short(before), short(got), f)
					}
				}
			}
		}
	}
}

// P11.2: by a number that is no kind nothing is signed and nothing verified, be the entry right or not.
func TestNoKind(t *testing.T) {
	signed := [][]api.Entry{rights()[:5], {{}, withOp(put(), 3, "key", nil)}}
	for _, kind := range kinds {
		e, _ := entry.Sign(kind, [32]byte{5}, put())
		signed = append(signed, []api.Entry{e})
	}
	for _, kind := range wrongKinds() {
		for _, e := range slices.Concat(signed...) {
			for _, seed := range seeds() {
				if got, f := entry.Sign(kind, seed, e); !isNone(got) || f != api.ErrArg {
					t.Errorf("Sign(%d, %x, %s) = %s, %v", kind, seed, short(e), short(got), f)
				}
			}
			if entry.Verify(kind, e) {
				t.Errorf("Verify(%d, %s)", kind, short(e))
			}
		}
	}
}

// changes is changes of each field of an entry of an OpPut, after which it still is right.
func changes() []func(e *api.Entry) {
	return []func(e *api.Entry){
		func(e *api.Entry) { e.Seq++ }, func(e *api.Entry) { e.Seq-- }, func(e *api.Entry) { e.Seq = 200 }, func(e *api.Entry) { e.Seq, e.Prev = 1, [32]byte{} },
		func(e *api.Entry) { e.Stamp++ }, func(e *api.Entry) { e.Stamp-- }, func(e *api.Entry) { e.Stamp = 0 }, func(e *api.Entry) { e.Stamp = api.MaxNum }, func(e *api.Entry) { e.Stamp, e.Seq = e.Seq, e.Stamp%200 },
		func(e *api.Entry) { e.Prev = [32]byte{} }, func(e *api.Entry) { e.Prev = full() }, func(e *api.Entry) { e.Prev = e.Author }, func(e *api.Entry) { e.Prev, e.Author = e.Author, e.Prev },
		func(e *api.Entry) { e.Op.Kind, e.Op.Val = api.OpDel, nil }, func(e *api.Entry) { e.Op.Val = nil }, func(e *api.Entry) { e.Op.Val = append(e.Op.Val, 0) }, func(e *api.Entry) { e.Op.Val = e.Op.Val[1:] },
		func(e *api.Entry) { e.Op.Key += "x" }, func(e *api.Entry) { e.Op.Key = e.Op.Key[1:] }, func(e *api.Entry) { e.Op.Key = strings.ToUpper(e.Op.Key) }, func(e *api.Entry) { e.Op.Key = xs(16) },
		func(e *api.Entry) { e.Op.Key, e.Op.Val = e.Op.Key[:2], append([]byte(e.Op.Key[2:]), e.Op.Val...) }, func(e *api.Entry) { e.Op.Key, e.Op.Val = string(e.Op.Val[2:]), []byte(e.Op.Key) },
		func(e *api.Entry) { e.Sig = [64]byte{} }, func(e *api.Entry) { e.Sig = fullSig() }, func(e *api.Entry) { copy(e.Sig[:32], e.Sig[32:]) }, func(e *api.Entry) { copy(e.Sig[32:], e.Sig[:32]) },
		func(e *api.Entry) { e.Author = [32]byte{} }, func(e *api.Entry) { e.Author = [32]byte{1} }, func(e *api.Entry) { e.Author = full() }, func(e *api.Entry) { e.Author = e.Prev }, func(e *api.Entry) { e.Author = [32]byte(e.Sig[:32]) },
	}
}

// P11.2: with any one field changed, nothing is verified; signed anew, it is.
func TestChanged(t *testing.T) {
	for _, kind := range kinds {
		signed := holdSigned(t, kind, [32]byte{9}, with(put(), func(e *api.Entry) { e.Seq = 3 }))
		for i, change := range changes() {
			e := with(signed, change)
			if !wordedRight(e) || alike(e, signed) || entry.Verify(kind, e) || entry.Verify(3-kind, e) {
				t.Errorf("kind %d, change %d: %s is verified, or no change", kind, i, short(e))
			}
			holdSigned(t, kind, [32]byte{9}, e)
		}
		signed = holdSigned(t, kind, [32]byte{9}, withOp(del(), api.OpDel, "k", nil))
		if entry.Verify(kind, withOp(signed, api.OpPut, "k", nil)) {
			t.Errorf("kind %d: a put is verified for a delete", kind)
		}
	}
}

// P11.2: with any one bit of Author, Prev, Key, Val or Sig turned about, nothing is verified.
func TestTurned(t *testing.T) {
	for _, kind := range kinds {
		signed := holdSigned(t, kind, [32]byte{10}, put())
		step := map[int]int{api.SuiteReal: 5, api.SuiteOpen: 1}[kind]
		turn := func(name string, length int, change func(e *api.Entry, at int, bit byte)) {
			for i := 0; i < 8*length; i += step {
				e := with(signed, func(e *api.Entry) { change(e, i/8, 1<<(i%8)) })
				if entry.Verify(kind, e) {
					t.Errorf("kind %d: bit %d of %s turned about", kind, i, name)
				}
			}
		}
		turn("Author", 32, func(e *api.Entry, at int, bit byte) { e.Author[at] ^= bit })
		turn("Prev", 32, func(e *api.Entry, at int, bit byte) { e.Prev[at] ^= bit })
		turn("Sig", 64, func(e *api.Entry, at int, bit byte) { e.Sig[at] ^= bit })
		turn("Val", 3, func(e *api.Entry, at int, bit byte) { e.Op.Val[at] ^= bit })
		turn("Key", 3, func(e *api.Entry, at int, bit byte) {
			key := []byte(e.Op.Key)
			key[at] ^= bit
			e.Op.Key = string(key)
		})
		holdVerified(t, kind, signed)
	}
}

// P11.2: an entry is verified by the Author who stands there alone, whoever signed it.
func TestOtherAuthors(t *testing.T) {
	for _, kind := range kinds {
		for i, a := range seeds() {
			signed := holdSigned(t, kind, a, put())
			for k, b := range seeds() {
				public, _ := suite.Public(kind, b)
				e := with(signed, func(e *api.Entry) { e.Author = public })
				if entry.Verify(kind, e) != (i == k) {
					t.Errorf("kind %d: signed by %x, of %x", kind, a, b)
				}
				e.Sig, _ = suite.Sign(kind, a, wordedBody(e))
				// Anybody may make a signature of SuiteOpen, but by the public key that they have.
				if entry.Verify(kind, e) != (i == k) {
					t.Errorf("kind %d: signed by %x as %x", kind, a, b)
				}
			}
		}
	}
}

// P11.2: a signature is of the body: one of the bytes, of the id or of the items is none.
func TestOtherTexts(t *testing.T) {
	for _, kind := range kinds {
		seed := [32]byte{11}
		signed := holdSigned(t, kind, seed, put())
		unsigned := with(signed, func(e *api.Entry) { e.Sig = [64]byte{} })
		id := sha256.Sum256(wordedBytes(unsigned))
		sum := sha256.Sum256(wordedBody(signed))
		for i, text := range [][]byte{nil, wordedBytes(unsigned), wordedBytes(signed), id[:], sum[:], wordedBody(signed)[1:], wordedBody(put()), slices.Concat([]byte{0x87}, wordedBody(signed)[1:]), data(wordedBody(signed))} {
			e := unsigned
			e.Sig, _ = suite.Sign(kind, seed, text)
			if entry.Verify(kind, e) {
				t.Errorf("kind %d: verified with a signature of text %d", kind, i)
			}
		}
	}
}

// P11.2: an entry that is not right is not verified, though its Sig is one of what would be its body, or of no byte.
func TestWrongsAreNotVerified(t *testing.T) {
	for i, e := range wrongs() {
		for _, kind := range kinds {
			if kind == api.SuiteReal && i%9 > 0 {
				continue
			}
			e.Author, _ = suite.Public(kind, [32]byte{12})
			for _, text := range [][]byte{wordedBody(e), nil} {
				e.Sig, _ = suite.Sign(kind, [32]byte{12}, text)
				if entry.Verify(kind, e) {
					t.Errorf("Verify(%d, %s)", kind, short(e))
				}
			}
		}
	}
}

// P11.3: what is signed is verified, and so it is when it was written and read.
func TestSignedThereAndBack(t *testing.T) {
	r := rand.New(rand.NewSource(4))
	for i := range 600 {
		kind := kinds[min(i%10, 1)]
		var seed [32]byte
		r.Read(seed[:])
		e, f := entry.Sign(kind, seed, anyEntry(r))
		b, g := entry.Bytes(e)
		got, h := entry.Read(b)
		if f != api.OK || g != api.OK || h != api.OK || !alike(e, got) || !entry.Verify(kind, got) || entry.Verify(3-kind, got) {
			t.Errorf("kind %d, seed %x: %s, %s", kind, seed, short(e), short(got))
		}
		again, _ := entry.Sign(kind, seed, got)
		if !alike(again, got) {
			t.Errorf("kind %d, seed %x: signed twice it is another: %s, %s", kind, seed, short(got), short(again))
		}
	}
}

// roomy is an entry alike, with room behind its Val, and something there.
func roomy(r *rand.Rand, e api.Entry) api.Entry {
	room := make([]byte, len(e.Op.Val)+70)
	r.Read(room)
	copy(room, e.Op.Val)
	e.Op.Val = room[:len(e.Op.Val)]
	return e
}

// spoil writes over bytes and the room behind them.
func spoil(b []byte) {
	b = b[:cap(b)]
	for i := range b {
		b[i] ^= 0xff
	}
}

// R2, R6: what is handed in stays as it was, its spare room too, and the room is not read.
func TestStays(t *testing.T) {
	r := rand.New(rand.NewSource(5))
	for i, plain := range append(rights(), wrongs()...) {
		e := roomy(r, plain)
		room := e.Op.Val[:cap(e.Op.Val)]
		before := slices.Clone(room)
		kind := kinds[min(i%20, 1)]
		b, _ := entry.Bytes(e)
		body, _ := entry.Body(e)
		id, _ := entry.Id(e)
		signed, f := entry.Sign(kind, [32]byte{13}, e)
		if entry.Check(e) != f || entry.Verify(kind, e) || !bytes.Equal(room, before) {
			t.Fatalf("%s: the Val has changed", short(plain))
		}
		clear(room[len(e.Op.Val):])
		otherBytes, _ := entry.Bytes(e)
		otherBody, _ := entry.Body(e)
		otherId, _ := entry.Id(e)
		other, g := entry.Sign(kind, [32]byte{13}, e)
		if !bytes.Equal(b, otherBytes) || !bytes.Equal(body, otherBody) || id != otherId || !alike(signed, other) || f != g {
			t.Fatalf("%s: the room behind the Val counts", short(plain))
		}
	}
}

// R2, R6: the bytes that are read stay as they were, what is behind them, too, and that is not read.
func TestBytesStay(t *testing.T) {
	r := rand.New(rand.NewSource(6))
	for _, e := range []api.Entry{put(), del(), rights()[len(rights())-1]} {
		b := wordedBytes(e)
		room := append(slices.Clone(b), make([]byte, 100)...)
		r.Read(room[len(b):])
		before := slices.Clone(room)
		for end := range room {
			got, f := entry.Read(room[:end])
			want, is := wordedRead(slices.Clip(slices.Clone(room[:end])))
			if !bytes.Equal(room, before) || !alike(got, want) || is != (f == api.OK) {
				t.Fatalf("Read(%x): the bytes have changed, or what is behind them counts", room[:end])
			}
		}
	}
}

// R2: what is answered shares no memory with what was handed in, nor with another answer, its spare room neither.
func TestShares(t *testing.T) {
	r := rand.New(rand.NewSource(7))
	for _, plain := range rights() {
		e := roomy(r, plain)
		before := slices.Clone(e.Op.Val[:cap(e.Op.Val)])
		one, _ := entry.Bytes(e)
		two, _ := entry.Bytes(e)
		oneBody, _ := entry.Body(e)
		twoBody, _ := entry.Body(e)
		first, _ := entry.Sign(api.SuiteOpen, [32]byte{14}, e)
		second, _ := entry.Sign(api.SuiteOpen, [32]byte{14}, e)
		spoil(one)
		spoil(oneBody)
		spoil(first.Op.Val)
		if !bytes.Equal(e.Op.Val[:cap(e.Op.Val)], before) {
			t.Fatalf("%s: an answer shares memory with the entry", short(plain))
		}
		spoil(e.Op.Val)
		if !bytes.Equal(two, wordedBytes(plain)) || !bytes.Equal(twoBody, wordedBody(plain)) || !bytes.Equal(second.Op.Val, plain.Op.Val) || !entry.Verify(api.SuiteOpen, second) {
			t.Fatalf("%s: two answers share memory, or one hangs on the entry", short(plain))
		}
		room := append(slices.Clone(two), upTo(0, 50)...)
		kept := slices.Clone(room)
		read, _ := entry.Read(room[:len(two)])
		again, _ := entry.Read(room[:len(two)])
		spoil(read.Op.Val)
		if !bytes.Equal(room, kept) || !alike(again, plain) {
			t.Fatalf("Read(%x) shares memory", two)
		}
		spoil(room)
		if !alike(again, plain) {
			t.Fatalf("Read(%x) hangs on what was handed in", two)
		}
	}
}

// R3: nil and no byte mean the same, and nothing is kept from call to call, be it right or wrong.
func TestAlike(t *testing.T) {
	wrong := wrongs()
	for i, e := range rights() {
		holdWrong(t, wrong[i%len(wrong)])
		holdNone(t, wordedBytes(e)[:50])
		if len(e.Op.Val) == 0 {
			e.Op.Val = [][]byte{nil, {}, []byte("abc")[:0]}[i%3]
		}
		holdIn(t, e)
		holdIn(t, e)
	}
}

// P11.1: what is written is an item of layer 10, of eleven tokens, and the body one of ten.
func TestRows(t *testing.T) {
	for _, e := range rights() {
		b, _ := entry.Bytes(e)
		body, _ := entry.Body(e)
		l, f := cbor.Decode(b)
		k, g := cbor.Decode(body)
		if f != api.OK || g != api.OK || len(l) != 11 || len(k) != 10 || l[0].N != 7 || k[0].N != 6 {
			t.Errorf("%s: %d tokens, %d of the body", short(e), len(l), len(k))
		}
	}
}

// P11.1 to P11.3: any bytes; any entry.
func FuzzEntry(f *testing.F) {
	for _, e := range []api.Entry{put(), del()} {
		f.Add(wordedBytes(e), e.Seq, e.Stamp, e.Op.Kind, e.Op.Key, e.Op.Val, e.Prev[:], 1)
	}
	f.Add([]byte{0x87, 1}, 0, -1, 3, "\xff", []byte(xs(41)), []byte{1}, 3)
	f.Fuzz(func(t *testing.T, b []byte, seq, stamp, opKind int, key string, val, prev []byte, kind int) {
		holdBytes(t, b)
		e := api.Entry{Seq: seq, Stamp: stamp, Op: api.Op{Kind: opKind, Key: key, Val: val}}
		copy(e.Prev[:], prev)
		copy(e.Author[:], b)
		copy(e.Sig[:], b)
		holdEntry(t, e)
		if wordedRight(e) && slices.Contains(kinds, kind) {
			holdSigned(t, kind, e.Author, e)
		}
	})
}
