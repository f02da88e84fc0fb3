package head_test

import (
	"bytes"
	"encoding/binary"
	"math"
	"math/rand"
	"slices"
	"testing"

	"codicil/api"
	"codicil/head"
)

// wordedHead is the head as the chapter words it, of a major type and number that may be.
func wordedHead(major, n int) []byte {
	first := byte(major * 32)
	switch u := uint64(n); {
	case n < 24:
		return []byte{first + byte(n)}
	case n < 256:
		return []byte{first + 24, byte(n)}
	case n < 65536:
		return binary.BigEndian.AppendUint16([]byte{first + 25}, uint16(u))
	case n < 4294967296:
		return binary.BigEndian.AppendUint32([]byte{first + 26}, uint32(u))
	default:
		return binary.BigEndian.AppendUint64([]byte{first + 27}, u)
	}
}

// wordedGet finds the head at a place as the chapter words it: of all that may stand there, the one that does.
func wordedGet(b []byte, at int) (major, n, next int, e api.Errno) {
	if at < 0 || at > len(b) {
		return 0, 0, 0, api.ErrArg
	}
	rest := b[at:]
	for size := 1; size <= min(9, len(rest)); size++ {
		var last [8]byte
		copy(last[9-size:], rest[1:size])
		told := binary.BigEndian.Uint64(last[:])
		if size == 1 {
			told = uint64(rest[0] % 32)
		}
		if told > math.MaxInt64 {
			continue
		}
		if bytes.Equal(wordedHead(int(rest[0]/32), int(told)), rest[:size]) {
			return int(rest[0] / 32), int(told), at + size, api.OK
		}
	}
	return 0, 0, 0, api.ErrBytes
}

// edges is the numbers about the ends of each form, and about each power of 2, rising.
func edges() []int {
	all := []int{0, 1, 2, 22, 23, 24, 25, 254, 255, 256, 257, 500, 65534, 65535, 65536, 65537, 1<<32 - 2, 1<<32 - 1, 1 << 32, 1<<32 + 1, api.MaxNum - 1, api.MaxNum}
	for power := 3; power < 63; power++ {
		all = append(all, 1<<power-1, 1<<power, 1<<power+1)
	}
	slices.Sort(all)
	return slices.Compact(all)
}

// others is any numbers, of each length in bits.
func others(r *rand.Rand, of int) []int {
	var all []int
	for length := range 64 {
		for range of {
			all = append(all, int(r.Uint64()>>(64-length)))
		}
	}
	return all
}

// textOf is any text of so many bytes.
func textOf(r *rand.Rand, length int) []byte {
	text := make([]byte, length)
	r.Read(text)
	return text
}

// aheads is what heads are put behind: no bytes, in each way, and some, with room behind them and without.
func aheads(r *rand.Rand) [][]byte {
	return [][]byte{nil, {}, textOf(r, 30)[:0], textOf(r, 9)[9:], {0}, {0xff}, textOf(r, 7), textOf(r, 40)[:5], textOf(r, 40)[3:9:9], textOf(r, 300)}
}

// put is a head behind b, which may be.
func put(t testing.TB, b []byte, major, n int) []byte {
	t.Helper()
	got, e := head.Put(b, major, n)
	if e != api.OK {
		t.Errorf("Put of %d, %d: %v", major, n, e)
	}
	return got
}

// holdPut asks that a head is put behind b as the chapter words it, and got again.
func holdPut(t testing.TB, b []byte, major, n int) {
	t.Helper()
	got := put(t, b, major, n)
	if !bytes.Equal(got, slices.Concat(b, wordedHead(major, n))) {
		t.Errorf("Put of %d, %d behind %x: %x", major, n, b, got)
	}
	for _, behind := range [][]byte{nil, {0}, {0xff, 0xff}} {
		holdGet(t, slices.Concat(got, behind), len(b), major, n, len(got))
	}
}

// holdGet asks that this head stands at a place.
func holdGet(t testing.TB, b []byte, at, major, n, next int) {
	t.Helper()
	gotMajor, gotN, gotNext, e := head.Get(b, at)
	if gotMajor != major || gotN != n || gotNext != next || e != api.OK {
		t.Errorf("Get(%x, %d) = %d, %d, %d, %v, want %d, %d, %d", b, at, gotMajor, gotN, gotNext, e, major, n, next)
	}
}

// holdNone asks that at a place there is this error, and nothing beside it.
func holdNone(t testing.TB, b []byte, at int, want api.Errno) {
	t.Helper()
	if major, n, next, e := head.Get(b, at); major != 0 || n != 0 || next != 0 || e != want {
		t.Errorf("Get(%x, %d) = %d, %d, %d, %v, want %v", b, at, major, n, next, e, want)
	}
}

// holdAlike asks that what stands at a place is what the chapter words.
func holdAlike(t testing.TB, b []byte, at int) {
	t.Helper()
	major, n, next, e := wordedGet(b, at)
	if e != api.OK {
		holdNone(t, b, at, e)
		return
	}
	holdGet(t, b, at, major, n, next)
}

// P9.1: heads byte by byte, those that RFC 8949 shows in its Appendix A among them.
func TestPutKnown(t *testing.T) {
	for _, c := range []struct {
		major, n int
		want     []byte
	}{
		{0, 0, []byte{0x00}},
		{0, 1, []byte{0x01}},
		{0, 10, []byte{0x0a}},
		{0, 23, []byte{0x17}},
		{0, 24, []byte{0x18, 0x18}},
		{0, 25, []byte{0x18, 0x19}},
		{0, 100, []byte{0x18, 0x64}},
		{0, 255, []byte{0x18, 0xff}},
		{0, 256, []byte{0x19, 0x01, 0x00}},
		{0, 500, []byte{0x19, 0x01, 0xf4}},
		{0, 1000, []byte{0x19, 0x03, 0xe8}},
		{0, 65535, []byte{0x19, 0xff, 0xff}},
		{0, 65536, []byte{0x1a, 0x00, 0x01, 0x00, 0x00}},
		{0, 1000000, []byte{0x1a, 0x00, 0x0f, 0x42, 0x40}},
		{0, 1<<32 - 1, []byte{0x1a, 0xff, 0xff, 0xff, 0xff}},
		{0, 1 << 32, []byte{0x1b, 0x00, 0x00, 0x00, 0x01, 0x00, 0x00, 0x00, 0x00}},
		{0, 1000000000000, []byte{0x1b, 0x00, 0x00, 0x00, 0xe8, 0xd4, 0xa5, 0x10, 0x00}},
		{0, api.MaxNum, []byte{0x1b, 0x7f, 0xff, 0xff, 0xff, 0xff, 0xff, 0xff, 0xff}},
		{1, 0, []byte{0x20}},
		{1, 9, []byte{0x29}},
		{1, 99, []byte{0x38, 0x63}},
		{1, 999, []byte{0x39, 0x03, 0xe7}},
		{2, 0, []byte{0x40}},
		{2, 4, []byte{0x44}},
		{2, 32, []byte{0x58, 0x20}},
		{3, 0, []byte{0x60}},
		{3, 1, []byte{0x61}},
		{4, 0, []byte{0x80}},
		{4, 3, []byte{0x83}},
		{4, 25, []byte{0x98, 0x19}},
		{5, 0, []byte{0xa0}},
		{5, 2, []byte{0xa2}},
		{6, 1, []byte{0xc1}},
		{6, 23, []byte{0xd7}},
		{6, 32, []byte{0xd8, 0x20}},
		{7, 20, []byte{0xf4}},
		{7, 255, []byte{0xf8, 0xff}},
		{7, 0x0102030405060708, []byte{0xfb, 1, 2, 3, 4, 5, 6, 7, 8}},
	} {
		if got := put(t, nil, c.major, c.n); !bytes.Equal(got, c.want) {
			t.Errorf("Put(nil, %d, %d) = %x, want %x", c.major, c.n, got, c.want)
		}
		holdGet(t, c.want, 0, c.major, c.n, len(c.want))
	}
}

// P9.1, P9.2: every major type at the numbers about the ends of each form, behind no bytes and behind some.
func TestEdges(t *testing.T) {
	r := rand.New(rand.NewSource(1))
	for _, b := range aheads(r) {
		for major := range 8 {
			for _, n := range edges() {
				holdPut(t, b, major, n)
			}
		}
	}
}

// P9.1, P9.2: any numbers, and each of the lesser ones.
func TestOthers(t *testing.T) {
	r := rand.New(rand.NewSource(2))
	for major := range 8 {
		for _, n := range others(r, 30) {
			holdPut(t, textOf(r, r.Intn(20)), major, n)
		}
		for n := range 1 << 10 {
			holdPut(t, nil, major, n)
		}
	}
}

// P9.1: heads one behind the other are got one behind the other.
func TestRow(t *testing.T) {
	r := rand.New(rand.NewSource(3))
	numbers := append(edges(), others(r, 4)...)
	var b []byte
	for i, n := range numbers {
		b = put(t, b, i%8, n)
	}
	at := 0
	for i, n := range numbers {
		next := at + len(wordedHead(i%8, n))
		holdGet(t, b, at, i%8, n, next)
		at = next
	}
	if at != len(b) {
		t.Errorf("%d of %d bytes", at, len(b))
	}
}

// P9.1: ErrArg, and no bytes, for what is no major type, or for a number below 0, whatever is ahead.
func TestPutWrong(t *testing.T) {
	r := rand.New(rand.NewSource(4))
	wrong := [][2]int{{math.MinInt, math.MinInt}, {math.MaxInt, math.MinInt}, {-1, -1}, {8, -1}}
	for _, major := range []int{-1, -2, -8, -256, 8, 9, 16, 31, 32, 255, 256, 263, 1 << 32, math.MaxInt, math.MinInt, math.MinInt + 7} {
		for _, n := range []int{0, 23, 24, 500, 1 << 32, api.MaxNum} {
			wrong = append(wrong, [2]int{major, n})
		}
	}
	for major := range 8 {
		for _, n := range []int{-1, -2, -24, -25, -256, -65536, -1 << 32, math.MinInt + 1, math.MinInt} {
			wrong = append(wrong, [2]int{major, n})
		}
	}
	for _, b := range aheads(r) {
		for _, c := range wrong {
			if got, e := head.Put(b, c[0], c[1]); len(got) != 0 || e != api.ErrArg {
				t.Errorf("Put of %d, %d behind %x: %x, %v", c[0], c[1], b, got, e)
			}
		}
	}
}

// P9.1: ErrArg below 0 and beyond the end, whatever stands there; at the end no head, and no ErrArg.
func TestGetPlaces(t *testing.T) {
	r := rand.New(rand.NewSource(5))
	for _, b := range append(aheads(r), []byte{0, 0, 0}, put(t, nil, 2, 1<<40)) {
		for _, at := range []int{-1, -2, -9, math.MinInt, math.MinInt + 1, len(b) + 1, len(b) + 2, len(b) + 9, math.MaxInt, math.MaxInt - 1} {
			holdNone(t, b, at, api.ErrArg)
		}
		holdNone(t, b, len(b), api.ErrBytes)
		for at := -3; at <= len(b)+3; at++ {
			holdAlike(t, b, at)
		}
	}
}

// R6: what lies behind the length is no part of a head, and no place of it may be asked for.
func TestGetRoom(t *testing.T) {
	for major := range 8 {
		for _, n := range edges() {
			b := wordedHead(major, n)
			for length := range b {
				holdNone(t, b[:length], length, api.ErrBytes)
				holdNone(t, b[:length], length+1, api.ErrArg)
			}
		}
	}
}

// P9.1: heads cut short at each place are none, behind no bytes and behind some.
func TestGetCut(t *testing.T) {
	r := rand.New(rand.NewSource(6))
	for major := range 8 {
		for _, n := range edges() {
			for _, ahead := range [][]byte{nil, {0}, textOf(r, 11)} {
				b := slices.Concat(ahead, wordedHead(major, n))
				for length := len(ahead); length < len(b); length++ {
					holdNone(t, b[:length], len(ahead), api.ErrBytes)
					holdNone(t, slices.Clone(b[:length]), len(ahead), api.ErrBytes)
				}
				holdGet(t, b, len(ahead), major, n, len(b))
			}
		}
	}
}

// P9.1: each number stands in its shortest form alone: of all five forms one is a head, if it has room for the number.
func TestGetLonger(t *testing.T) {
	r := rand.New(rand.NewSource(7))
	for major := range 8 {
		for _, n := range append(edges(), others(r, 3)...) {
			right := wordedHead(major, n)
			first, eight := byte(major<<5), binary.BigEndian.AppendUint64(nil, uint64(n))
			for i, size := range []int{1, 2, 4, 8} {
				form := slices.Concat([]byte{first + 24 + byte(i)}, eight[8-size:])
				if size < 8 && n>>(8*size) != 0 {
					continue
				}
				if bytes.Equal(form, right) {
					holdGet(t, form, 0, major, n, len(form))
					continue
				}
				holdNone(t, form, 0, api.ErrBytes)
				holdNone(t, append(form, 0, 0), 0, api.ErrBytes)
			}
		}
	}
}

// P9.1: a first byte of 28 to 31 in the five low bits is no head, whatever is behind it.
func TestGetNoFirst(t *testing.T) {
	r := rand.New(rand.NewSource(8))
	for major := range 8 {
		for low := 28; low < 32; low++ {
			for length := range 140 {
				b := slices.Concat([]byte{byte(major<<5 | low)}, textOf(r, length))
				holdNone(t, b, 0, api.ErrBytes)
			}
			holdNone(t, slices.Concat([]byte{byte(major<<5 | low)}, wordedHead(0, api.MaxNum)), 0, api.ErrBytes)
		}
	}
}

// P9.1: a number above MaxNum is none: from 2^63 on, to 2^64 - 1.
func TestGetTooGreat(t *testing.T) {
	r := rand.New(rand.NewSource(9))
	great := []uint64{1 << 63, 1<<63 + 1, 1<<63 + 23, 1<<63 + 24, 1<<63 + 1<<32, 1<<63 + 1<<62, math.MaxUint64, math.MaxUint64 - 1, math.MaxUint64 - 23}
	for range 100 {
		great = append(great, r.Uint64()|1<<63)
	}
	for major := range 8 {
		for _, u := range great {
			b := binary.BigEndian.AppendUint64([]byte{byte(major<<5 | 27)}, u)
			holdNone(t, b, 0, api.ErrBytes)
			holdNone(t, append(b, 0), 0, api.ErrBytes)
		}
		holdGet(t, binary.BigEndian.AppendUint64([]byte{byte(major<<5 | 27)}, math.MaxInt64), 0, major, api.MaxNum, 9)
	}
}

// P9.1: every text of one byte and of two, and every one of three with a first byte that asks for two more.
func TestGetShort(t *testing.T) {
	for one := range 256 {
		holdAlike(t, []byte{byte(one)}, 0)
		for two := range 256 {
			holdAlike(t, []byte{byte(one), byte(two)}, 0)
			holdAlike(t, []byte{byte(one), byte(two)}, 1)
		}
	}
	for major := range 8 {
		for n := range 1 << 16 {
			holdAlike(t, []byte{byte(major<<5 | 25), byte(n >> 8), byte(n)}, 0)
		}
	}
}

// P9.1: every first byte, with any bytes behind it, noughts and ones among them, at each place.
func TestGetAny(t *testing.T) {
	r := rand.New(rand.NewSource(10))
	for first := range 256 {
		for length := range 12 {
			for _, rest := range [][]byte{textOf(r, length), make([]byte, length), bytes.Repeat([]byte{0xff}, length), append(make([]byte, length/2), textOf(r, length-length/2)...)} {
				b := slices.Concat([]byte{byte(first)}, rest)
				for at := -1; at <= len(b)+1; at++ {
					holdAlike(t, b, at)
				}
			}
		}
	}
}

// P9.2: of two numbers of one major type the lesser one's head is ahead, as bytes, and none is a beginning of another.
func TestOrder(t *testing.T) {
	r := rand.New(rand.NewSource(11))
	numbers := append(edges(), others(r, 4)...)
	slices.Sort(numbers)
	numbers = slices.Compact(numbers)
	for major := range 8 {
		heads := make([][]byte, len(numbers))
		for i, n := range numbers {
			heads[i] = put(t, nil, major, n)
		}
		for i, a := range heads {
			for k, b := range heads {
				if bytes.Compare(a, b) != min(1, max(-1, i-k)) {
					t.Errorf("%d: heads of %d and %d: %x, %x", major, numbers[i], numbers[k], a, b)
				}
				if i != k && bytes.HasPrefix(b, a) {
					t.Errorf("%d: the head of %d is a beginning of that of %d", major, numbers[i], numbers[k])
				}
			}
		}
	}
}

// P9.2: unlike major types have unlike heads, and the lesser one's are ahead.
func TestMajors(t *testing.T) {
	for major := range 7 {
		for _, n := range edges() {
			for _, m := range edges() {
				if a, b := put(t, nil, major, n), put(t, nil, major+1, m); bytes.Compare(a, b) >= 0 {
					t.Errorf("heads of %d, %d and %d, %d: %x, %x", major, n, major+1, m, a, b)
				}
			}
		}
	}
}

// R2, R6: what is handed in stays as it was, its spare room too, and none of it is read.
func TestStays(t *testing.T) {
	r := rand.New(rand.NewSource(12))
	for _, length := range []int{0, 1, 5, 64} {
		for major := -1; major <= 8; major++ {
			for _, n := range append(edges(), -1, math.MinInt) {
				room := textOf(r, length+40)
				before := slices.Clone(room)
				got, _ := head.Put(room[:length], major, n)
				head.Get(room[:length], length)
				head.Get(room[:length], 0)
				if !bytes.Equal(room, before) {
					t.Fatalf("Put of %d, %d behind %d bytes: what was handed in has changed", major, n, length)
				}
				clear(room[length:])
				again, _ := head.Put(room[:length], major, n)
				if !bytes.Equal(got, again) {
					t.Fatalf("Put of %d, %d behind %d bytes: the room behind them counts", major, n, length)
				}
			}
		}
	}
}

// R2: what is answered shares no memory with what was handed in, nor with another answer, its spare room neither.
func TestShares(t *testing.T) {
	r := rand.New(rand.NewSource(13))
	for _, length := range []int{0, 1, 5, 64, 1000} {
		for major := range 8 {
			for _, n := range edges() {
				room := textOf(r, length+40)
				before := slices.Clone(room)
				one, two := put(t, room[:length], major, n), put(t, room[:length], major, n)
				want := slices.Clone(two)
				one = one[:cap(one)]
				for i := range one {
					one[i] ^= 0xff
				}
				if !bytes.Equal(room, before) || !bytes.Equal(two, want) {
					t.Fatalf("Put of %d, %d behind %d bytes: the answer shares memory", major, n, length)
				}
				for i := range room {
					room[i] ^= 0xff
				}
				if !bytes.Equal(two, want) || !bytes.Equal(put(t, before[:length], major, n), want) {
					t.Fatalf("Put of %d, %d behind %d bytes: the answer hangs on what was handed in", major, n, length)
				}
			}
		}
	}
}

// P9.1: what Put answers may have another head put behind it, twice, unlike: neither touches the other.
func TestPutTwiceBehind(t *testing.T) {
	first := put(t, nil, 4, 3)
	one, two := put(t, first, 0, 1), put(t, first, 0, 2)
	if !bytes.Equal(first, []byte{0x83}) || !bytes.Equal(one, []byte{0x83, 1}) || !bytes.Equal(two, []byte{0x83, 2}) {
		t.Errorf("%x, %x, %x", first, one, two)
	}
}

// P9.1, R3: nil and an empty list are alike, and nothing is kept from call to call.
func TestAlike(t *testing.T) {
	for major := range 8 {
		for _, n := range edges() {
			none := put(t, nil, major, n)
			head.Put(none, 9, n)
			head.Get(none, -1)
			if empty := put(t, []byte{}, major, n); !bytes.Equal(none, empty) || !bytes.Equal(none, put(t, none[:0], major, n)) {
				t.Errorf("Put of %d, %d: %x, %x", major, n, none, empty)
			}
		}
	}
	holdNone(t, nil, 0, api.ErrBytes)
	holdNone(t, []byte{}, 0, api.ErrBytes)
	holdNone(t, nil, 1, api.ErrArg)
	holdNone(t, []byte{}, 1, api.ErrArg)
}

// P9.1, P9.2: any bytes, place, major type and number; what is got is put as it was.
func FuzzHead(f *testing.F) {
	f.Add([]byte{0x19, 1, 0xf4}, 0, 0, 500)
	f.Add([]byte{}, 1, 8, -1)
	f.Add([]byte{0x1b, 0x80, 0, 0, 0, 0, 0, 0, 0}, 0, 7, 1<<32)
	f.Fuzz(func(t *testing.T, b []byte, at, major, n int) {
		// Each place of it is asked for: a long text would take too long.
		b = b[:min(len(b), 200)]
		holdAlike(t, b, at)
		for at := range b {
			holdAlike(t, b, at)
			if major, n, next, e := head.Get(b, at); e == api.OK && !bytes.Equal(put(t, b[:at], major, n), b[:next]) {
				t.Errorf("Get(%x, %d) = %d, %d, %d: put otherwise", b, at, major, n, next)
			}
		}
		if major >= 0 && major <= 7 && n >= 0 {
			holdPut(t, b, major, n)
		} else if got, e := head.Put(b, major, n); len(got) != 0 || e != api.ErrArg {
			t.Errorf("Put of %d, %d: %x, %v", major, n, got, e)
		}
	})
}
