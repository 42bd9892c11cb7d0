package vint_test

import (
	"bytes"
	"math"
	"math/big"
	"math/rand"
	"strings"
	"testing"

	"concordat/api"
	"concordat/vint"
)

// form is a number with the bytes that the document gives it.
type form struct {
	v    uint64
	text string
}

// forms are ordinary numbers, and all those around which a byte more is needed, written out.
var forms = []form{
	{0, "\x00"}, {1, "\x01"}, {2, "\x02"}, {100, "\x64"}, {126, "\x7e"}, {1<<7 - 1, "\x7f"},
	{1 << 7, "\x80\x01"}, {129, "\x81\x01"}, {255, "\xff\x01"}, {256, "\x80\x02"}, {300, "\xac\x02"}, {1<<14 - 1, "\xff\x7f"},
	{1 << 14, "\x80\x80\x01"}, {1<<21 - 1, "\xff\xff\x7f"},
	{1 << 21, "\x80\x80\x80\x01"}, {1<<28 - 1, "\xff\xff\xff\x7f"},
	{1 << 28, "\x80\x80\x80\x80\x01"}, {1<<31 - 1, "\xff\xff\xff\xff\x07"}, {1<<32 - 1, "\xff\xff\xff\xff\x0f"}, {1 << 32, "\x80\x80\x80\x80\x10"}, {1<<35 - 1, "\xff\xff\xff\xff\x7f"},
	{1 << 35, "\x80\x80\x80\x80\x80\x01"}, {1<<42 - 1, "\xff\xff\xff\xff\xff\x7f"},
	{1 << 42, "\x80\x80\x80\x80\x80\x80\x01"}, {1<<49 - 1, "\xff\xff\xff\xff\xff\xff\x7f"},
	{1 << 49, "\x80\x80\x80\x80\x80\x80\x80\x01"}, {1<<56 - 1, "\xff\xff\xff\xff\xff\xff\xff\x7f"},
	{1 << 56, "\x80\x80\x80\x80\x80\x80\x80\x80\x01"}, {1<<63 - 1, "\xff\xff\xff\xff\xff\xff\xff\xff\x7f"},
	{1 << 63, "\x80\x80\x80\x80\x80\x80\x80\x80\x80\x01"}, {1<<63 + 1, "\x81\x80\x80\x80\x80\x80\x80\x80\x80\x01"}, {math.MaxUint64, "\xff\xff\xff\xff\xff\xff\xff\xff\xff\x01"},
}

// written are a number's bytes, by division, in numbers that have no bound.
func written(v uint64) string {
	left, base := new(big.Int).SetUint64(v), big.NewInt(128)
	var b []byte
	for {
		digit := new(big.Int)
		left.DivMod(left, base, digit)
		if left.Sign() == 0 {
			return string(append(b, byte(digit.Int64())))
		}
		b = append(b, byte(digit.Int64()+128))
	}
}

// read is what Get must answer of b from its beginning on: how long it is first, then its sum, in numbers that have no bound.
func read(b []byte) (uint64, int, api.Errno) {
	size := 0
	for size < len(b) && b[size] >= 128 {
		size++
	}
	size++
	if size > len(b) && len(b) < 10 {
		return 0, 0, api.ErrShort
	}
	if size > 10 {
		return 0, 0, api.ErrBytes
	}
	sum := new(big.Int)
	for i := size - 1; i >= 0; i-- {
		sum.Mul(sum, big.NewInt(128))
		sum.Add(sum, big.NewInt(int64(b[i])%128))
	}
	if !sum.IsUint64() || size > 1 && b[size-1] == 0 {
		return 0, 0, api.ErrBytes
	}
	return sum.Uint64(), size, api.OK
}

func wantGet(t *testing.T, b []byte, at int, v uint64, behind int, e api.Errno) {
	t.Helper()
	gotV, gotBehind, gotE := vint.Get(b, at)
	if gotV != v || gotBehind != behind || gotE != e {
		t.Errorf("Get(%x, %d) = %d, %d, %v; want %d, %d, %v", b, at, gotV, gotBehind, gotE, v, behind, e)
	}
}

// sameGet holds Get against the test's own reader, with nothing ahead and with something.
func sameGet(t *testing.T, b []byte) {
	t.Helper()
	v, size, e := read(b)
	wantGet(t, b, 0, v, size, e)
	if e == api.OK {
		size += 2
	}
	wantGet(t, append([]byte{0xff, 0x80}, b...), 2, v, size, e)
}

// there holds Put, Len and Get of one number against its bytes.
func there(t *testing.T, v uint64, text string) {
	t.Helper()
	if got := vint.Put(nil, v); string(got) != text {
		t.Errorf("Put(nil, %d) = %x, want %x", v, got, text)
	}
	if got := vint.Len(v); got != len(text) {
		t.Errorf("Len(%d) = %d, want %d", v, got, len(text))
	}
	wantGet(t, []byte(text), 0, v, len(text), api.OK)
}

// numbers are those of up to d away from each power of two, and from its negative: all the edges there are.
func numbers(d int) []uint64 {
	var list []uint64
	for shift := range 64 {
		for away := -d; away <= d; away++ {
			v := uint64(1)<<shift + uint64(away)
			list = append(list, v, -v)
		}
	}
	return list
}

// P2.1: the bytes of each number in the list, alone, behind others, and with others behind.
func TestForms(t *testing.T) {
	for _, f := range forms {
		there(t, f.v, f.text)
		for _, ahead := range []string{"", "q", "\x00", "\x80", "\xff\xff", strings.Repeat("\x80", 12)} {
			if got := vint.Put([]byte(ahead), f.v); string(got) != ahead+f.text {
				t.Errorf("Put(%x, %d) = %x", ahead, f.v, got)
			}
			for _, behind := range []string{"", "\x00", "\x01", "\x80", "\xff", strings.Repeat("\x80", 12)} {
				wantGet(t, []byte(ahead+f.text+behind), len(ahead), f.v, len(ahead)+len(f.text), api.OK)
			}
		}
	}
}

// P2.1: numbers of all sizes go there and back.
func TestManyNumbers(t *testing.T) {
	for v := range uint64(1 << 16) {
		there(t, v, written(v))
		there(t, -v, written(-v))
	}
	for _, v := range numbers(3) {
		there(t, v, written(v))
	}
	dice := rand.New(rand.NewSource(2))
	for range 20000 {
		v := dice.Uint64() >> dice.Intn(64)
		there(t, v, written(v))
	}
}

// P2.1: several numbers one behind the other, read by the places that Get answers.
func TestRow(t *testing.T) {
	var b []byte
	for _, f := range forms {
		b = vint.Put(b, f.v)
	}
	at := 0
	for _, f := range forms {
		wantGet(t, b, at, f.v, at+len(f.text), api.OK)
		at += len(f.text)
	}
	if at != len(b) {
		t.Errorf("%d bytes of %d", at, len(b))
	}
	wantGet(t, b, at, 0, 0, api.ErrShort)
}

// P2.1: places outside of the bytes, and the one behind the last.
func TestPlaces(t *testing.T) {
	for _, b := range []string{"", "a", "\x80", "\x80\x00", strings.Repeat("\xff", 12)} {
		for _, at := range []int{math.MinInt, math.MinInt + 1, -2, -1, len(b) + 1, len(b) + 2, 1 << 40, math.MaxInt - 1, math.MaxInt} {
			wantGet(t, []byte(b), at, 0, 0, api.ErrArg)
		}
		wantGet(t, []byte(b), len(b), 0, 0, api.ErrShort)
	}
	wantGet(t, nil, 0, 0, 0, api.ErrShort)
	wantGet(t, nil, 1, 0, 0, api.ErrArg)
	// What stands in the list's room is no part of it.
	room := []byte{0x80, 1, 2}[:1]
	wantGet(t, room, 0, 0, 0, api.ErrShort)
	wantGet(t, room, 1, 0, 0, api.ErrShort)
	wantGet(t, room, 2, 0, 0, api.ErrArg)
}

// P2.1: bytes that end within a number.
func TestShort(t *testing.T) {
	for _, f := range forms {
		for cut := range len(f.text) {
			wantGet(t, []byte(f.text[:cut]), 0, 0, 0, api.ErrShort)
			wantGet(t, []byte("ab"+f.text[:cut]), 2, 0, 0, api.ErrShort)
		}
	}
	for n := range 10 {
		wantGet(t, bytes.Repeat([]byte{0x80}, n), 0, 0, 0, api.ErrShort)
		wantGet(t, bytes.Repeat([]byte{0xff}, n), 0, 0, 0, api.ErrShort)
	}
}

// P2.1: ten bytes that all go on, whatever is behind them.
func TestNoEnd(t *testing.T) {
	for _, c := range []byte{0x80, 0x81, 0xff} {
		for _, behind := range []string{"", "\x00", "\x01", "\x7f", "\x80", "\xff\x01", strings.Repeat("\x80", 100)} {
			wantGet(t, append(bytes.Repeat([]byte{c}, 10), behind...), 0, 0, 0, api.ErrBytes)
		}
	}
}

// P2.1: each tenth byte that there is: 1 is the only one of a number.
func TestTenth(t *testing.T) {
	for _, c := range []byte{0x80, 0xc3, 0xff} {
		for last := range 256 {
			b := append(bytes.Repeat([]byte{c}, 9), byte(last))
			if last != 1 {
				wantGet(t, b, 0, 0, 0, api.ErrBytes)
				wantGet(t, append(b, 1), 0, 0, 0, api.ErrBytes)
				continue
			}
			v, _, _ := read(b)
			wantGet(t, b, 0, v, 10, api.OK)
			wantGet(t, append(b, 0x80), 0, v, 10, api.OK)
		}
	}
}

// P2.1: a last byte 0 is only a number's if it is alone.
func TestLastZero(t *testing.T) {
	wantGet(t, []byte{0}, 0, 0, 1, api.OK)
	wantGet(t, []byte{0, 0}, 0, 0, 1, api.OK)
	wantGet(t, []byte{0, 0}, 1, 0, 2, api.OK)
	for n := 1; n <= 9; n++ {
		for _, c := range []byte{0x80, 0x81, 0xff} {
			b := append(bytes.Repeat([]byte{c}, n), 0)
			wantGet(t, b, 0, 0, 0, api.ErrBytes)
			wantGet(t, append(b, 1), 0, 0, 0, api.ErrBytes)
			wantGet(t, b, n, 0, n+1, api.OK)
		}
	}
}

// P2.1: all lists of two bytes, and longer ones from a fixed seed, against the test's own reader; what is a number is its only form.
func TestEveryShortList(t *testing.T) {
	for a := range 256 {
		sameGet(t, []byte{byte(a)})
		for b := range 256 {
			sameGet(t, []byte{byte(a), byte(b)})
		}
	}
	dice := rand.New(rand.NewSource(3))
	ends := []byte{0, 1, 2, 0x7f, 0x80, 0x81, 0xff}
	for range 50000 {
		b := make([]byte, dice.Intn(14))
		for i := range b {
			b[i] = byte(dice.Intn(128) + 128)
			if dice.Intn(10) == 0 {
				b[i] = ends[dice.Intn(len(ends))]
			}
		}
		sameGet(t, b)
		if v, behind, e := vint.Get(b, 0); e == api.OK && !bytes.Equal(vint.Put(nil, v), b[:behind]) {
			t.Errorf("%x is read as %d, which has another form", b, v)
		}
	}
}

// R3: Put leaves the list and the room behind it as they are, and so does Get; two answers behind one list share nothing.
func TestMemory(t *testing.T) {
	for _, f := range forms {
		whole := bytes.Repeat([]byte{0xee}, 40)
		b := whole[:3]
		one := vint.Put(b, f.v)
		two := vint.Put(b, 1<<63+5)
		if !bytes.Equal(whole, bytes.Repeat([]byte{0xee}, 40)) {
			t.Fatalf("Put of %d has turned the room behind: %x", f.v, whole)
		}
		if string(one) != "\xee\xee\xee"+f.text {
			t.Errorf("the second Put has turned the first one's answer: %x", one)
		}
		room := one[len(one):cap(one)]
		for i := range room {
			room[i] = 0xdd
		}
		if !bytes.Equal(whole, bytes.Repeat([]byte{0xee}, 40)) || string(two) != "\xee\xee\xee\x85\x80\x80\x80\x80\x80\x80\x80\x80\x01" {
			t.Errorf("an answer's spare room is another's: %x %x", whole, two)
		}
	}
	for _, ahead := range [][]byte{nil, {}, make([]byte, 0, 30)} {
		if got := vint.Put(ahead, 300); string(got) != "\xac\x02" {
			t.Errorf("Put behind nothing = %x", got)
		}
	}
	b := []byte("\xac\x02\x80\x00")
	vint.Get(b, 0)
	vint.Get(b, 2)
	if string(b) != "\xac\x02\x80\x00" {
		t.Errorf("Get has turned its list: %x", b)
	}
}

// sign is a number with its form without a sign.
type sign struct {
	n int
	v uint64
}

func signed(t *testing.T, n int, v uint64) {
	t.Helper()
	if got := vint.Zig(n); got != v {
		t.Errorf("Zig(%d) = %d, want %d", n, got, v)
	}
	if got := vint.Zag(v); got != n {
		t.Errorf("Zag(%d) = %d, want %d", v, got, n)
	}
}

// P2.2: ordinary numbers, and the ends of all numbers of either sign.
func TestSigns(t *testing.T) {
	for _, s := range []sign{
		{0, 0}, {-1, 1}, {1, 2}, {-2, 3}, {2, 4}, {-3, 5}, {63, 126}, {-64, 127}, {64, 128}, {-65, 129}, {150, 300},
		{math.MaxInt32, 1<<32 - 2}, {math.MinInt32, 1<<32 - 1}, {math.MaxInt32 + 1, 1 << 32}, {math.MinInt32 - 1, 1<<32 + 1},
		{1 << 61, 1 << 62}, {1<<62 - 1, 1<<63 - 2}, {-1 << 62, 1<<63 - 1}, {1 << 62, 1 << 63}, {-1<<62 - 1, 1<<63 + 1},
		{math.MaxInt - 1, math.MaxUint64 - 3}, {math.MinInt + 1, math.MaxUint64 - 2}, {math.MaxInt, math.MaxUint64 - 1}, {math.MinInt, math.MaxUint64},
	} {
		signed(t, s.n, s.v)
	}
}

// P2.2: 2n and -2n - 1, worked out in numbers that have no bound.
func TestManySigns(t *testing.T) {
	double := func(n int) uint64 {
		x := big.NewInt(int64(n))
		x.Mul(x, big.NewInt(2))
		if n < 0 {
			x.Neg(x).Sub(x, big.NewInt(1))
		}
		return x.Uint64()
	}
	for n := -1 << 15; n <= 1<<15; n++ {
		signed(t, n, double(n))
	}
	for _, v := range numbers(3) {
		signed(t, int(v), double(int(v)))
		if got := vint.Zig(vint.Zag(v)); got != v {
			t.Errorf("Zig(Zag(%d)) = %d", v, got)
		}
	}
}
