package crc_test

import (
	"bytes"
	"hash/crc32"
	"math"
	"math/rand"
	"strings"
	"testing"

	"concordat/crc"
)

// known are texts with their sums, written out.
var known = []struct {
	text string
	sum  uint32
}{
	{"", 0},
	{"\x00", 0xd202ef8d}, {"\x01", 0xa505df1b}, {"\x80", 0x3fba6cad}, {"\xff", 0xff000000},
	{"\x00\x00\x00\x00", 0x2144df1c}, {"\xff\xff\xff\xff", 0xffffffff},
	{"a", 0xe8b7be43}, {"abc", 0x352441c2}, {"123456789", 0xcbf43926},
	{"The quick brown fox jumps over the lazy dog", 0x414fa339},
}

// sums are those behind which bytes are put: the ends, each bit alone, each bit alone missing, and others.
func sums() []uint32 {
	all := []uint32{0, math.MaxUint32, 7, 0xedb88320, ^uint32(0xedb88320), 0xcbf43926, 0x55555555, 0xaaaaaaaa}
	for i := range 32 {
		all = append(all, 1<<i, ^uint32(1<<i))
	}
	return all
}

// lists are bytes of many lengths: those known, runs of 0 and 255, all bytes there are, and mixed ones.
func lists() [][]byte {
	var all [][]byte
	for _, k := range known {
		all = append(all, []byte(k.text))
	}
	for _, c := range []byte{0, 255} {
		for _, n := range []int{1, 2, 3, 4, 5, 8, 9, 64} {
			all = append(all, bytes.Repeat([]byte{c}, n))
		}
	}
	all = append(all, upTo256())
	r := rand.New(rand.NewSource(3))
	for n := range 40 {
		b := make([]byte, n)
		r.Read(b)
		all = append(all, b)
	}
	return all
}

func upTo256() []byte {
	b := make([]byte, 256)
	for i := range b {
		b[i] = byte(i)
	}
	return b
}

// divided is the sum by division of polynomials, bit by bit, each bit a bool, highest power first: the bytes' bits, lowest first, and 32 zeros behind, the first 32 turned by what was summed ahead.
func divided(sum uint32, b []byte) uint32 {
	bits := make([]bool, 8*len(b)+32)
	for i := range 8 * len(b) {
		bits[i] = b[i/8]>>(i%8)&1 == 1
	}
	for i := range 32 {
		bits[i] = bits[i] != (sum>>i&1 == 0)
	}
	powers := []int{32, 26, 23, 22, 16, 12, 11, 10, 8, 7, 5, 4, 2, 1, 0}
	for i := range 8 * len(b) {
		if !bits[i] {
			continue
		}
		for _, p := range powers {
			bits[i+32-p] = !bits[i+32-p]
		}
	}
	rest := uint32(0)
	for i, bit := range bits[8*len(b):] {
		if !bit {
			rest |= 1 << i
		}
	}
	return rest
}

func wantMore(t *testing.T, sum uint32, b []byte, want uint32) {
	t.Helper()
	if got := crc.More(sum, b); got != want {
		t.Errorf("More(%08x, %x) = %08x; want %08x", sum, b, got, want)
	}
}

func wantOf(t *testing.T, b []byte, want uint32) {
	t.Helper()
	if got := crc.Of(b); got != want {
		t.Errorf("Of(%x) = %08x; want %08x", b, got, want)
	}
}

// P3.1: sums that are known.
func TestKnownSums(t *testing.T) {
	for _, k := range known {
		wantOf(t, []byte(k.text), k.sum)
		wantMore(t, 0, []byte(k.text), k.sum)
	}
}

// P3.1: no bytes change no sum, nil or not.
func TestNoBytes(t *testing.T) {
	wantOf(t, nil, 0)
	wantOf(t, []byte{}, 0)
	for _, sum := range sums() {
		wantMore(t, sum, nil, sum)
		wantMore(t, sum, []byte{}, sum)
		wantMore(t, sum, []byte("room")[:0], sum)
	}
}

// P3.1: each byte that there is, behind each sum.
func TestOneByte(t *testing.T) {
	for c := range 256 {
		b := []byte{byte(c)}
		wantOf(t, b, divided(0, b))
		for _, sum := range sums() {
			wantMore(t, sum, b, divided(sum, b))
		}
	}
}

// P3.1: all lists of two bytes.
func TestTwoBytes(t *testing.T) {
	b := make([]byte, 2)
	for i := range 1 << 16 {
		b[0], b[1] = byte(i>>8), byte(i)
		wantOf(t, b, crc32.ChecksumIEEE(b))
	}
}

// P3.1: lists of many lengths, behind each sum, held against a division and against the library.
func TestManyBytes(t *testing.T) {
	for _, b := range lists() {
		wantOf(t, b, divided(0, b))
		wantOf(t, b, crc32.ChecksumIEEE(b))
		for _, sum := range sums() {
			wantMore(t, sum, b, divided(sum, b))
			wantMore(t, sum, b, crc32.Update(sum, crc32.IEEETable, b))
		}
	}
}

// P3.1: a list that is long.
func TestLongList(t *testing.T) {
	b := []byte(strings.Repeat("what stands here\x00\xff", 1<<14))
	wantOf(t, b, crc32.ChecksumIEEE(b))
	wantMore(t, math.MaxUint32, b, crc32.Update(math.MaxUint32, crc32.IEEETable, b))
}

// P3.1: any run of up to 32 bits that are turned is told by the sum.
func TestSpoiltBits(t *testing.T) {
	b := []byte("what stands here")
	sum := crc.Of(b)
	for i := range 8 * len(b) {
		for n := 1; n <= 32 && i+n <= 8*len(b); n++ {
			c := bytes.Clone(b)
			for k := i; k < i+n; k++ {
				c[k/8] ^= 1 << (k % 8)
			}
			if crc.Of(c) == sum {
				t.Errorf("Of(%x) = Of(%x)", c, b)
			}
		}
	}
}

// P3.2: bytes cut in two at each place.
func TestCutInTwo(t *testing.T) {
	for _, b := range lists() {
		want := crc.Of(b)
		for i := range len(b) + 1 {
			wantMore(t, crc.Of(b[:i]), b[i:], want)
		}
	}
}

// P3.2: what goes on behind any sum may be cut, too; in three as well.
func TestCutBehindSums(t *testing.T) {
	b := []byte("\x00\xffcut me\xff\x00")
	for _, sum := range sums() {
		want := divided(sum, b)
		for i := range len(b) + 1 {
			for j := i; j <= len(b); j++ {
				wantMore(t, crc.More(crc.More(sum, b[:i]), b[i:j]), b[j:], want)
			}
		}
	}
}

// P3.2: one by one.
func TestOneByOne(t *testing.T) {
	for _, b := range lists() {
		sum := crc.Of(nil)
		for i, c := range b {
			sum = crc.More(sum, []byte{c})
			if want := divided(0, b[:i+1]); sum != want {
				t.Errorf("one by one up to %x: %08x; want %08x", b[:i+1], sum, want)
			}
		}
		wantOf(t, b, sum)
	}
}

// R3: the bytes that are handed in, and the room behind them, stay as they are.
func TestBytesStay(t *testing.T) {
	for _, b := range lists() {
		whole := append(bytes.Clone(b), "behind"...)
		kept := bytes.Clone(whole)
		handed := whole[:len(b)]
		crc.Of(handed)
		crc.More(math.MaxUint32, handed)
		if !bytes.Equal(whole, kept) {
			t.Errorf("%x was changed to %x", kept, whole)
		}
	}
}

// R3, R4: what was summed ahead, and bytes that change behind a call, are told by no later answer.
func TestNothingIsKept(t *testing.T) {
	b := []byte("123456789")
	wantOf(t, b, 0xcbf43926)
	b[0] = 'x'
	wantOf(t, b, divided(0, b))
	crc.More(math.MaxUint32, b)
	wantOf(t, []byte("123456789"), 0xcbf43926)
}
