package wire_test

import (
	"bytes"
	"encoding/binary"
	"math"
	"math/rand"
	"slices"
	"sort"
	"strings"
	"testing"

	"concordat/api"
	"concordat/wire"
)

func num(tag, n int) api.Raw { return api.Raw{Tag: tag, N: n} }

func text(tag int, s string) api.Raw { return api.Raw{Tag: tag, Wire: api.WireText, B: s} }

func as(n int) string { return strings.Repeat("a", n) }

// form is a field with the bytes that the document gives it.
type form struct {
	r    api.Raw
	text string
}

// forms are ordinary fields, and those at the edges, written out.
func forms() []form {
	return []form{
		{num(1, -1), "\x02\x01"},
		{num(1, 0), "\x02\x00"},
		{num(1, 1), "\x02\x02"},
		{num(2, 150), "\x04\xac\x02"},
		{num(63, 63), "\x7e\x7e"},
		{num(63, -64), "\x7e\x7f"},
		{num(64, 64), "\x80\x01\x80\x01"},
		{num(500, -65), "\xe8\x07\x81\x01"},
		{num(500, math.MaxInt64), "\xe8\x07\xfe\xff\xff\xff\xff\xff\xff\xff\xff\x01"},
		{num(1, math.MinInt64), "\x02\xff\xff\xff\xff\xff\xff\xff\xff\xff\x01"},
		{num(3, 1<<40), "\x06\x80\x80\x80\x80\x80\x40"},
		{text(1, ""), "\x03\x00"},
		{text(1, "a"), "\x03\x01a"},
		{text(2, "größe"), "\x05\x07gr\xc3\xb6\xc3\x9fe"},
		{text(63, "\x00\xff\x80"), "\x7f\x03\x00\xff\x80"},
		{text(64, "\x02\x01"), "\x81\x01\x02\x02\x01"},
		{text(500, "ab"), "\xe9\x07\x02ab"},
		{text(7, as(127)), "\x0f\x7f" + as(127)},
		{text(7, as(128)), "\x0f\x80\x01" + as(128)},
		{text(7, as(api.MaxBytes-3)), "\x0f\xfd\x1f" + as(api.MaxBytes-3)},
	}
}

// wrongs are fields that may not be.
func wrongs() []api.Raw {
	return []api.Raw{
		{}, num(0, 1), text(0, "a"),
		num(-1, 0), text(-1, ""), num(math.MinInt64, 0), text(math.MinInt64+1, "a"),
		num(501, 0), text(501, ""), num(math.MaxInt64, 0), text(1<<32+1, ""),
		{Tag: 1, Wire: 2}, {Tag: 1, Wire: -1}, {Tag: 1, Wire: 1 << 32}, {Tag: 1, Wire: 1<<32 + 1, B: "a"}, {Tag: 1, Wire: math.MaxInt64}, {Tag: 1, Wire: math.MinInt64, N: 1},
		{Tag: 1, B: "a"}, {Tag: 500, N: 1, B: "a"}, {Tag: 1, B: "\x00"},
		{Tag: 1, Wire: api.WireText, N: 1}, {Tag: 1, Wire: api.WireText, N: -1, B: "a"}, {Tag: 500, Wire: api.WireText, N: math.MinInt64},
		text(1, as(api.MaxBytes+1)), text(500, as(2*api.MaxBytes)),
	}
}

// written are the bytes of fields, by the library's numbers.
func written(l ...api.Raw) string {
	var b []byte
	for _, r := range l {
		if r.Wire == api.WireNum {
			b = binary.AppendUvarint(b, uint64(r.Tag)*2)
			b = binary.AppendVarint(b, int64(r.N))
			continue
		}
		b = binary.AppendUvarint(b, uint64(r.Tag)*2+1)
		b = binary.AppendUvarint(b, uint64(len(r.B)))
		b = append(b, r.B...)
	}
	return string(b)
}

// number is the number that b begins with, and what is behind it, by the library, which also takes longer forms.
func number(b string) (uint64, string, api.Errno) {
	v, n := binary.Uvarint([]byte(b))
	if n == 0 && len(b) < 10 {
		return 0, "", api.ErrShort
	}
	if n <= 0 || len(binary.AppendUvarint(nil, v)) != n {
		return 0, "", api.ErrBytes
	}
	return v, b[n:], api.OK
}

// read is what Get must answer of b.
func read(b string) ([]api.Raw, api.Errno) {
	if len(b) > 4096 {
		return nil, api.ErrBig
	}
	var l []api.Raw
	for b != "" {
		head, behind, e := number(b)
		if e != api.OK {
			return nil, e
		}
		if head < 2 || head > 1001 {
			return nil, api.ErrTag
		}
		v, behind, e := number(behind)
		if e != api.OK {
			return nil, e
		}
		r := api.Raw{Tag: int(head >> 1)}
		if head&1 == 0 {
			r.N = int(v >> 1)
			if v&1 == 1 {
				r.N = -1 - r.N
			}
		} else {
			if v > uint64(len(behind)) {
				return nil, api.ErrShort
			}
			r.Wire, r.B, behind = 1, behind[:v], behind[v:]
		}
		l, b = append(l, r), behind
	}
	return l, api.OK
}

func wantGet(t *testing.T, b string, want []api.Raw, wantE api.Errno) {
	t.Helper()
	in := []byte(b)
	l, e := wire.Get(in)
	if !slices.Equal(l, want) || e != wantE || e != api.OK && l != nil {
		t.Fatalf("Get(%x) = %+v, %v; want %+v, %v", b, l, e, want, wantE)
	}
	if string(in) != b {
		t.Fatalf("Get(%x) made it %x", b, in)
	}
	if e != api.OK {
		return
	}
	if back, e := wire.PutAll(l); string(back) != b || e != api.OK {
		t.Fatalf("PutAll(Get(%x)) = %x, %v", b, back, e)
	}
}

// sameGet holds Get against the test's own reader.
func sameGet(t *testing.T, b string) {
	t.Helper()
	l, e := read(b)
	wantGet(t, b, l, e)
}

func wantPutAll(t *testing.T, l []api.Raw, want string, wantE api.Errno) {
	t.Helper()
	in := slices.Clone(l)
	b, e := wire.PutAll(in)
	if string(b) != want || e != wantE || e != api.OK && b != nil {
		t.Errorf("PutAll(%d fields) = %d bytes, %v; want %d bytes, %v", len(l), len(b), e, len(want), wantE)
	}
	if !slices.Equal(in, l) {
		t.Errorf("PutAll(%d fields) changed them", len(l))
	}
}

// somewhere is a field that may be, of any tag, often small.
func somewhere(dice *rand.Rand) api.Raw {
	tag := 1 + dice.Intn(api.MaxTag)
	if dice.Intn(2) == 0 {
		tag = 1 + dice.Intn(4)
	}
	if dice.Intn(2) == 0 {
		return num(tag, int(dice.Uint64())>>dice.Intn(64))
	}
	b := make([]byte, dice.Intn(1+dice.Intn(40)))
	dice.Read(b)
	return text(tag, string(b))
}

// P4.1: each tag around the edges, with each Wire around the two that are.
func TestCheckTags(t *testing.T) {
	for tag := -600; tag <= 1100; tag++ {
		for w := -3; w <= 4; w++ {
			want := tag >= 1 && tag <= 500 && (w == 0 || w == 1)
			if got := wire.Check(api.Raw{Tag: tag, Wire: w}); got != want {
				t.Errorf("Check(tag %d, wire %d) = %v", tag, w, got)
			}
		}
	}
}

// P4.1: what a number and what a text may have beside the tag.
func TestCheck(t *testing.T) {
	for _, f := range forms() {
		if !wire.Check(f.r) {
			t.Errorf("Check(%v) = false", f.r)
		}
	}
	for _, n := range []int{api.MaxBytes - 1, api.MaxBytes} {
		if !wire.Check(text(1, as(n))) {
			t.Errorf("Check(text of %d bytes) = false", n)
		}
	}
	for i, r := range wrongs() {
		if wire.Check(r) {
			t.Errorf("Check(wrong %d) = true", i)
		}
	}
}

// P4.1: the limit counts bytes, not runes.
func TestCheckCountsBytes(t *testing.T) {
	if !wire.Check(text(1, strings.Repeat("ö", api.MaxBytes/2))) {
		t.Error("4096 bytes of two-byte runes are refused")
	}
	if wire.Check(text(1, strings.Repeat("ö", api.MaxBytes/2+1))) {
		t.Error("4098 bytes of two-byte runes are taken")
	}
}

// P4.1: the bytes of each field of the list, alone and behind others.
func TestForms(t *testing.T) {
	for _, f := range forms() {
		for _, ahead := range []string{"", "q", "\x00", "\x80\x80", as(api.MaxBytes)} {
			b, ok := wire.Put([]byte(ahead), f.r)
			if string(b) != ahead+f.text || !ok {
				t.Errorf("Put(%x, %v) = %x, %v; want %x", ahead, f.r, b, ok, ahead+f.text)
			}
		}
		wantPutAll(t, []api.Raw{f.r}, f.text, api.OK)
		wantGet(t, f.text, []api.Raw{f.r}, api.OK)
	}
}

// P4.1: a list that is nil is one that is empty.
func TestPutBehindNothing(t *testing.T) {
	for _, b := range [][]byte{nil, {}, make([]byte, 0, 9)} {
		if got, ok := wire.Put(b, num(1, -1)); string(got) != "\x02\x01" || !ok {
			t.Errorf("Put(nothing, 1: -1) = %x, %v", got, ok)
		}
		if got, ok := wire.Put(b, num(0, -1)); len(got) != 0 || ok {
			t.Errorf("Put(nothing, 0: -1) = %x, %v", got, ok)
		}
	}
}

// P4.1: the longest text that may be is put, though it is none that could be got.
func TestPutLongest(t *testing.T) {
	r := text(500, as(api.MaxBytes))
	want := "\xe9\x07\x80\x20" + as(api.MaxBytes)
	if b, ok := wire.Put(nil, r); string(b) != want || !ok {
		t.Errorf("Put(longest text) = %d bytes, %v", len(b), ok)
	}
	wantPutAll(t, []api.Raw{r}, "", api.ErrBig)
	wantGet(t, want, nil, api.ErrBig)
}

// P4.1: what may not be is not put, and b is answered as it was.
func TestPutWrong(t *testing.T) {
	for i, r := range wrongs() {
		for _, ahead := range []string{"", "q", "\x02\x01"} {
			if b, ok := wire.Put([]byte(ahead), r); string(b) != ahead || ok {
				t.Errorf("Put(%x, wrong %d) = %x, %v", ahead, i, b, ok)
			}
		}
	}
}

// P4.1, R3: neither b nor the room behind it is written to, by Put or by who puts behind its answer.
func TestPutLeavesRoom(t *testing.T) {
	for _, r := range []api.Raw{num(1, -1), num(500, math.MinInt64), text(2, "ab"), text(2, ""), num(0, 0), text(501, "a")} {
		whole := bytes.Repeat([]byte{'.'}, 64)
		b := whole[:8]
		out, _ := wire.Put(b, r)
		_ = append(out, "zzzz"...)
		if string(whole) != strings.Repeat(".", 64) {
			t.Errorf("Put(b, %v) wrote into b's room: %q", r, whole)
		}
	}
}

// P4.1, R3: two answers behind one list have no room in common.
func TestPutTwice(t *testing.T) {
	b := append(make([]byte, 0, 64), 'q')
	one, _ := wire.Put(b, text(1, "one"))
	two, _ := wire.Put(b, text(1, "two"))
	if string(one) != "q\x03\x03one" || string(two) != "q\x03\x03two" {
		t.Errorf("%q, %q", one, two)
	}
	three, _ := wire.Put(one, num(1, 1))
	four, _ := wire.Put(one, num(2, 2))
	if string(three) != "q\x03\x03one\x02\x02" || string(four) != "q\x03\x03one\x04\x04" {
		t.Errorf("%q, %q", three, four)
	}
}

// P4.1: fields one behind the other, as they stand, also those of one tag and those that don't rise.
func TestPutAll(t *testing.T) {
	wantPutAll(t, nil, "", api.OK)
	wantPutAll(t, []api.Raw{}, "", api.OK)
	wantPutAll(t, []api.Raw{num(2, 1), text(1, "ab"), num(2, -1), text(1, "")}, "\x04\x02\x03\x02ab\x04\x01\x03\x00", api.OK)
	var l []api.Raw
	var want string
	for _, f := range forms()[:19] {
		l, want = append(l, f.r), want+f.text
		wantPutAll(t, l, want, api.OK)
	}
}

// P4.1: one wrong field is enough, wherever it stands.
func TestPutAllWrong(t *testing.T) {
	good := num(1, -1)
	for _, r := range wrongs() {
		wantPutAll(t, []api.Raw{r}, "", api.ErrArg)
		wantPutAll(t, []api.Raw{r, good}, "", api.ErrArg)
		wantPutAll(t, []api.Raw{good, r, good}, "", api.ErrArg)
		wantPutAll(t, []api.Raw{good, good, r}, "", api.ErrArg)
	}
}

// P4.1: MaxBytes bytes in all are taken, one more is not: of one field, of two, of many.
func TestPutAllBound(t *testing.T) {
	for _, l := range [][]api.Raw{
		{text(1, as(api.MaxBytes-3))},
		{text(64, as(api.MaxBytes-4))},
		{text(1, as(2000)), text(2, as(api.MaxBytes-2006))},
		{num(1, -1), text(1, as(api.MaxBytes-5))},
		{text(1, as(api.MaxBytes-5)), num(1, -1)},
		slices.Repeat([]api.Raw{num(1, 0)}, api.MaxBytes/2),
		slices.Repeat([]api.Raw{text(500, "a")}, api.MaxBytes/4),
	} {
		want := written(l...)
		if len(want) != api.MaxBytes {
			t.Fatal(len(want))
		}
		wantPutAll(t, l, want, api.OK)
		wantGet(t, want, l, api.OK)
		wantPutAll(t, append(slices.Clone(l), text(1, "")), "", api.ErrBig)
		wantPutAll(t, append([]api.Raw{num(1, 1)}, l...), "", api.ErrBig)
		last := len(l) - 1
		more := slices.Clone(l)
		if more[last].Wire == api.WireNum {
			more[last].N = 64
		} else {
			more[last].B += "a"
		}
		if len(written(more...)) != api.MaxBytes+1 {
			t.Fatal(len(written(more...)))
		}
		wantPutAll(t, more, "", api.ErrBig)
	}
}

// P4.1, R2: a wrong field is told ahead of too many bytes, also where it stands behind them.
func TestPutAllFirstError(t *testing.T) {
	long := text(1, as(api.MaxBytes))
	for _, r := range wrongs() {
		wantPutAll(t, []api.Raw{long, long, r}, "", api.ErrArg)
		wantPutAll(t, []api.Raw{r, long, long}, "", api.ErrArg)
	}
	wantPutAll(t, append(slices.Repeat([]api.Raw{long}, 100), num(1, 1)), "", api.ErrBig)
	wantPutAll(t, append(slices.Repeat([]api.Raw{num(9, 9)}, 10000), num(501, 1)), "", api.ErrArg)
}

// P4.1, R3: answers have no memory in common, spare room too.
func TestPutAllNewMemory(t *testing.T) {
	l := []api.Raw{text(1, "abc"), num(2, 5)}
	one, _ := wire.PutAll(l)
	two, _ := wire.PutAll(l)
	for i := range one {
		one[i] = 0xff
	}
	_ = append(one, 0xff, 0xff)
	if string(two) != written(l...) {
		t.Errorf("%q", two)
	}
}

// P4.2: bytes that are fields, and those that are none, with why.
func TestGet(t *testing.T) {
	for _, c := range []struct {
		b string
		l []api.Raw
		e api.Errno
	}{
		{"", nil, api.OK},
		{"\x02\x01", []api.Raw{num(1, -1)}, api.OK},
		{"\x02\x01\x02\x01", []api.Raw{num(1, -1), num(1, -1)}, api.OK},
		{"\x05\x01a\x02\x00\x03\x00", []api.Raw{text(2, "a"), num(1, 0), text(1, "")}, api.OK},
		{"\xe9\x07\x00\xe8\x07\x00", []api.Raw{text(500, ""), num(500, 0)}, api.OK},
		// a tag of 0, or above MaxTag
		{"\x00\x00", nil, api.ErrTag},
		{"\x01\x00", nil, api.ErrTag},
		{"\x01\x01a", nil, api.ErrTag},
		{"\xea\x07\x00", nil, api.ErrTag},
		{"\xeb\x07\x00", nil, api.ErrTag},
		{"\x80\x80\x01\x00", nil, api.ErrTag},
		{"\x82\x80\x80\x80\x10\x00", nil, api.ErrTag},
		{"\xff\xff\xff\xff\xff\xff\xff\xff\xff\x01\x00", nil, api.ErrTag},
		{"\x80\x80\x80\x80\x80\x80\x80\x80\x80\x01\x00", nil, api.ErrTag},
		{"\x82\x80\x80\x80\x80\x80\x80\x80\x80\x01\x00", nil, api.ErrTag},
		{"\x02\x01\x00\x00", nil, api.ErrTag},
		// numbers that don't end, or have a shorter form, or are too great
		{"\x02", nil, api.ErrShort},
		{"\x80", nil, api.ErrShort},
		{"\x02\x80", nil, api.ErrShort},
		{"\x03", nil, api.ErrShort},
		{"\x02\x01\x02", nil, api.ErrShort},
		{"\x80\x00", nil, api.ErrBytes},
		{"\x82\x00\x01", nil, api.ErrBytes},
		{"\x02\x80\x00", nil, api.ErrBytes},
		{"\x03\x81\x00a", nil, api.ErrBytes},
		{"\x02" + strings.Repeat("\x80", 9), nil, api.ErrShort},
		{"\x02" + strings.Repeat("\x80", 10), nil, api.ErrBytes},
		{"\x02" + strings.Repeat("\xff", 9) + "\x02", nil, api.ErrBytes},
		{"\x03" + strings.Repeat("\xff", 9) + "\x02", nil, api.ErrBytes},
		{strings.Repeat("\x80", 10), nil, api.ErrBytes},
		// fewer bytes than a field says
		{"\x03\x01", nil, api.ErrShort},
		{"\x03\x02a", nil, api.ErrShort},
		{"\x03\x80\x01" + as(127), nil, api.ErrShort},
		{"\x03\xff\xff\xff\xff\x0f" + as(9), nil, api.ErrShort},
		{"\x03\xff\xff\xff\xff\xff\xff\xff\xff\x7f" + as(9), nil, api.ErrShort},
		{"\x03\x80\x80\x80\x80\x80\x80\x80\x80\x80\x01" + as(9), nil, api.ErrShort},
		{"\x03\xff\xff\xff\xff\xff\xff\xff\xff\xff\x01" + as(9), nil, api.ErrShort},
		{"\x03\xf7\xff\xff\xff\xff\xff\xff\xff\xff\x01" + as(9), nil, api.ErrShort},
	} {
		wantGet(t, c.b, c.l, c.e)
	}
	if l, e := wire.Get(nil); len(l) != 0 || e != api.OK {
		t.Errorf("Get(nil) = %v, %v", l, e)
	}
}

// P4.2: of several that are wrong, the one that is met first.
func TestGetFirstError(t *testing.T) {
	for b, want := range map[string]api.Errno{
		"\x00\x01\x02":             api.ErrTag,   // ahead of a field that is cut
		"\x02\x01\x00\x01\x80":     api.ErrTag,   // ahead of a number that is cut
		"\x01\x05a":                api.ErrTag,   // ahead of its own bytes that lack
		"\xeb\x07\x05a":            api.ErrTag,   // the same of one too great
		"\x03\x80\x00\x00":         api.ErrBytes, // ahead of a tag that is none
		"\x80\x00\x00":             api.ErrBytes, // of what would be no tag
		"\x03\x05\x00\x00":         api.ErrShort, // what lacks, not what its bytes would be
		"\x00":                     api.ErrTag,   // as the number behind it is not met
		"\x00\x80\x00":             api.ErrTag,   // the same of one that is wrong
		"\xea\x07":                 api.ErrTag,
		"\xeb\x07\x80":             api.ErrTag,
		"\x02\x80\x00\x03\x05":     api.ErrBytes,
		"\x03\x01\x00\x02\x80\x00": api.ErrBytes, // bytes of a text are not looked at
	} {
		wantGet(t, b, nil, want)
	}
}

// P4.2: MaxBytes bytes are read, one more is refused, whatever they are.
func TestGetBound(t *testing.T) {
	whole := written(text(1, as(api.MaxBytes-3)))
	wantGet(t, whole, []api.Raw{text(1, as(api.MaxBytes-3))}, api.OK)
	wantGet(t, written(text(1, as(api.MaxBytes-2))), nil, api.ErrBig)
	for _, first := range []string{"\x00", "\x02", "\x80", "\x03", "\xff", "a"} {
		wantGet(t, strings.Repeat(first, api.MaxBytes+1), nil, api.ErrBig)
		sameGet(t, strings.Repeat(first, api.MaxBytes))
	}
	wantGet(t, strings.Repeat("\x02", api.MaxBytes), slices.Repeat([]api.Raw{num(1, 1)}, api.MaxBytes/2), api.OK)
	wantGet(t, strings.Repeat("\x02", api.MaxBytes-1), nil, api.ErrShort)
	wantGet(t, strings.Repeat("\x02", 3*api.MaxBytes), nil, api.ErrBig)
}

// P4.2: bytes that are cut at each place are the fields that are whole, or too short.
func TestGetCut(t *testing.T) {
	var l []api.Raw
	ends := map[int]int{0: 0}
	for _, f := range forms()[:19] {
		l = append(l, f.r)
		ends[len(written(l...))] = len(l)
	}
	whole := written(l...)
	for at := range len(whole) + 1 {
		if n, ok := ends[at]; ok {
			wantGet(t, whole[:at], l[:n], api.OK)
		} else {
			wantGet(t, whole[:at], nil, api.ErrShort)
		}
	}
}

// P4.2: every tag there is on the wire, and those around.
func TestGetTags(t *testing.T) {
	for head := range uint64(70000) {
		b := string(binary.AppendUvarint(nil, head)) + "\x01\x00"
		sameGet(t, b)
	}
}

// P4.2: all lists of up to two bytes, and all of four out of those at the edges.
func TestGetAllShort(t *testing.T) {
	for i := range 1 << 8 {
		sameGet(t, string([]byte{byte(i)}))
	}
	for i := range 1 << 16 {
		sameGet(t, string([]byte{byte(i), byte(i >> 8)}))
	}
	edges := []byte{0, 1, 2, 3, 4, 7, 0x7f, 0x80, 0x81, 0xe8, 0xe9, 0xea, 0xff}
	for _, a := range edges {
		for _, b := range edges {
			for _, c := range edges {
				for _, d := range edges {
					sameGet(t, string([]byte{a, b, c, d}))
				}
			}
		}
	}
}

// P4.2: fields of all kinds in which bytes are spoilt, taken out or put in.
func TestGetSpoilt(t *testing.T) {
	dice := rand.New(rand.NewSource(4))
	seen := map[api.Errno]int{}
	for range 30000 {
		var l []api.Raw
		for range 1 + dice.Intn(5) {
			l = append(l, somewhere(dice))
		}
		b := []byte(written(l...))
		at := dice.Intn(len(b))
		switch dice.Intn(4) {
		case 0:
			b[at] ^= 1 << dice.Intn(8)
		case 1:
			b[at] = byte(dice.Intn(256))
		case 2:
			b = slices.Delete(b, at, at+1)
		case 3:
			b = slices.Insert(b, at, byte(dice.Intn(256)))
		}
		_, e := read(string(b))
		seen[e]++
		sameGet(t, string(b))
	}
	for _, e := range []api.Errno{api.OK, api.ErrShort, api.ErrBytes, api.ErrTag} {
		if seen[e] < 100 {
			t.Errorf("only %d of %v", seen[e], e)
		}
	}
}

// P4.2, R3: fields stay as they were got, whatever becomes of the bytes.
func TestGetKeepsNothing(t *testing.T) {
	b := []byte("\x03\x03abc\x02\x01")
	l, _ := wire.Get(b)
	m, _ := wire.Get(b)
	clear(b)
	l[1].N = 7
	_ = append(l, num(9, 9))
	if want := []api.Raw{text(1, "abc"), num(1, -1)}; !slices.Equal(m, want) || l[0].B != "abc" {
		t.Errorf("%v, %v", l, m)
	}
}

// tagged are fields of these tags, each with a number of its own, so that turned ones are told.
func tagged(tags ...int) []api.Raw {
	l := make([]api.Raw, len(tags))
	for i, tag := range tags {
		l[i] = num(tag, i)
		if i%3 == 2 {
			l[i] = text(tag, string(rune('a'+i%26)))
		}
	}
	return l
}

// P4.3: Rising looks at each tag and the one ahead, whatever else the fields have.
func TestRising(t *testing.T) {
	for _, tags := range [][]int{{}, {1}, {0}, {1, 1}, {1, 2}, {1, 1, 2, 2, 500}, {-5, 0, 5}, {math.MinInt64, math.MaxInt64}, {math.MinInt64, -1, 0, 1, math.MaxInt64}, {7, 7, 7}} {
		if !wire.Rising(tagged(tags...)) {
			t.Errorf("Rising(%v) = false", tags)
		}
	}
	for _, tags := range [][]int{{2, 1}, {1, 0}, {1, 2, 1}, {2, 1, 3}, {1, 1, 2, 1}, {3, 1, 2, 3}, {0, -1}, {math.MaxInt64, math.MinInt64}, {1, math.MinInt64, 2}, {5, 5, 4}, {1, 3, 2, 4}} {
		if wire.Rising(tagged(tags...)) {
			t.Errorf("Rising(%v) = true", tags)
		}
	}
	if !wire.Rising(nil) {
		t.Error("Rising(nil) = false")
	}
	if !wire.Rising([]api.Raw{text(1, "b"), num(1, 5), text(1, "a"), num(1, -5)}) {
		t.Error("fields of one tag don't rise")
	}
}

// shown is a list, or its beginning, so that a long one does not fill the screen.
func shown(l []api.Raw) []api.Raw { return l[:min(len(l), 20)] }

func wantSorted(t *testing.T, l []api.Raw) {
	t.Helper()
	want := slices.Clone(l)
	sort.SliceStable(want, func(i, j int) bool { return want[i].Tag < want[j].Tag })
	in := slices.Clone(l)
	got := wire.Sorted(in)
	if !slices.Equal(got, want) {
		t.Fatalf("Sorted(%v) = %v", shown(l), shown(got))
	}
	if !slices.Equal(in, l) {
		t.Fatalf("Sorted(%v) made it %v", shown(l), shown(in))
	}
	if !wire.Rising(got) || wire.Rising(l) != slices.Equal(l, got) {
		t.Fatalf("Rising(%v) = %v, sorted %v", shown(l), wire.Rising(l), wire.Rising(got))
	}
	for i := range got {
		got[i] = num(-9, -9)
	}
	_ = append(got, num(-9, -9))
	if !slices.Equal(in, l) {
		t.Fatalf("Sorted(%v) shares memory", shown(l))
	}
}

// P4.3: by tag, of one tag in their order, written out.
func TestSortedForms(t *testing.T) {
	l := []api.Raw{num(3, 1), text(1, "z"), num(2, 5), text(1, "a"), num(3, 0), num(1, 9)}
	want := []api.Raw{l[1], l[3], l[5], l[2], l[0], l[4]}
	if got := wire.Sorted(l); !slices.Equal(got, want) {
		t.Errorf("%v", got)
	}
	if got := wire.Sorted(nil); len(got) != 0 {
		t.Errorf("%v", got)
	}
	if got := wire.Sorted([]api.Raw{}); len(got) != 0 {
		t.Errorf("%v", got)
	}
}

// P4.3: all lists of up to six fields of three tags, so in each order, with each kind of twins.
func TestSortedAllShort(t *testing.T) {
	for size := range 7 {
		all := 1
		for range size {
			all *= 3
		}
		for i := range all {
			tags := make([]int, size)
			for at := range tags {
				tags[at] = 1 + i%3
				i /= 3
			}
			wantSorted(t, tagged(tags...))
		}
	}
}

// P4.3: tags of all kinds, also those that may not be on the wire, and lists of all lengths.
func TestSortedMany(t *testing.T) {
	wantSorted(t, tagged(math.MaxInt64, 0, math.MinInt64, -1, 1, math.MaxInt64, math.MinInt64))
	dice := rand.New(rand.NewSource(43))
	for size := range 200 {
		tags := make([]int, size)
		for i := range tags {
			tags[i] = int(dice.Uint64())
		}
		wantSorted(t, tagged(tags...))
		for i := range tags {
			tags[i] = dice.Intn(1 + size/3)
		}
		wantSorted(t, tagged(tags...))
		sort.Ints(tags)
		wantSorted(t, tagged(tags...))
		slices.Reverse(tags)
		wantSorted(t, tagged(tags...))
	}
}

// P4.3, R1: long lists end soon, also those that fall all the way and those of one tag and another.
func TestSortedLong(t *testing.T) {
	const size = 300000
	tags := make([]int, size)
	for _, tag := range []func(i int) int{
		func(i int) int { return -i },
		func(i int) int { return i },
		func(i int) int { return i % 2 },
		func(i int) int { return i * 7919 % 501 },
		func(i int) int { return min(i, size-i) },
	} {
		for i := range tags {
			tags[i] = tag(i)
		}
		wantSorted(t, tagged(tags...))
	}
}

// P4.4: what is put is got: any fields that may be, all at once and one behind the other.
func TestThereAndBack(t *testing.T) {
	dice := rand.New(rand.NewSource(44))
	for range 20000 {
		var l []api.Raw
		var b []byte
		for range dice.Intn(8) {
			r := somewhere(dice)
			more, ok := wire.Put(b, r)
			if !ok || !wire.Check(r) {
				t.Fatalf("Put(b, %v) refused", r)
			}
			l, b = append(l, r), more
		}
		if string(b) != written(l...) {
			t.Fatalf("Put, one behind the other: %x, want %x", b, written(l...))
		}
		wantPutAll(t, l, string(b), api.OK)
		wantGet(t, string(b), l, api.OK)
	}
}

// P4.4: numbers of all sizes and texts of all lengths, under tags of all lengths.
func TestThereAndBackEdges(t *testing.T) {
	for _, tag := range []int{1, 2, 63, 64, 127, 128, 499, 500} {
		for shift := range 64 {
			for away := -1; away <= 1; away++ {
				n := 1<<shift + away
				l := []api.Raw{num(tag, n), num(tag, -n)}
				wantGet(t, written(l...), l, api.OK)
			}
		}
		for size := 0; len(written(text(tag, as(size)))) <= api.MaxBytes; size += 1 + size/9 {
			l := []api.Raw{text(tag, as(size))}
			wantGet(t, written(l...), l, api.OK)
		}
	}
}

// P4.4: what is got is put as it was, out of any bytes; where Get refuses, no fields are these bytes.
func TestBackAndThere(t *testing.T) {
	dice := rand.New(rand.NewSource(45))
	for range 100000 {
		b := make([]byte, dice.Intn(9))
		for i := range b {
			b[i] = byte(dice.Intn(256))
			if dice.Intn(2) == 0 {
				b[i] = byte(dice.Intn(6))
			}
		}
		sameGet(t, string(b))
	}
}
