package words_test

import (
	"bytes"
	"encoding/binary"
	"math"
	"testing"

	"vestibule/words"
)

// getters are the three Gets with their results widened, and what the library reads, so that one test holds for all widths.
var getters = []struct {
	name string
	size int
	get  func([]byte, int) (uint64, bool)
	want func([]byte) uint64
}{
	{"Get16", 2,
		func(b []byte, at int) (uint64, bool) { x, ok := words.Get16(b, at); return uint64(x), ok },
		func(b []byte) uint64 { return uint64(binary.LittleEndian.Uint16(b)) }},
	{"Get32", 4,
		func(b []byte, at int) (uint64, bool) { x, ok := words.Get32(b, at); return uint64(x), ok },
		func(b []byte) uint64 { return uint64(binary.LittleEndian.Uint32(b)) }},
	{"Get64", 8, words.Get64, binary.LittleEndian.Uint64},
}

// putters are the three Puts, each of the lower bits of a 64-bit integer.
var putters = []struct {
	name string
	size int
	put  func(uint64) []byte
}{
	{"Put16", 2, func(x uint64) []byte { return words.Put16(uint16(x)) }},
	{"Put32", 4, func(x uint64) []byte { return words.Put32(uint32(x)) }},
	{"Put64", 8, words.Put64},
}

// samples are the integers with one bit, with all but one, and some with all bytes different.
func samples() []uint64 {
	l := []uint64{0, math.MaxUint64, 0x0102030405060708, 0xf8e7d6c5b4a39281, 0x00000000ffffffff, 0xffffffff00000000}
	for i := range 64 {
		l = append(l, 1<<i, ^uint64(1<<i))
	}
	return l
}

// spare is a slice of n bytes with room behind it, and all of that memory.
func spare(n, room int) (b, all []byte) {
	all = make([]byte, n+room)
	for i := range all {
		all[i] = byte(0xa1 + 7*i)
	}
	return all[:n], all
}

// scribble changes a slice up to its capacity.
func scribble(b []byte) {
	b = b[:cap(b)]
	for i := range b {
		b[i] ^= 0xff
	}
}

// TestGet is of P1.1: least byte first, at each offset that is there.
func TestGet(t *testing.T) {
	b := []byte{9, 0x84, 0x83, 2, 1, 0, 0xff, 0x80, 0x7f, 3, 0xfe}
	for _, g := range getters {
		for at := 0; at+g.size <= len(b); at++ {
			if x, ok := g.get(b, at); !ok || x != g.want(b[at:]) {
				t.Errorf("%s at %d: %#x, %v; want %#x", g.name, at, x, ok, g.want(b[at:]))
			}
		}
	}
	if x, ok := words.Get16([]byte{2, 1}, 0); !ok || x != 0x0102 {
		t.Errorf("Get16: %#x, %v", x, ok)
	}
	if x, ok := words.Get32([]byte{9, 4, 3, 2, 1}, 1); !ok || x != 0x01020304 {
		t.Errorf("Get32: %#x, %v", x, ok)
	}
	if x, ok := words.Get64([]byte{8, 7, 6, 5, 4, 3, 2, 1}, 0); !ok || x != 0x0102030405060708 {
		t.Errorf("Get64: %#x, %v", x, ok)
	}
}

// TestGetOutside is of P1.1: 0 and false where not all bytes are there.
func TestGetOutside(t *testing.T) {
	ones := bytes.Repeat([]byte{0xff}, 24)
	for _, g := range getters {
		for n := range 12 {
			offsets := []int{-1, -g.size, -9, math.MinInt, math.MinInt + 1, n, n + 1, n + 99, math.MaxInt, math.MaxInt - 1, math.MaxInt - 3, math.MaxInt - 7, math.MaxInt - 8}
			for at := max(0, n-g.size+1); at < n; at++ {
				offsets = append(offsets, at)
			}
			for _, at := range offsets {
				// What stands behind the length is memory of the slice, but none of its bytes.
				if x, ok := g.get(ones[:n], at); ok || x != 0 {
					t.Errorf("%s of %d bytes at %d: %#x, %v", g.name, n, at, x, ok)
				}
			}
			if _, ok := g.get(ones[:n], n-g.size); ok != (n >= g.size) {
				t.Errorf("%s of the last of %d bytes: %v", g.name, n, ok)
			}
		}
		for _, b := range [][]byte{nil, {}} {
			for _, at := range []int{-1, 0, 1} {
				if x, ok := g.get(b, at); ok || x != 0 {
					t.Errorf("%s of no bytes at %d: %#x, %v", g.name, at, x, ok)
				}
			}
		}
	}
}

// TestPut is of P1.2: as many bytes as the integer has, least one first.
func TestPut(t *testing.T) {
	for _, c := range []struct{ got, want []byte }{
		{words.Put16(0), []byte{0, 0}},
		{words.Put16(0x0102), []byte{2, 1}},
		{words.Put16(0xff80), []byte{0x80, 0xff}},
		{words.Put32(0), []byte{0, 0, 0, 0}},
		{words.Put32(0x01020304), []byte{4, 3, 2, 1}},
		{words.Put32(0xc000003e), []byte{0x3e, 0, 0, 0xc0}},
		{words.Put64(0), []byte{0, 0, 0, 0, 0, 0, 0, 0}},
		{words.Put64(0x0102030405060708), []byte{8, 7, 6, 5, 4, 3, 2, 1}},
		{words.Put64(1<<63 | 2), []byte{2, 0, 0, 0, 0, 0, 0, 0x80}},
	} {
		if !bytes.Equal(c.got, c.want) {
			t.Errorf("% x; want % x", c.got, c.want)
		}
	}
	for _, x := range samples() {
		for _, p := range putters {
			if got, want := p.put(x), binary.LittleEndian.AppendUint64(nil, x)[:p.size]; !bytes.Equal(got, want) {
				t.Errorf("%s of %#x: % x; want % x", p.name, x, got, want)
			}
		}
	}
}

// TestHalves is of P1.3.
func TestHalves(t *testing.T) {
	for _, c := range []struct {
		x         uint64
		low, high uint32
	}{
		{0, 0, 0},
		{0x0000000500000007, 7, 5},
		{0x00000000ffffffff, 0xffffffff, 0},
		{0xffffffff00000000, 0, 0xffffffff},
		{0x8000000000000001, 1, 0x80000000},
		{0x0000000180000000, 0x80000000, 1},
		{0x0102030405060708, 0x05060708, 0x01020304},
	} {
		if low, high := words.Halves(c.x); low != c.low || high != c.high {
			t.Errorf("Halves of %#x: %#x, %#x", c.x, low, high)
		}
		if x := words.Whole(c.low, c.high); x != c.x {
			t.Errorf("Whole of %#x, %#x: %#x", c.low, c.high, x)
		}
	}
}

// TestCat is of P1.4: all bytes of all slices, in their order.
func TestCat(t *testing.T) {
	for _, c := range []struct {
		l    [][]byte
		want []byte
	}{
		{nil, nil},
		{[][]byte{}, nil},
		{[][]byte{nil}, nil},
		{[][]byte{nil, {}, nil}, nil},
		{[][]byte{{7}}, []byte{7}},
		{[][]byte{{1}, nil, {2, 3}}, []byte{1, 2, 3}},
		{[][]byte{{}, {2, 3}, {}, {1}, nil}, []byte{2, 3, 1}},
		{[][]byte{{0}, {0}, {255}, {0}}, []byte{0, 0, 255, 0}},
	} {
		if got := words.Cat(c.l...); !bytes.Equal(got, c.want) {
			t.Errorf("Cat of %v: %v", c.l, got)
		}
	}
	one := []byte{1, 2}
	if got := words.Cat(one, one, one[1:]); !bytes.Equal(got, []byte{1, 2, 1, 2, 2}) {
		t.Errorf("Cat of a slice with itself: %v", got)
	}
	if got := words.Cat(); len(got) != 0 {
		t.Errorf("Cat of nothing: %v", got)
	}
}

// TestSame is of P1.4: the bytes up to the length count, and nothing else.
func TestSame(t *testing.T) {
	for _, c := range []struct {
		a, b []byte
		want bool
	}{
		{nil, nil, true},
		{nil, []byte{}, true},
		{nil, []byte{0}, false},
		{[]byte{}, []byte{0}, false},
		{[]byte{1}, []byte{1}, true},
		{[]byte{1}, []byte{2}, false},
		{[]byte{1, 2, 3}, []byte{1, 2, 3}, true},
		{[]byte{1, 2, 3}, []byte{0, 2, 3}, false},
		{[]byte{1, 2, 3}, []byte{1, 0, 3}, false},
		{[]byte{1, 2, 3}, []byte{1, 2, 0}, false},
		{[]byte{1, 2, 3}, []byte{1, 2}, false},
		{[]byte{1, 2, 3}, []byte{3, 2, 1}, false},
		{[]byte{1, 2, 9}[:2], []byte{1, 2, 8}[:2], true},
		{[]byte{1, 2, 9}[:2], []byte{1, 2, 9}, false},
	} {
		if words.Same(c.a, c.b) != c.want || words.Same(c.b, c.a) != c.want {
			t.Errorf("Same of %v, %v: not %v", c.a, c.b, c.want)
		}
	}
	b := []byte{1, 2, 3}
	if !words.Same(b, b) {
		t.Errorf("Same of a slice and itself: false")
	}
}

// TestRoundTrip is of P1.5.
func TestRoundTrip(t *testing.T) {
	for _, x := range samples() {
		for i, p := range putters {
			low := x << (64 - 8*p.size) >> (64 - 8*p.size)
			b := words.Cat([]byte{0xee, 0xdd, 0xcc}, p.put(x), []byte{0xbb})
			if got, ok := getters[i].get(b, 3); !ok || got != low {
				t.Errorf("%s of %s of %#x: %#x, %v", getters[i].name, p.name, low, got, ok)
			}
		}
		if y := words.Whole(words.Halves(x)); y != x {
			t.Errorf("Whole of Halves of %#x: %#x", x, y)
		}
	}
	b, _ := spare(30, 0)
	for i, g := range getters {
		for at := 0; at+g.size <= len(b); at++ {
			x, _ := g.get(b, at)
			if got := putters[i].put(x); !bytes.Equal(got, b[at:at+g.size]) {
				t.Errorf("%s of what was got at %d: % x; want % x", putters[i].name, at, got, b[at:at+g.size])
			}
		}
	}
}

// TestHalvesAreBytes is of P1.6.
func TestHalvesAreBytes(t *testing.T) {
	for _, x := range samples() {
		low, high := words.Halves(x)
		if got, want := words.Cat(words.Put32(low), words.Put32(high)), words.Put64(x); !words.Same(got, want) {
			t.Errorf("%#x: % x; want % x", x, got, want)
		}
	}
}

// TestPassedStays is of P0.4: what is passed stays as it is, behind its length too.
func TestPassedStays(t *testing.T) {
	a, allA := spare(9, 16)
	b, allB := spare(5, 16)
	wasA, wasB := bytes.Clone(allA), bytes.Clone(allB)
	for at := -2; at < 12; at++ {
		for _, g := range getters {
			g.get(a, at)
		}
	}
	words.Same(a, b)
	words.Same(a, allA)
	l := make([][]byte, 3, 5)
	l[0], l[1], l[2] = a, b, a
	words.Cat(l...)
	words.Cat(a[:0], b)
	if !bytes.Equal(allA, wasA) || !bytes.Equal(allB, wasB) {
		t.Errorf("what was passed is changed: % x, % x", allA, allB)
	}
	if len(l[0]) != 9 || &l[0][0] != &a[0] || &l[1][0] != &b[0] || &l[2][0] != &a[0] || l[:5][3] != nil || l[:5][4] != nil {
		t.Errorf("the list that was passed is changed: %v", l[:5])
	}
}

// TestReturnedIsNew is of P0.4: what is returned shares no memory, up to its capacity, with what was passed or with what an earlier call returned.
func TestReturnedIsNew(t *testing.T) {
	for _, n := range []int{0, 1, 7} {
		for _, others := range [][][]byte{nil, {nil}, {{}, nil}, {{4, 5}}} {
			b, all := spare(n, 16)
			was := bytes.Clone(all)
			for _, l := range [][][]byte{append([][]byte{b}, others...), append(append([][]byte{}, others...), b)} {
				got := words.Cat(l...)
				want := bytes.Clone(got)
				scribble(got)
				if !bytes.Equal(all, was) {
					t.Errorf("Cat of %v shares its memory with what was passed", l)
				}
				again := words.Cat(l...)
				scribble(all)
				if !bytes.Equal(again, want) {
					t.Errorf("Cat of %v: %v; want %v", l, again, want)
				}
				scribble(all)
			}
		}
	}
	for _, p := range putters {
		first := p.put(0x0102030405060708)
		want := bytes.Clone(first)
		second := p.put(0x0102030405060708)
		scribble(first)
		if !bytes.Equal(second, want) || !bytes.Equal(p.put(0x0102030405060708), want) {
			t.Errorf("%s returns memory that was returned before", p.name)
		}
	}
}
