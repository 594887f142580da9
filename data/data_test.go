package data_test

import (
	"bytes"
	"encoding/binary"
	"math"
	"math/bits"
	"testing"

	"vestibule/api"
	"vestibule/data"
)

// different is data whose 64 bytes all differ: byte n of its encoding is 0x81 + n.
var different = api.Data{
	Nr:   0x84838281,
	Arch: 0x88878685,
	IP:   0x908f8e8d8c8b8a89,
	Args: [6]uint64{
		0x9897969594939291,
		0xa09f9e9d9c9b9a99,
		0xa8a7a6a5a4a3a2a1,
		0xb0afaeadacabaaa9,
		0xb8b7b6b5b4b3b2b1,
		0xc0bfbebdbcbbbab9,
	},
}

// example is the data of the chapter's examples.
var example = api.Data{Nr: 1, Arch: 0xc000003e, Args: [6]uint64{2: 0x500000007}}

// encoded is the encoding of data as the library writes it, field by field.
func encoded(d api.Data) []byte {
	b := binary.LittleEndian.AppendUint32(nil, d.Nr)
	b = binary.LittleEndian.AppendUint32(b, d.Arch)
	b = binary.LittleEndian.AppendUint64(b, d.IP)
	for _, x := range d.Args {
		b = binary.LittleEndian.AppendUint64(b, x)
	}
	return b
}

// samples are data with all bytes different, with one bit of all 512, and with none and all of them.
func samples() []api.Data {
	ones := api.Data{Nr: math.MaxUint32, Arch: math.MaxUint32, IP: math.MaxUint64}
	for i := range ones.Args {
		ones.Args[i] = math.MaxUint64
	}
	l := []api.Data{{}, ones, different, example}
	for i := range 32 {
		l = append(l, api.Data{Nr: 1 << i}, api.Data{Arch: 1 << i})
	}
	for i := range 64 {
		l = append(l, api.Data{IP: 1 << i})
		for arg := range 6 {
			d := api.Data{}
			d.Args[arg] = 1 << i
			l = append(l, d)
		}
	}
	return l
}

// count returns n bytes that count up from a first one.
func count(first byte, n int) []byte {
	b := make([]byte, n)
	for i := range b {
		b[i] = first + byte(i)
	}
	return b
}

// scribble changes a slice up to its capacity.
func scribble(b []byte) {
	b = b[:cap(b)]
	for i := range b {
		b[i] ^= 0xff
	}
}

// offsets are those below 300, and far above, those that would be one of the data's if some of their bits were lost.
func offsets() []uint32 {
	var l []uint32
	for at := range 300 {
		l = append(l, uint32(at))
	}
	for i := 6; i < 32; i++ {
		for at := range uint32(64) {
			l = append(l, 1<<i+at, -(1<<i)+at)
		}
	}
	for n := range uint32(9) {
		l = append(l, math.MaxUint32-n, math.MaxInt32-n, math.MaxInt32+n)
	}
	return l
}

// noIndices are those of no argument, and among them those whose offset would wrap round to one of the data's.
func noIndices() []int {
	l := []int{-1, -2, -3, -6, 6, 7, 8, 12, 16, 255, 256, math.MinInt, math.MinInt + 1, math.MinInt + 5, math.MaxInt, math.MaxInt - 1}
	for i := 3; i < bits.UintSize; i++ {
		for arg := range 6 {
			l = append(l, 1<<i+arg, -(1<<i)+arg)
		}
	}
	return l
}

// TestPrint is of P3.1: each field at its offset, least byte first.
func TestPrint(t *testing.T) {
	if got, want := data.Print(different), count(0x81, 64); !bytes.Equal(got, want) {
		t.Errorf("Print of all different bytes: % x; want % x", got, want)
	}
	want := make([]byte, 64)
	want[0], want[4], want[7], want[32], want[36] = 1, 0x3e, 0xc0, 7, 5
	if got := data.Print(example); !bytes.Equal(got, want) {
		t.Errorf("Print of the example: % x; want % x", got, want)
	}
	for _, d := range samples() {
		if got, want := data.Print(d), encoded(d); !bytes.Equal(got, want) {
			t.Errorf("Print of %x: % x; want % x", d, got, want)
		}
	}
}

// TestParse is of P3.1: the data whose encoding it is.
func TestParse(t *testing.T) {
	if got, e := data.Parse(count(0x81, 64)); got != different || e != api.OK {
		t.Errorf("Parse of all different bytes: %x, %d", got, e)
	}
	for _, d := range samples() {
		if got, e := data.Parse(encoded(d)); got != d || e != api.OK {
			t.Errorf("Parse of %x: %x, %d", d, got, e)
		}
	}
	// What stands behind the length is memory of the slice, but none of its bytes.
	if got, e := data.Parse(count(0x81, 99)[:64]); got != different || e != api.OK {
		t.Errorf("Parse of 64 bytes with room behind them: %x, %d", got, e)
	}
}

// TestParseOfWrongLengths is of P3.1: ErrData and nothing beside it unless there are 64 bytes, wherever the memory ends.
func TestParseOfWrongLengths(t *testing.T) {
	all := bytes.Repeat([]byte{0xff}, 1<<16+64)
	lengths := []int{192, 256, 320, 512, 1024, 1<<16 - 1, 1 << 16, 1<<16 + 1, 1<<16 + 64}
	for n := range 200 {
		lengths = append(lengths, n)
	}
	for _, n := range lengths {
		if n == 64 {
			continue
		}
		for _, b := range [][]byte{all[:n], all[:n:n]} {
			if got, e := data.Parse(b); got != (api.Data{}) || e != api.ErrData {
				t.Errorf("Parse of %d bytes: %x, %d", n, got, e)
			}
		}
	}
	if got, e := data.Parse(all[:64]); got == (api.Data{}) || e != api.OK {
		t.Errorf("Parse of 64 bytes: %x, %d", got, e)
	}
	for _, b := range [][]byte{nil, {}, make([]byte, 0, 64)} {
		if got, e := data.Parse(b); got != (api.Data{}) || e != api.ErrData {
			t.Errorf("Parse of no bytes: %x, %d", got, e)
		}
	}
}

// TestWord is of P3.2: the sixteen words, from the first to the last one.
func TestWord(t *testing.T) {
	for at, want := range map[uint32]uint32{
		0: 0x84838281, 4: 0x88878685, 8: 0x8c8b8a89, 12: 0x908f8e8d,
		16: 0x94939291, 20: 0x98979695, 24: 0x9c9b9a99, 28: 0xa09f9e9d,
		32: 0xa4a3a2a1, 36: 0xa8a7a6a5, 40: 0xacabaaa9, 44: 0xb0afaead,
		48: 0xb4b3b2b1, 52: 0xb8b7b6b5, 56: 0xbcbbbab9, 60: 0xc0bfbebd,
	} {
		if got, e := data.Word(different, at); got != want || e != api.OK {
			t.Errorf("Word at %d: %#x, %d; want %#x", at, got, e, want)
		}
	}
	for _, c := range []struct {
		at, want uint32
		e        api.Errno
	}{{0, 1, api.OK}, {4, 0xc000003e, api.OK}, {32, 7, api.OK}, {36, 5, api.OK}, {2, 0, api.ErrLoad}, {64, 0, api.ErrLoad}} {
		if got, e := data.Word(example, c.at); got != c.want || e != c.e {
			t.Errorf("Word of the example at %d: %#x, %d; want %#x, %d", c.at, got, e, c.want, c.e)
		}
	}
}

// TestWordNowhere is of P3.2: ErrLoad and 0 beside the multiples of 4 and behind the last word, however far.
func TestWordNowhere(t *testing.T) {
	for _, at := range offsets() {
		there := at < 64 && at&3 == 0
		got, e := data.Word(different, at)
		if there && (got == 0 || e != api.OK) {
			t.Errorf("Word at %d: %#x, %d", at, got, e)
		}
		if !there && (got != 0 || e != api.ErrLoad) {
			t.Errorf("Word at %d, where none is: %#x, %d", at, got, e)
		}
	}
}

// TestLowHigh is of P3.3: the offsets of the six arguments' halves.
func TestLowHigh(t *testing.T) {
	for arg, want := range []struct{ low, high uint32 }{{16, 20}, {24, 28}, {32, 36}, {40, 44}, {48, 52}, {56, 60}} {
		if got, ok := data.Low(arg); got != want.low || !ok {
			t.Errorf("Low of %d: %d, %v; want %d", arg, got, ok, want.low)
		}
		if got, ok := data.High(arg); got != want.high || !ok {
			t.Errorf("High of %d: %d, %v; want %d", arg, got, ok, want.high)
		}
	}
}

// TestLowHighOfNoArgument is of P3.3: 0 and false for all other indices.
func TestLowHighOfNoArgument(t *testing.T) {
	for _, arg := range noIndices() {
		if got, ok := data.Low(arg); got != 0 || ok {
			t.Errorf("Low of %d: %d, %v", arg, got, ok)
		}
		if got, ok := data.High(arg); got != 0 || ok {
			t.Errorf("High of %d: %d, %v", arg, got, ok)
		}
	}
}

// TestRoundTrip is of P3.4, in both directions.
func TestRoundTrip(t *testing.T) {
	for _, d := range samples() {
		if got, e := data.Parse(data.Print(d)); got != d || e != api.OK {
			t.Errorf("Parse of Print of %x: %x, %d", d, got, e)
		}
	}
	for first := range 256 {
		b := count(byte(first), 64)
		for n := range b {
			b[n] ^= byte(first * n)
		}
		d, e := data.Parse(b)
		if got := data.Print(d); !bytes.Equal(got, b) || e != api.OK {
			t.Errorf("Print of Parse of % x: % x, %d", b, got, e)
		}
	}
}

// TestWordsAreBytes is of P3.5: the words of the encoding, and the halves of the arguments.
func TestWordsAreBytes(t *testing.T) {
	for _, d := range samples() {
		b := data.Print(d)
		if len(b) != 64 {
			t.Fatalf("Print of %x: %d bytes", d, len(b))
		}
		for at := 0; at < 64; at += 4 {
			got, e := data.Word(d, uint32(at))
			if want := binary.LittleEndian.Uint32(b[at:]); got != want || e != api.OK {
				t.Errorf("Word of %x at %d: %#x, %d; want %#x", d, at, got, e, want)
			}
		}
		for arg, x := range d.Args {
			at, _ := data.Low(arg)
			if got, e := data.Word(d, at); got != uint32(x) || e != api.OK {
				t.Errorf("lower half of %#x, the argument %d: %#x, %d", x, arg, got, e)
			}
			at, _ = data.High(arg)
			if got, e := data.Word(d, at); got != uint32(x>>32) || e != api.OK {
				t.Errorf("upper half of %#x, the argument %d: %#x, %d", x, arg, got, e)
			}
		}
	}
}

// TestPassedStays is of P0.4: the bytes that are passed stay as they are, behind their length too, and are not kept.
func TestPassedStays(t *testing.T) {
	for n := range 100 {
		b := count(0x81, 100)
		d, _ := data.Parse(b[:n])
		if !bytes.Equal(b, count(0x81, 100)) {
			t.Errorf("Parse of %d bytes changes them: % x", n, b)
		}
		before := d
		scribble(b)
		if d != before || n == 64 && d != different {
			t.Errorf("Parse of %d bytes keeps them: %x", n, d)
		}
	}
}

// TestReturnedIsNew is of P0.4: what Print returns shares no memory, up to its capacity, with what it returned before.
func TestReturnedIsNew(t *testing.T) {
	for _, d := range samples() {
		first, second := data.Print(d), data.Print(d)
		scribble(first)
		if want := encoded(d); !bytes.Equal(second, want) || !bytes.Equal(data.Print(d), want) {
			t.Errorf("Print of %x returns memory that was returned before", d)
		}
	}
}
