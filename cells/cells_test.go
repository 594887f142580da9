package cells_test

import (
	"math"
	"math/rand"
	"slices"
	"strings"
	"testing"

	"vestibule/api"
	"vestibule/cells"
	"vestibule/insn"
	"vestibule/vm"
)

// every is the set of all cells.
const every = 0xffff

// op is an instruction with K, fork a jump with two ways.
func op(code uint16, k uint32) api.Insn { return api.Insn{Code: code, K: k} }

func fork(jt, jf uint8) api.Insn { return api.Insn{Code: insn.Jeq, JT: jt, JF: jf, K: 1} }

// facts is what the package tells of a program as a whole.
type facts struct {
	reached []bool
	sure    []uint16
	unsure  []int
}

func tell(p []api.Insn) facts {
	return facts{cells.Reached(p), cells.Sure(p), cells.Unsure(p)}
}

// want holds what is told of a program against what it should be.
func want(t *testing.T, what string, p []api.Insn, f facts) {
	t.Helper()
	got := tell(p)
	if !slices.Equal(got.reached, f.reached) {
		t.Errorf("%s: %v: reached %v; want %v", what, p, got.reached, f.reached)
	}
	if !slices.Equal(got.sure, f.sure) {
		t.Errorf("%s: %v: sure %#x; want %#x", what, p, got.sure, f.sure)
	}
	if !slices.Equal(got.unsure, f.unsure) {
		t.Errorf("%s: %v: unsure %v; want %v", what, p, got.unsure, f.unsure)
	}
}

// marks is which indices are reached, written as a text of x (reached) and . (not).
func marks(text string) []bool {
	l := make([]bool, len(text))
	for i := range l {
		l[i] = text[i] == 'x'
	}
	return l
}

// straight, forks and answers are the known codes beside ja, as chapter 2 lists them.
var (
	straight = []uint16{
		0x20, 0x80, 0x00, 0x60, 0x81, 0x01, 0x61,
		0x02, 0x03,
		0x04, 0x14, 0x24, 0x34, 0x44, 0x54, 0x64, 0x74, 0xa4, 0x0c, 0x1c, 0x2c, 0x3c, 0x4c, 0x5c, 0x6c, 0x7c, 0xac, 0x84,
		0x07, 0x87,
	}
	forks   = []uint16{0x15, 0x25, 0x35, 0x45, 0x1d, 0x2d, 0x3d, 0x4d}
	answers = []uint16{0x06, 0x16}
)

// TestExamples is of P5.1 to P5.3: the chapter's examples.
func TestExamples(t *testing.T) {
	want(t, "the first example", []api.Insn{fork(0, 1), op(insn.St, 3), op(insn.LdM, 3), op(insn.Ret, 0)},
		facts{marks("xxxx"), []uint16{0, 0, 0, 0}, []int{2}})
	want(t, "the second example", []api.Insn{op(insn.St, 3), op(insn.Ja, 1), op(insn.St, 4), op(insn.LdM, 3), op(insn.Ret, 0)},
		facts{marks("xx.xx"), []uint16{0, 8, every, 8, 8}, nil})
	want(t, "the third example", []api.Insn{op(insn.LdM, 3), op(insn.Ret, 0)},
		facts{marks("xx"), []uint16{0, 0}, []int{0}})
}

// TestNextOfEachCode is of P5.1: all codes, with fields that lead to different places, at each index of a program.
func TestNextOfEachCode(t *testing.T) {
	const n = 6
	for c := range 1 << 16 {
		i := api.Insn{Code: uint16(c), JT: 3, JF: 1, K: 2}
		var far []int
		switch {
		case slices.Contains(straight, i.Code):
			far = []int{1}
		case slices.Contains(forks, i.Code):
			far = []int{2, 4}
		case i.Code == 0x05:
			far = []int{3}
		}
		p := slices.Repeat([]api.Insn{i}, n)
		for at := range n {
			var l []int
			for _, f := range far {
				if at+f < n {
					l = append(l, at+f)
				}
			}
			if got := cells.Next(p, at); !slices.Equal(got, l) {
				t.Errorf("code %#x at %d of %d: %v; want %v", c, at, n, got, l)
			}
		}
	}
}

// TestNextWithoutIndex is of P5.1: there is nothing behind an index that does not exist; what stands behind the length is no instruction.
func TestNextWithoutIndex(t *testing.T) {
	all := []api.Insn{op(insn.LdI, 0), op(insn.LdI, 0), fork(0, 1), op(insn.LdI, 0), op(insn.Ja, 0), op(insn.LdI, 0), op(insn.LdI, 0)}
	for n := range len(all) {
		for _, at := range []int{-1, -2, -n, -n - 1, -1 << 32, math.MinInt, math.MinInt + 1, n, n + 1, n + 2, 1 << 32, 1<<32 - 1, math.MaxInt, math.MaxInt - 1} {
			if at == 0 && n > 0 {
				continue
			}
			if got := cells.Next(all[:n], at); len(got) != 0 {
				t.Errorf("at %d of %d instructions: %v", at, n, got)
			}
		}
		if n > 0 {
			if got := cells.Next(all[:n], n-1); len(got) != 0 {
				t.Errorf("at the last of %d instructions: %v", n, got)
			}
		}
	}
	for _, at := range []int{-1, 0, 1} {
		if got := cells.Next(nil, at); len(got) != 0 {
			t.Errorf("at %d of no instructions: %v", at, got)
		}
	}
}

// TestNextOfForks is of P5.1: ascending, each once, those beyond the end left out, whatever K is.
func TestNextOfForks(t *testing.T) {
	for _, c := range []struct {
		n, at  int
		jt, jf uint8
		want   []int
	}{
		{4, 0, 0, 0, []int{1}},
		{4, 0, 1, 1, []int{2}},
		{4, 0, 0, 1, []int{1, 2}},
		{4, 0, 1, 0, []int{1, 2}},
		{4, 1, 1, 0, []int{2, 3}},
		{4, 0, 2, 2, []int{3}},
		{4, 0, 0, 2, []int{1, 3}},
		{4, 0, 3, 3, nil},
		{4, 0, 0, 3, []int{1}},
		{4, 0, 3, 0, []int{1}},
		{4, 0, 2, 3, []int{3}},
		{4, 0, 3, 2, []int{3}},
		{4, 0, 3, 4, nil},
		{4, 2, 0, 0, []int{3}},
		{4, 2, 1, 0, []int{3}},
		{4, 2, 1, 1, nil},
		{4, 3, 0, 0, nil},
		{4, 3, 0, 255, nil},
		{4, 3, 255, 255, nil},
		{257, 0, 255, 0, []int{1, 256}},
		{257, 0, 254, 255, []int{255, 256}},
		{257, 0, 255, 255, []int{256}},
		{256, 0, 255, 254, []int{255}},
		{256, 0, 255, 255, nil},
		{600, 300, 200, 100, []int{401, 501}},
		{600, 300, 127, 128, []int{428, 429}},
		{api.MaxInsns, api.MaxInsns - 256, 254, 255, []int{api.MaxInsns - 1}},
	} {
		for _, code := range forks {
			for _, k := range []uint32{0, 1, 2, math.MaxUint32} {
				p := make([]api.Insn, c.n)
				p[c.at] = api.Insn{Code: code, JT: c.jt, JF: c.jf, K: k}
				if got := cells.Next(p, c.at); !slices.Equal(got, c.want) {
					t.Errorf("%s (%d, %d), K %d, at %d of %d: %v; want %v", insn.Name(code), c.jt, c.jf, k, c.at, c.n, got, c.want)
				}
			}
		}
	}
}

// TestNextOfJa is of P5.1: by 0, to the last instruction, just behind it, and by numbers that would lead back in 32 bits.
func TestNextOfJa(t *testing.T) {
	for _, n := range []int{1, 2, 3, 300, api.MaxInsns} {
		for _, at := range []int{0, 1, 2, n / 2, n - 2, n - 1} {
			if at < 0 || at >= n {
				continue
			}
			behind := n - at - 1
			for _, k := range []int{0, 1, 2, behind - 2, behind - 1, behind, behind + 1, 255, 256, 1 << 16, 1<<16 + 1, 1<<31 - 1, 1 << 31, 1<<31 + 1, 1<<32 - n - 1, 1<<32 - n, 1<<32 - at - 1, 1<<32 - at, 1<<32 - 3, 1<<32 - 2, 1<<32 - 1} {
				if k < 0 || k > math.MaxUint32 {
					continue
				}
				var l []int
				if k < behind {
					l = []int{at + 1 + k}
				}
				p := make([]api.Insn, n)
				// The two fields of other jumps are none of its own.
				p[at] = api.Insn{Code: insn.Ja, JT: 1, JF: 3, K: uint32(k)}
				if got := cells.Next(p, at); !slices.Equal(got, l) {
					t.Errorf("ja %d at %d of %d: %v; want %v", k, at, n, got, l)
				}
			}
		}
	}
}

// TestFaultyInstructions is of P5.1: an instruction of a known code has its successors, also where the machine would end there.
func TestFaultyInstructions(t *testing.T) {
	for _, i := range []api.Insn{op(insn.LdAbs, 2), op(insn.LdAbs, 64), op(insn.LdM, 16), op(insn.LdxM, 99), op(insn.St, 16), op(insn.Stx, 1<<31), op(insn.Div, 0), op(insn.DivX, 0), op(insn.Lsh, 32), op(insn.Rsh, 99)} {
		want(t, insn.Name(i.Code), []api.Insn{op(insn.St, 1), i, op(insn.LdM, 1), op(insn.Ret, 0)},
			facts{marks("xxxx"), []uint16{0, 2, 2, 2}, nil})
	}
}

// TestReached is of P5.1: what no path leads to is not reached, and neither is what follows it.
func TestReached(t *testing.T) {
	a, ret := op(insn.Add, 1), op(insn.Ret, 1)
	for _, c := range []struct {
		what string
		p    []api.Insn
		want string
	}{
		{"one instruction", []api.Insn{a}, "x"},
		{"one of an unknown code", []api.Insn{op(0xffff, 0)}, "x"},
		{"one jump away", []api.Insn{op(insn.Ja, 7)}, "x"},
		{"behind ret", []api.Insn{ret, a, a, ret}, "x..."},
		{"behind reta", []api.Insn{a, op(insn.RetA, 1), a, ret}, "xx.."},
		{"behind an unknown code", []api.Insn{a, op(0x94, 0), a, ret}, "xx.."},
		{"behind ja", []api.Insn{op(insn.Ja, 2), a, a, a, ret}, "x..xx"},
		{"behind a ja beyond the end", []api.Insn{op(insn.Ja, 3), a, a, ret}, "x..."},
		{"behind a ja by nearly 2^32", []api.Insn{a, op(insn.Ja, 1<<32-1), a, ret}, "xx.."},
		{"behind a ja by nearly 2^32", []api.Insn{a, op(insn.Ja, 1), a, op(insn.Ja, 1<<32-2), a, ret}, "xx.x.."},
		{"behind a ja by 0", []api.Insn{op(insn.Ja, 0), a, ret}, "xxx"},
		{"a ja to the last", []api.Insn{op(insn.Ja, 2), a, ret, a}, "x..x"},
		{"a ja that is not reached", []api.Insn{ret, op(insn.Ja, 1), a, a}, "x..."},
		{"a fork that is not reached", []api.Insn{ret, fork(0, 1), a, a}, "x..."},
		{"between the ways of a fork", []api.Insn{fork(1, 3), a, ret, a, ret}, "x.x.x"},
		{"between the ways of a fork", []api.Insn{fork(3, 1), a, ret, a, ret}, "x.x.x"},
		{"a fork with one way", []api.Insn{fork(1, 1), a, ret}, "x.x"},
		{"a fork with a way beyond the end", []api.Insn{fork(9, 1), a, a, ret}, "x.xx"},
		{"a fork with both beyond the end", []api.Insn{fork(9, 3), a, a, ret}, "x..."},
		{"behind an answer, but jumped to", []api.Insn{fork(0, 1), ret, a, ret, a}, "xxxx."},
		{"a fork whose outcome is certain", []api.Insn{op(insn.LdI, 1), fork(0, 1), ret, ret}, "xxxx"},
	} {
		if got := cells.Reached(c.p); !slices.Equal(got, marks(c.want)) {
			t.Errorf("%s: %v; want %s", c.what, got, c.want)
		}
	}
}

// TestWrites is of P5.2: the cells of st and stx alone, and of numbers below 16 alone.
func TestWrites(t *testing.T) {
	ret := op(insn.Ret, 0)
	for _, code := range []uint16{insn.St, insn.Stx} {
		for k := range uint32(api.Cells) {
			want(t, "a cell", []api.Insn{op(code, k), op(insn.Add, 1), ret}, facts{marks("xxx"), []uint16{0, 1 << k, 1 << k}, nil})
			for _, far := range []uint32{16 + k, 32 + k, 48 + k, 1<<8 + k, 1<<16 + k, 1<<31 + k, math.MaxUint32 - 15 + k} {
				want(t, "a number that is no cell's", []api.Insn{op(code, far), op(insn.LdM, k), ret}, facts{marks("xxx"), []uint16{0, 0, 0}, []int{1}})
			}
		}
	}
	var p []api.Insn
	f := facts{}
	for k := range uint32(api.Cells) {
		p = append(p, op(insn.St, k))
		f.sure = append(f.sure, 1<<k-1)
	}
	f.sure = append(f.sure, every, every)
	f.reached = marks(strings.Repeat("x", 18))
	want(t, "all cells", append(p, op(insn.Stx, 5), ret), f)
	for c := range 1 << 16 {
		if code := uint16(c); code != insn.St && code != insn.Stx {
			if l := cells.Sure([]api.Insn{{Code: code, JT: 3, JF: 3, K: 3}, ret, ret, ret, ret}); slices.Contains(l, 1<<3) {
				t.Errorf("%#x counts as a write", c)
			}
		}
	}
}

// TestReads is of P5.3: ldm and ldxm alone, for numbers below 16 alone, where the cell is not certain.
func TestReads(t *testing.T) {
	ret := op(insn.Ret, 0)
	for _, code := range []uint16{insn.LdM, insn.LdxM} {
		for k := range uint32(api.Cells) {
			for w := range uint32(api.Cells) {
				var l []int
				if k != w {
					l = []int{1}
				}
				if got := cells.Unsure([]api.Insn{op(insn.St, w), op(code, k), ret}); !slices.Equal(got, l) {
					t.Errorf("%s %d behind st %d: %v", insn.Name(code), k, w, got)
				}
			}
			for _, far := range []uint32{16 + k, 32 + k, 48 + k, 1<<8 + k, 1<<16 + k, 1<<31 + k, math.MaxUint32 - 15 + k} {
				if got := cells.Unsure([]api.Insn{op(code, far), op(code, k), ret}); !slices.Equal(got, []int{1}) {
					t.Errorf("%s %d: %v", insn.Name(code), far, got)
				}
			}
		}
	}
	for c := range 1 << 16 {
		if code := uint16(c); code != insn.LdM && code != insn.LdxM {
			if got := cells.Unsure([]api.Insn{op(code, 3), ret}); len(got) != 0 {
				t.Errorf("%#x counts as a read", c)
			}
		}
	}
	// To read a cell is not to write it, and a write does not count at its own index.
	want(t, "reads", []api.Insn{op(insn.LdM, 3), op(insn.LdxM, 3), op(insn.St, 3), op(insn.LdM, 3), op(insn.LdxM, 4), ret},
		facts{marks("xxxxxx"), []uint16{0, 0, 0, 8, 8, 8}, []int{0, 1, 4}})
}

// TestMeetings is of P5.2 and P5.3: where paths meet, the cells that are written on all of them are certain.
func TestMeetings(t *testing.T) {
	st, ld, ja, ret := uint16(insn.St), uint16(insn.LdM), uint16(insn.Ja), op(insn.Ret, 0)
	for _, c := range []struct {
		what string
		p    []api.Insn
		f    facts
	}{
		{"a cell a way",
			[]api.Insn{fork(0, 2), op(st, 1), op(ja, 1), op(st, 2), op(ld, 1), op(ld, 2), ret},
			facts{marks("xxxxxxx"), []uint16{0, 0, 2, 0, 0, 0, 0}, []int{4, 5}}},
		{"the same cell on both ways",
			[]api.Insn{fork(0, 3), op(st, 1), op(st, 5), op(ja, 2), op(insn.Stx, 5), op(st, 2), op(ld, 5), op(ld, 1), ret},
			facts{marks("xxxxxxxxx"), []uint16{0, 0, 2, 34, 0, 32, 32, 32, 32}, []int{7}}},
		{"a cell that is written before the fork",
			[]api.Insn{op(st, 0), fork(0, 1), op(st, 15), op(ld, 0), op(ld, 15), ret},
			facts{marks("xxxxxx"), []uint16{0, 1, 1, 1, 1, 1}, []int{4}}},
		{"a cell that is written behind the meeting",
			[]api.Insn{fork(0, 1), op(st, 15), op(st, 15), op(ld, 15), ret},
			facts{marks("xxxxx"), []uint16{0, 0, 0, 1 << 15, 1 << 15}, nil}},
		{"the way that writes nothing comes by the other field",
			[]api.Insn{fork(1, 0), op(st, 3), op(ld, 3), ret},
			facts{marks("xxxx"), []uint16{0, 0, 0, 0}, []int{2}}},
		{"a way that ends with an answer",
			[]api.Insn{fork(0, 1), ret, op(st, 3), op(ld, 3), ret},
			facts{marks("xxxxx"), []uint16{0, 0, 0, 8, 8}, nil}},
		{"a way that ends with an unknown code",
			[]api.Insn{fork(0, 2), op(st, 3), op(ja, 1), op(0x28, 0), op(ld, 3), ret},
			facts{marks("xxxxxx"), []uint16{0, 0, 8, 0, 8, 8}, nil}},
		{"a way that leads beyond the end",
			[]api.Insn{fork(0, 9), op(st, 3), op(ld, 3), ret},
			facts{marks("xxxx"), []uint16{0, 0, 8, 8}, nil}},
		{"a write that is not reached",
			[]api.Insn{op(st, 2), op(ja, 1), op(st, 3), op(ld, 3), op(ld, 2), ret},
			facts{marks("xx.xxx"), []uint16{0, 4, every, 4, 4, 4}, []int{3}}},
		{"reads that are not reached",
			[]api.Insn{op(ja, 2), op(ld, 3), op(insn.LdxM, 15), ret, op(ld, 0)},
			facts{marks("x..x."), []uint16{0, every, every, 0, every}, nil}},
		{"a jump that is not reached",
			[]api.Insn{op(st, 1), op(ja, 1), op(ja, 0), op(ld, 1), op(ld, 2), ret},
			facts{marks("xx.xxx"), []uint16{0, 2, every, 2, 2, 2}, []int{4}}},
		{"three ways",
			[]api.Insn{fork(0, 3), op(st, 1), op(st, 2), op(ja, 5), fork(0, 2), op(st, 2), op(ja, 2), op(st, 3), op(st, 2), op(ld, 2), ret},
			facts{marks("xxxxxxxxxxx"), []uint16{0, 0, 2, 6, 0, 0, 4, 0, 8, 4, 4}, nil}},
		{"a fork with one way",
			[]api.Insn{fork(1, 1), op(st, 1), op(st, 2), op(ld, 2), ret},
			facts{marks("x.xxx"), []uint16{0, every, 0, 4, 4}, nil}},
		{"a write of a number that is no cell's, on one way",
			[]api.Insn{fork(0, 2), op(st, 3), op(ja, 1), op(st, 19), op(ld, 3), ret},
			facts{marks("xxxxxx"), []uint16{0, 0, 8, 0, 0, 0}, []int{4}}},
	} {
		want(t, c.what, c.p, c.f)
	}
}

// TestNoInstructions is of P5.1 to P5.3 and P0.4: a nil slice is an empty one.
func TestNoInstructions(t *testing.T) {
	behind := []api.Insn{op(insn.LdM, 3), op(insn.Ret, 0)}
	for _, p := range [][]api.Insn{nil, {}, behind[:0]} {
		want(t, "no instructions", p, facts{})
	}
	want(t, "an instruction behind the length", behind[:1], facts{marks("x"), []uint16{0}, []int{0}})
}

// TestLength is of P5.1 to P5.3: a program of MaxInsns instructions is gone through to its end, of a longer one nothing is told.
func TestLength(t *testing.T) {
	for _, n := range []int{api.MaxInsns - 1, api.MaxInsns, api.MaxInsns + 1, api.MaxInsns + 2, 2 * api.MaxInsns, 1 << 17} {
		for _, i := range []api.Insn{op(insn.Add, 1), op(insn.Ja, 0), fork(0, 0), op(insn.LdxM, 1), fork(0, 1), fork(255, 0)} {
			p := slices.Repeat([]api.Insn{i}, n)
			p[0] = op(insn.Stx, 15)
			p[n-1] = op(insn.LdM, 3)
			if n > api.MaxInsns {
				want(t, "a long program", p, facts{})
				for _, at := range []int{-1, 0, 1, n - 2, n - 1, n} {
					if got := cells.Next(p, at); len(got) != 0 {
						t.Errorf("at %d of %d instructions: %v", at, n, got)
					}
				}
				continue
			}
			f := tell(p)
			if len(f.reached) != n || slices.Contains(f.reached, false) {
				t.Errorf("%d times %s: not all are reached", n, insn.Name(i.Code))
			}
			if len(f.sure) != n || f.sure[0] != 0 || slices.IndexFunc(f.sure[1:], func(s uint16) bool { return s != 1<<15 }) >= 0 {
				t.Errorf("%d times %s: %#x", n, insn.Name(i.Code), f.sure)
			}
			if len(f.unsure) == 0 || f.unsure[len(f.unsure)-1] != n-1 || len(f.unsure) != 1 && len(f.unsure) != n-1 {
				t.Errorf("%d times %s: %v", n, insn.Name(i.Code), f.unsure)
			}
			if got := cells.Next(p, 0); !slices.Equal(got, []int{1}) {
				t.Errorf("at 0 of %d instructions: %v", n, got)
			}
			if got := cells.Next(p, n-2); !slices.Equal(got, []int{n - 1}) {
				t.Errorf("at %d of %d instructions: %v", n-2, n, got)
			}
		}
	}
}

// ahead is the chapter's definition of successors, by the names of the codes.
func ahead(p []api.Insn, at int) []int {
	i := p[at]
	name := insn.Name(i.Code)
	var l []int
	switch {
	case name == "" || strings.HasPrefix(name, "ret"):
	case name == "ja":
		l = []int{at + 1 + int(i.K)}
	case strings.HasPrefix(name, "j"):
		l = []int{at + 1 + int(i.JT), at + 1 + int(i.JF)}
	default:
		l = []int{at + 1}
	}
	slices.Sort(l)
	return slices.DeleteFunc(slices.Compact(l), func(to int) bool { return to >= len(p) })
}

// cellOf is the cell of an instruction whose name begins so, or -1.
func cellOf(i api.Insn, names ...string) int {
	if i.K < 16 && slices.Contains(names, insn.Name(i.Code)) {
		return int(i.K)
	}
	return -1
}

// byPaths goes all paths of a program, as the chapter's definitions have it; it is for short ones.
func byPaths(p []api.Insn) facts {
	f := facts{reached: make([]bool, len(p)), sure: slices.Repeat([]uint16{every}, len(p))}
	var path func(at int, before uint16)
	path = func(at int, before uint16) {
		f.reached[at] = true
		f.sure[at] &= before
		if c := cellOf(p[at], "st", "stx"); c >= 0 {
			before |= 1 << c
		}
		for _, to := range ahead(p, at) {
			path(to, before)
		}
	}
	if len(p) > 0 {
		path(0, 0)
	}
	return withUnsure(p, f)
}

// byCells looks for each cell where one comes without a write of it; it is for long programs too.
func byCells(p []api.Insn) facts {
	f := facts{reached: without(p, -2), sure: slices.Repeat([]uint16{every}, len(p))}
	for c := range 16 {
		for at, open := range without(p, c) {
			if open {
				f.sure[at] &^= 1 << c
			}
		}
	}
	return withUnsure(p, f)
}

// without tells the indices to which a path leads on which no instruction before writes the cell.
func without(p []api.Insn, cell int) []bool {
	open := make([]bool, len(p))
	var work []int
	if len(p) > 0 {
		work = []int{0}
	}
	for len(work) > 0 {
		at := work[len(work)-1]
		work = work[:len(work)-1]
		if open[at] {
			continue
		}
		open[at] = true
		if cellOf(p[at], "st", "stx") != cell {
			work = append(work, ahead(p, at)...)
		}
	}
	return open
}

func withUnsure(p []api.Insn, f facts) facts {
	for at, i := range p {
		if c := cellOf(i, "ldm", "ldxm"); c >= 0 && f.reached[at] && f.sure[at]>>c&1 == 0 {
			f.unsure = append(f.unsure, at)
		}
	}
	return f
}

// maker makes programs and data. Its seed is fixed, so that each run of the tests sees the same ones.
type maker struct {
	*rand.Rand
	codes []uint16
}

func newMaker() *maker {
	return &maker{rand.New(rand.NewSource(5)), slices.Concat(straight, forks, answers, []uint16{insn.Ja})}
}

// number makes a number, often a cell's, now and then one whose lower bits are a cell's.
func (m *maker) number() uint32 {
	k := uint32(m.Intn(5)) * 5 % 17
	switch m.Intn(12) {
	case 0:
		return k + 16<<m.Intn(29)
	case 1:
		return m.Uint32()
	}
	return k
}

// insn makes one instruction, with many writes, reads and forks among them. Jumps lead at most far on, but for a few.
func (m *maker) insn(far int) api.Insn {
	i := api.Insn{Code: m.codes[m.Intn(len(m.codes))], JT: uint8(m.Intn(far)), JF: uint8(m.Intn(far)), K: m.number()}
	switch m.Intn(10) {
	case 0, 1, 2:
		i.Code = []uint16{insn.St, insn.Stx}[m.Intn(2)]
	case 3:
		i.Code = []uint16{insn.LdM, insn.LdxM}[m.Intn(2)]
	case 4:
		i.Code = forks[m.Intn(len(forks))]
	case 5:
		if m.Intn(20) == 0 {
			i.Code = uint16(m.Intn(1 << 16))
		}
	}
	if insn.Of(i.Code) == insn.Answer && m.Intn(2) == 0 {
		i.Code = insn.Ja
	}
	if i.Code == insn.Ja && m.Intn(20) != 0 {
		i.K = uint32(m.Intn(far))
	}
	return i
}

func (m *maker) program(n, far int) []api.Insn {
	p := make([]api.Insn, n)
	for i := range p {
		p[i] = m.insn(far)
	}
	return p
}

func (m *maker) data() api.Data {
	d := api.Data{Nr: m.number(), Arch: m.number(), IP: m.Uint64()}
	for i := range d.Args {
		d.Args[i] = uint64(m.number())
	}
	return d
}

// TestPaths is of P5.1 to P5.3: short programs of all kinds against all their paths.
func TestPaths(t *testing.T) {
	m := newMaker()
	hidden, certain, unsure := 0, 0, 0
	for range 40000 {
		p := m.program(m.Intn(18), 5)
		f := byPaths(p)
		want(t, "a program", p, f)
		want(t, "a program, by its cells", p, byCells(p))
		if t.Failed() {
			return
		}
		for at := range p {
			if got := cells.Next(p, at); !slices.Equal(got, ahead(p, at)) {
				t.Fatalf("%v: at %d: %v; want %v", p, at, got, ahead(p, at))
			}
			if !f.reached[at] {
				hidden++
			} else if f.sure[at] != 0 {
				certain++
			}
		}
		unsure += len(f.unsure)
	}
	if hidden < 10000 || certain < 10000 || unsure < 5000 {
		t.Errorf("%d indices alone are not reached, %d have a cell that is certain, %d read one that is not", hidden, certain, unsure)
	}
}

// TestLongPaths is of P5.1 to P5.3: programs up to MaxInsns.
func TestLongPaths(t *testing.T) {
	m := newMaker()
	for n := range 60 {
		p := m.program(api.MaxInsns-n*n, []int{5, 40, 256}[n%3])
		for at := range p {
			// Too many ends would leave the greater part of the program without a path to it.
			if c := insn.Of(p[at].Code); c == insn.Answer || c == insn.None || p[at].Code == insn.Ja && p[at].K > 256 {
				p[at] = fork(uint8(m.Intn(256)), uint8(m.Intn(3)))
			}
		}
		if got, f := tell(p), byCells(p); !slices.Equal(got.reached, f.reached) || !slices.Equal(got.sure, f.sure) || !slices.Equal(got.unsure, f.unsure) {
			t.Fatalf("the long program %d: not as by its cells", n)
		}
	}
}

// TestExecution is of P5.4: what is executed is reached, and what is certain there has been written.
func TestExecution(t *testing.T) {
	m := newMaker()
	executed, certain := 0, 0
	for range 40000 {
		p := m.program(m.Intn(40), 6)
		f := tell(p)
		for range 4 {
			var wrote uint16
			for _, at := range vm.Trace(p, m.data()) {
				if !f.reached[at] {
					t.Fatalf("%v: %d is executed, but not reached", p, at)
				}
				if f.sure[at]&^wrote != 0 {
					t.Fatalf("%v: at %d %#x is certain, but %#x written", p, at, f.sure[at], wrote)
				}
				if f.sure[at] != 0 {
					certain++
				}
				executed++
				if c := cellOf(p[at], "st", "stx"); c >= 0 {
					wrote |= 1 << c
				}
			}
		}
	}
	if executed < 100000 || certain < 50000 {
		t.Errorf("%d instructions alone are executed, and at %d is a cell certain", executed, certain)
	}
}

// TestOneMoreStore is of P5.5: a write at the beginning makes its cell certain everywhere else, and takes nothing away; it adds no other cell either.
func TestOneMoreStore(t *testing.T) {
	m := newMaker()
	programs := [][]api.Insn{nil, m.program(api.MaxInsns-1, 9), m.program(api.MaxInsns-2, 256)}
	for range 3000 {
		programs = append(programs, m.program(m.Intn(30), 5))
	}
	for _, p := range programs {
		before := cells.Sure(p)
		for _, code := range []uint16{insn.St, insn.Stx} {
			for k := range uint32(20) {
				var wrote uint16
				if k < 16 {
					wrote = 1 << k
				}
				after := cells.Sure(slices.Insert(slices.Clone(p), 0, op(code, k)))
				if len(after) != len(p)+1 || after[0] != 0 {
					t.Fatalf("%d instructions with %s %d: %#x", len(p), insn.Name(code), k, after[:min(len(after), 1)])
				}
				for at, sure := range after[1:] {
					if sure != before[at]|wrote {
						t.Fatalf("%v with %s %d: at %d: %#x, before %#x", p[:min(len(p), 30)], insn.Name(code), k, at, sure, before[at])
					}
				}
			}
		}
	}
}

// TestPassedStays is of P0.4: what is passed stays as it is, behind its length too, and nothing is kept of it.
func TestPassedStays(t *testing.T) {
	m := newMaker()
	for range 2000 {
		all := m.program(1+m.Intn(30), 5)
		was := slices.Clone(all)
		p := all[:m.Intn(len(all))]
		first := tell(p)
		for at := -1; at <= len(p); at++ {
			cells.Next(p, at)
		}
		if !slices.Equal(all, was) {
			t.Fatalf("%v is changed: %v", was, all)
		}
		// Other programs in the same memory, and in between, have no influence.
		for i := range all {
			all[i] = m.insn(5)
		}
		want(t, "other instructions in the same memory", p, byPaths(p))
		copy(all, was)
		want(t, "the same program once more", p, first)
	}
}

// scribble changes a slice up to its capacity.
func scribble[T any](l []T, x T) {
	l = l[:cap(l)]
	for i := range l {
		l[i] = x
	}
}

// TestReturnedIsNew is of P0.4: what is returned shares no memory, up to its capacity, with what was returned before.
func TestReturnedIsNew(t *testing.T) {
	m := newMaker()
	for range 2000 {
		p := m.program(m.Intn(18), 5)
		f := byPaths(p)
		first, second := tell(p), tell(p)
		scribble(first.reached, true)
		scribble(first.sure, 0x5a5a)
		scribble(first.unsure, -7)
		if !slices.Equal(second.reached, f.reached) || !slices.Equal(second.sure, f.sure) || !slices.Equal(second.unsure, f.unsure) {
			t.Fatalf("%v: what is told of it was returned before", p)
		}
		want(t, "a program once more", p, f)
		for at := range p {
			one, two := cells.Next(p, at), cells.Next(p, at)
			scribble(one, -7)
			if l := ahead(p, at); !slices.Equal(two, l) || !slices.Equal(cells.Next(p, at), l) {
				t.Fatalf("%v: the successors at %d were returned before", p, at)
			}
		}
	}
}
