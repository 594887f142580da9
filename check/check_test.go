package check_test

import (
	"math"
	"math/rand"
	"slices"
	"strings"
	"testing"

	"vestibule/api"
	"vestibule/cells"
	"vestibule/check"
	"vestibule/insn"
	"vestibule/vm"
)

// op is an instruction with K, fork a jump with two ways.
func op(code uint16, k uint32) api.Insn { return api.Insn{Code: code, K: k} }

func fork(jt, jf uint8) api.Insn { return api.Insn{Code: insn.Jeq, JT: jt, JF: jf, K: 1} }

// ret and add are instructions that are right wherever they stand.
var ret, add = op(insn.Ret, 1), op(insn.Add, 1)

// forks and others are the known codes beside ja, as chapter 2 lists them.
var (
	forks  = []uint16{0x15, 0x25, 0x35, 0x45, 0x1d, 0x2d, 0x3d, 0x4d}
	others = []uint16{
		0x20, 0x80, 0x00, 0x60, 0x81, 0x01, 0x61,
		0x02, 0x03,
		0x04, 0x14, 0x24, 0x34, 0x44, 0x54, 0x64, 0x74, 0xa4, 0x0c, 0x1c, 0x2c, 0x3c, 0x4c, 0x5c, 0x6c, 0x7c, 0xac, 0x84,
		0x06, 0x16,
		0x07, 0x87,
	}
)

// want holds what is told of a program against what it should be.
func want(t *testing.T, what string, p []api.Insn, at int, e api.Errno) {
	t.Helper()
	short := p[:min(len(p), 40)]
	if gotAt, got := check.At(p); gotAt != at || got != e {
		t.Errorf("%s: At of %v: %d, %d; want %d, %d", what, short, gotAt, got, at, e)
	}
	if got := check.Check(p); got != e {
		t.Errorf("%s: Check of %v: %d; want %d", what, short, got, e)
	}
}

// wantOne holds what is told of an instruction against what it should be.
func wantOne(t *testing.T, i api.Insn, left int, e api.Errno) {
	t.Helper()
	if got := check.One(i, left); got != e {
		t.Errorf("One of %s %v, with %d behind it: %d; want %d", insn.Name(i.Code), i, left, got, e)
	}
}

// TestExamples is of P6.1: the chapter's examples.
func TestExamples(t *testing.T) {
	r := op(insn.Ret, 0)
	for _, c := range []struct {
		what string
		p    []api.Insn
		at   int
		e    api.Errno
	}{
		{"ret", []api.Insn{r}, 0, api.OK},
		{"no instructions", nil, 0, api.ErrSize},
		{"ldi 1", []api.Insn{op(insn.LdI, 1)}, 0, api.ErrEnd},
		{"ldabs 64; ret", []api.Insn{op(insn.LdAbs, 64), r}, 0, api.ErrLoad},
		{"lsh 32; ret", []api.Insn{op(insn.Lsh, 32), r}, 0, api.ErrShift},
		{"div 0; ret", []api.Insn{op(insn.Div, 0), r}, 0, api.ErrDiv},
		{"st 16; ret", []api.Insn{op(insn.St, 16), r}, 0, api.ErrCell},
		{"jeq (0, 2); ret; ret", []api.Insn{fork(0, 2), r, r}, 0, api.ErrJump},
		{"ja 1; ret", []api.Insn{op(insn.Ja, 1), r}, 0, api.ErrJump},
		{"ldi 1; ldm 0; reta", []api.Insn{op(insn.LdI, 1), op(insn.LdM, 0), op(insn.RetA, 0)}, 1, api.ErrUnset},
	} {
		want(t, c.what, c.p, c.at, c.e)
	}
}

// TestSize is of P6.1 and P0.4: a nil slice is an empty one, what stands behind the length is no instruction, and a program that is too long has no other fault.
func TestSize(t *testing.T) {
	behind := []api.Insn{ret, ret}
	for _, p := range [][]api.Insn{nil, {}, behind[:0]} {
		want(t, "no instructions", p, 0, api.ErrSize)
	}
	want(t, "an answer behind the length", []api.Insn{add, ret}[:1], 0, api.ErrEnd)
	want(t, "a way behind the length", []api.Insn{fork(0, 1), ret, ret}[:2], 0, api.ErrJump)
	for _, n := range []int{1, 2, 3, 255, 256, 257, api.MaxInsns - 1, api.MaxInsns, api.MaxInsns + 1, api.MaxInsns + 2, 2 * api.MaxInsns, 1 << 16, 1<<16 + 1} {
		for _, i := range []api.Insn{ret, add, fork(0, 0), op(insn.Ja, 0)} {
			p := slices.Repeat([]api.Insn{i}, n)
			p[n-1] = ret
			var e api.Errno
			if n > api.MaxInsns {
				e = api.ErrSize
			}
			want(t, "a program of any length", p, 0, e)
		}
	}
	for _, i := range []api.Insn{add, op(0xffff, 0), op(insn.LdAbs, 1), op(insn.St, 16), op(insn.Div, 0), op(insn.Rsh, 32), op(insn.Ja, 9), op(insn.LdM, 0)} {
		p := slices.Repeat([]api.Insn{i}, api.MaxInsns+1)
		want(t, "a program that is too long, with other faults", p, 0, api.ErrSize)
	}
}

// TestLongPrograms is of P6.1: a program of MaxInsns is gone through from its first instruction to its last.
func TestLongPrograms(t *testing.T) {
	for _, at := range []int{0, 1, 255, 256, 257, 2048, api.MaxInsns - 2, api.MaxInsns - 1} {
		p := slices.Repeat([]api.Insn{add}, api.MaxInsns)
		p[len(p)-1] = ret
		p[at] = op(insn.LdAbs, 64)
		want(t, "a load at some index", p, at, api.ErrLoad)
		p[at] = op(insn.Ja, uint32(len(p)-at-1))
		want(t, "a jump at some index", p, at, api.ErrJump)
		if at == len(p)-1 {
			p[at] = add
			want(t, "no answer at the end", p, at, api.ErrEnd)
			continue
		}
		p[at] = op(insn.Ja, uint32(len(p)-at-2))
		want(t, "a jump to the last instruction", p, 0, api.OK)
		p[at] = op(insn.LdxM, 15)
		want(t, "a cell that is not written", p, at, api.ErrUnset)
	}
}

// TestCodes is of P6.1 and P6.2: all codes, known and not.
func TestCodes(t *testing.T) {
	known := slices.Concat(others, forks, []uint16{0x05})
	for c := range 1 << 16 {
		i := op(uint16(c), 4)
		var e api.Errno
		if !slices.Contains(known, i.Code) {
			e = api.ErrOp
		}
		wantOne(t, i, 5, e)
		// Neither the number of instructions that follow nor a field can make a code that is not known right, or wrong otherwise.
		if e == api.ErrOp {
			for _, left := range []int{math.MinInt, -1, 0, math.MaxInt} {
				wantOne(t, api.Insn{Code: i.Code, JT: 255, JF: 255, K: math.MaxUint32}, left, e)
				wantOne(t, op(i.Code, 0), left, e)
			}
			want(t, "a code that is not known", []api.Insn{i, ret}, 0, e)
			want(t, "a code that is not known", []api.Insn{add, add, i, ret}, 2, e)
			want(t, "a code that is not known", []api.Insn{add, i}, 1, e)
		}
	}
	if len(known) != 41 {
		t.Errorf("%d codes are known", len(known))
	}
}

// bound is a code, and whether its K is a fault or none.
type bound struct {
	codes []uint16
	e     api.Errno
	right []uint32
	wrong []uint32
}

// bounds are the faults that K alone makes.
func bounds() []bound {
	var words, beside []uint32
	for k := range uint32(64) {
		if k%4 == 0 {
			words = append(words, k)
		} else {
			beside = append(beside, k)
		}
	}
	// Numbers that would be right if some of their bits were lost, or with a sign.
	far := []uint32{1<<8 + 8, 1<<16 + 8, 1<<31 - 4, 1 << 31, 1<<31 + 8, math.MaxUint32 - 7, math.MaxUint32 - 3, math.MaxUint32}
	return []bound{
		{[]uint16{insn.LdAbs}, api.ErrLoad, words, slices.Concat(beside, []uint32{64, 65, 66, 67, 68, 72, 96, 128, 255, 256}, far)},
		{[]uint16{insn.LdM, insn.LdxM, insn.St, insn.Stx}, api.ErrCell, []uint32{0, 1, 2, 7, 8, 14, 15}, slices.Concat([]uint32{16, 17, 18, 31, 32, 64, 255, 256}, far)},
		{[]uint16{insn.Div}, api.ErrDiv, slices.Concat([]uint32{1, 2, 3, 255, 256, 1 << 16}, far), []uint32{0}},
		{[]uint16{insn.Lsh, insn.Rsh}, api.ErrShift, []uint32{0, 1, 2, 15, 16, 30, 31}, slices.Concat([]uint32{32, 33, 63, 64, 255, 256}, far)},
	}
}

// TestBounds is of P6.1 and P6.2: each fault of K at its bound and just within it, at the first index, at a later one and at the last.
func TestBounds(t *testing.T) {
	lefts := []int{math.MinInt, -1, 0, 1, 7, math.MaxInt}
	for _, b := range bounds() {
		for _, code := range b.codes {
			for _, k := range b.right {
				// The two fields of jumps are none of its own.
				i := api.Insn{Code: code, JT: 0xee, JF: 0xdd, K: k}
				for _, left := range lefts {
					wantOne(t, i, left, api.OK)
				}
				// A cell is written ahead of the instruction, as it may read one.
				want(t, "within the bound", []api.Insn{op(insn.St, k%16), i, ret}, 0, api.OK)
				if code != insn.LdM && code != insn.LdxM {
					want(t, "within the bound, at first", []api.Insn{i, ret}, 0, api.OK)
				}
			}
			for _, k := range b.wrong {
				i := op(code, k)
				for _, left := range lefts {
					wantOne(t, i, left, b.e)
				}
				want(t, "beyond the bound, at first", []api.Insn{i, ret}, 0, b.e)
				want(t, "beyond the bound", []api.Insn{add, add, add, i, add, ret}, 3, b.e)
				want(t, "beyond the bound, at last", []api.Insn{add, i}, 1, b.e)
			}
		}
	}
}

// TestAnyK is of P6.2: for all other codes each K is right, whatever follows.
func TestAnyK(t *testing.T) {
	bounded := []uint16{insn.LdAbs, insn.LdM, insn.LdxM, insn.St, insn.Stx, insn.Div, insn.Lsh, insn.Rsh}
	for _, code := range others {
		if slices.Contains(bounded, code) {
			continue
		}
		for _, k := range []uint32{0, 1, 2, 3, 15, 16, 31, 32, 63, 64, 1 << 16, 1 << 31, math.MaxUint32} {
			for _, left := range []int{math.MinInt, -1, 0, 1, math.MaxInt} {
				wantOne(t, api.Insn{Code: code, JT: 255, JF: 254, K: k}, left, api.OK)
			}
			want(t, "any K", []api.Insn{{Code: code, JT: 255, JF: 254, K: k}, ret}, 0, api.OK)
		}
	}
}

// jumpWant tells what is wanted of a jump that skips up to far instructions.
func jumpWant(far uint64, left int) api.Errno {
	if left > 0 && far < uint64(left) {
		return api.OK
	}
	return api.ErrJump
}

// TestForks is of P6.2: both ways of each jump but ja, whatever K is.
func TestForks(t *testing.T) {
	lefts := []int{math.MinInt, math.MinInt + 1, -1 << 32, -256, -2, -1, 0, 1, 2, 3, 4, 127, 128, 129, 254, 255, 256, 257, 1 << 16, math.MaxInt32, math.MaxInt - 1, math.MaxInt}
	ways := []uint8{0, 1, 2, 3, 126, 127, 128, 253, 254, 255}
	for _, code := range forks {
		for _, jt := range ways {
			for _, jf := range ways {
				for _, left := range lefts {
					e := jumpWant(uint64(max(jt, jf)), left)
					for _, k := range []uint32{0, 1, 300, math.MaxUint32} {
						wantOne(t, api.Insn{Code: code, JT: jt, JF: jf, K: k}, left, e)
					}
				}
			}
		}
	}
}

// TestJa is of P6.2: by all of K, also by numbers that would lead back in 32 bits, whatever the two other fields are.
func TestJa(t *testing.T) {
	lefts := []int{math.MinInt, math.MinInt + 1, -1 << 32, -1<<32 + 1, -2, -1, 0, 1, 2, 3, 255, 256, 4095, 4096, 1<<16 + 1, math.MaxInt32, math.MaxInt - 1, math.MaxInt}
	for _, left := range lefts {
		for _, k := range []int64{0, 1, 2, 3, 254, 255, 256, 4094, 4095, 4096, 1 << 16, 1<<16 + 1, 1<<31 - 1, 1 << 31, 1<<31 + 1, 1<<32 - 4096, 1<<32 - 3, 1<<32 - 2, 1<<32 - 1, int64(left) - 2, int64(left) - 1, int64(left)} {
			if k < 0 || k > math.MaxUint32 {
				continue
			}
			for _, f := range [][2]uint8{{0, 0}, {255, 0}, {0, 255}, {255, 255}} {
				wantOne(t, api.Insn{Code: insn.Ja, JT: f[0], JF: f[1], K: uint32(k)}, left, jumpWant(uint64(k), left))
			}
		}
	}
}

// TestJumpsInPrograms is of P6.1: to the last instruction and just behind it, from the first index, a later one and the last, and by numbers near 2^32.
func TestJumpsInPrograms(t *testing.T) {
	for _, n := range []int{1, 2, 3, 5, 200, 256, 257, 300, api.MaxInsns} {
		for _, at := range []int{0, 1, 2, n / 2, n - 3, n - 2, n - 1} {
			if at < 0 || at >= n {
				continue
			}
			p := slices.Repeat([]api.Insn{ret}, n)
			left := n - at - 1
			hold := func(i api.Insn, far int) {
				p[at] = i
				if e := jumpWant(uint64(far), left); e != api.OK {
					want(t, "a jump beyond the program", p, at, e)
				} else {
					want(t, "a jump within the program", p, 0, api.OK)
				}
			}
			for _, k := range []int{0, 1, left - 2, left - 1, left, left + 1, 1 << 31, 1<<32 - n, 1<<32 - at - 2, 1<<32 - at - 1, 1<<32 - at, 1<<32 - 2, 1<<32 - 1} {
				if k >= 0 && k <= math.MaxUint32 {
					hold(op(insn.Ja, uint32(k)), k)
				}
				if k < 0 || k > 255 {
					continue
				}
				for _, code := range forks {
					hold(api.Insn{Code: code, JT: uint8(k)}, k)
					hold(api.Insn{Code: code, JF: uint8(k)}, k)
					hold(api.Insn{Code: code, JT: uint8(k), JF: uint8(k)}, k)
				}
			}
		}
	}
}

// TestEnd is of P6.1 and P6.4: the last instruction is ret or reta; a jump there leads beyond the program.
func TestEnd(t *testing.T) {
	for _, code := range slices.Concat(others, forks, []uint16{0x05}) {
		e := api.ErrEnd
		switch {
		case code == 0x06 || code == 0x16:
			e = api.OK
		case code == 0x05 || slices.Contains(forks, code):
			e = api.ErrJump
		}
		for n := range 4 {
			for _, ahead := range []api.Insn{add, ret} {
				p := append(slices.Repeat([]api.Insn{ahead}, n), op(code, 4))
				at := n
				if e == api.OK {
					at = 0
				}
				want(t, "the last instruction", p, at, e)
			}
		}
	}
}

// TestOrder is of P6.1: of several faults the first one counts, instructions ahead of the end, the end ahead of cells.
func TestOrder(t *testing.T) {
	ld := op(insn.LdM, 0)
	for _, c := range []struct {
		what string
		p    []api.Insn
		at   int
		e    api.Errno
	}{
		{"a jump ahead of a load", []api.Insn{op(insn.Ja, 9), op(insn.LdAbs, 1), ret}, 0, api.ErrJump},
		{"a load ahead of a jump", []api.Insn{op(insn.LdAbs, 1), op(insn.Ja, 9), ret}, 0, api.ErrLoad},
		{"a shift ahead of an unknown code", []api.Insn{add, op(insn.Rsh, 32), op(0x94, 0), ret}, 1, api.ErrShift},
		{"an unknown code ahead of a shift", []api.Insn{add, op(0x94, 0), op(insn.Rsh, 32), ret}, 1, api.ErrOp},
		{"a division ahead of a cell", []api.Insn{add, add, op(insn.Div, 0), op(insn.Stx, 16), ret}, 2, api.ErrDiv},
		{"a cell ahead of a division", []api.Insn{add, add, op(insn.Stx, 16), op(insn.Div, 0), ret}, 2, api.ErrCell},
		{"the same fault twice", []api.Insn{add, op(insn.Div, 0), op(insn.Div, 0), ret}, 1, api.ErrDiv},
		{"no answer, and a fault ahead of it", []api.Insn{add, op(insn.LdAbs, 64), add}, 1, api.ErrLoad},
		{"a fault of the last instruction that is no answer", []api.Insn{add, op(insn.Lsh, 32)}, 1, api.ErrShift},
		{"a last instruction of an unknown code", []api.Insn{add, op(0xffff, 0)}, 1, api.ErrOp},
		{"a cell that is not written ahead of a fault", []api.Insn{ld, op(insn.Div, 0), ret}, 1, api.ErrDiv},
		{"a cell that is not written ahead of a jump", []api.Insn{ld, fork(1, 0), ret}, 1, api.ErrJump},
		{"a cell that is not written, and no answer", []api.Insn{ld, add, add}, 2, api.ErrEnd},
		{"a cell that is not written, read at last", []api.Insn{add, ld}, 1, api.ErrEnd},
		{"two cells that are not written", []api.Insn{add, op(insn.LdxM, 3), ld, ret}, 1, api.ErrUnset},
		{"a cell that there is not behind one that is not written", []api.Insn{ld, op(insn.LdM, 16), ret}, 1, api.ErrCell},
	} {
		want(t, c.what, c.p, c.at, c.e)
	}
}

// TestNotReached is of P6.1: what no path leads to has faults all the same, but not by what it reads; a last instruction too.
func TestNotReached(t *testing.T) {
	for _, c := range []struct {
		i api.Insn
		e api.Errno
	}{
		{add, api.OK},
		{op(insn.LdM, 3), api.OK},
		{op(insn.LdxM, 15), api.OK},
		{op(insn.LdAbs, 60), api.OK},
		{fork(0, 1), api.OK},
		{op(insn.Ja, 1), api.OK},
		{op(0x94, 0), api.ErrOp},
		{op(insn.LdAbs, 62), api.ErrLoad},
		{op(insn.LdM, 16), api.ErrCell},
		{op(insn.St, 16), api.ErrCell},
		{op(insn.Div, 0), api.ErrDiv},
		{op(insn.Lsh, 32), api.ErrShift},
		{fork(0, 2), api.ErrJump},
		{fork(2, 0), api.ErrJump},
		{op(insn.Ja, 2), api.ErrJump},
	} {
		at := 0
		if c.e != api.OK {
			at = 1
		}
		want(t, "behind an answer", []api.Insn{ret, c.i, ret, ret}, at, c.e)
		want(t, "behind ja", []api.Insn{op(insn.Ja, 1), c.i, ret, ret}, at, c.e)
		want(t, "between the ways of a fork", []api.Insn{fork(1, 2), c.i, ret, ret}, at, c.e)
	}
	want(t, "an end that is not reached", []api.Insn{ret, add}, 1, api.ErrEnd)
	want(t, "an end that is not reached", []api.Insn{op(insn.Ja, 0), ret, op(insn.LdM, 3)}, 2, api.ErrEnd)
}

// TestUnset is of P6.1: a cell that is not written on each path, at the index where it is read.
func TestUnset(t *testing.T) {
	for _, ld := range []uint16{insn.LdM, insn.LdxM} {
		for _, st := range []uint16{insn.St, insn.Stx} {
			for k := range uint32(api.Cells) {
				want(t, "a cell that is written", []api.Insn{op(st, k), op(ld, k), ret}, 0, api.OK)
				want(t, "another cell", []api.Insn{op(st, k), op(ld, (k+1)%16), ret}, 1, api.ErrUnset)
				want(t, "no write", []api.Insn{op(ld, k), ret}, 0, api.ErrUnset)
				want(t, "a write behind the read", []api.Insn{add, op(ld, k), op(st, k), ret}, 1, api.ErrUnset)
				want(t, "a write on both ways", []api.Insn{fork(0, 2), op(st, k), op(insn.Ja, 1), op(st, k), op(ld, k), ret}, 0, api.OK)
				want(t, "a write on one way", []api.Insn{fork(0, 1), op(st, k), op(ld, k), ret}, 2, api.ErrUnset)
				want(t, "a write on the other way", []api.Insn{fork(1, 0), op(st, k), op(ld, k), ret}, 2, api.ErrUnset)
				want(t, "a write that is not reached", []api.Insn{op(insn.Ja, 1), op(st, k), op(ld, k), ret}, 2, api.ErrUnset)
				want(t, "a way that ends ahead of the read", []api.Insn{fork(0, 1), ret, op(st, k), op(ld, k), ret}, 0, api.OK)
			}
		}
	}
}

// oneByChapter is the chapter's item 2, by the names of the codes.
func oneByChapter(i api.Insn, left int) api.Errno {
	left = max(left, 0)
	exists := func(skipped int64) bool { return skipped+1 <= int64(left) }
	k := int64(i.K)
	switch name := insn.Name(i.Code); {
	case name == "":
		return api.ErrOp
	case name == "ldabs" && !slices.Contains([]int64{0, 4, 8, 12, 16, 20, 24, 28, 32, 36, 40, 44, 48, 52, 56, 60}, k):
		return api.ErrLoad
	case (name == "ldm" || name == "ldxm" || name == "st" || name == "stx") && k > 15:
		return api.ErrCell
	case name == "div" && k == 0:
		return api.ErrDiv
	case (name == "lsh" || name == "rsh") && k > 31:
		return api.ErrShift
	case name == "ja" && !exists(k):
		return api.ErrJump
	case name != "ja" && strings.HasPrefix(name, "j") && !(exists(int64(i.JT)) && exists(int64(i.JF))):
		return api.ErrJump
	}
	return api.OK
}

// byChapter is the chapter's fault of a program.
func byChapter(p []api.Insn) (int, api.Errno) {
	n := len(p)
	if n < 1 || n > 4096 {
		return 0, api.ErrSize
	}
	for at := 0; at < n; at++ {
		if e := oneByChapter(p[at], n-1-at); e != api.OK {
			return at, e
		}
	}
	if !strings.HasPrefix(insn.Name(p[n-1].Code), "ret") {
		return n - 1, api.ErrEnd
	}
	for _, at := range cells.Unsure(p) {
		return at, api.ErrUnset
	}
	return 0, api.OK
}

// maker makes programs and data. Its seed is fixed, so that each run of the tests sees the same ones.
type maker struct {
	*rand.Rand
	codes []uint16
}

func newMaker() *maker {
	return &maker{rand.New(rand.NewSource(6)), slices.Concat(others, forks, []uint16{insn.Ja})}
}

// whatever makes an instruction without regard to what is right.
func (m *maker) whatever() api.Insn {
	i := api.Insn{Code: m.codes[m.Intn(len(m.codes))], JT: uint8(m.Intn(5)), JF: uint8(m.Intn(5)), K: uint32(m.Intn(80))}
	switch m.Intn(20) {
	case 0:
		i.Code = uint16(m.Intn(1 << 16))
	case 1:
		i.K = m.Uint32()
	case 2:
		i.K = math.MaxUint32 - uint32(m.Intn(20))
	case 3:
		i.JT, i.JF = uint8(m.Intn(256)), uint8(m.Intn(256))
	case 4, 5, 6, 7, 8:
		i.K = uint32(m.Intn(4))
	}
	return i
}

// right makes an instruction without a fault, if left further ones follow. Jumps are few and short, so that much is executed.
func (m *maker) right(left int) api.Insn {
	for {
		i := m.whatever()
		switch insn.Of(i.Code) {
		case insn.Jump:
			i.K, i.JT, i.JF = min(i.K, uint32(max(0, left-1))), uint8(m.Intn(4)), uint8(m.Intn(4))
		case insn.Store, insn.Load:
			i.K &= 15
			if i.Code == insn.LdAbs {
				i.K *= 4
			}
		case insn.Answer:
			if m.Intn(4) != 0 {
				continue
			}
		}
		if oneByChapter(i, left) == api.OK {
			return i
		}
	}
}

// program makes one of n instructions, each of them without a fault; wrong of them are made anew without regard to what is right.
func (m *maker) program(n, wrong int) []api.Insn {
	p := make([]api.Insn, n)
	for at := range p {
		p[at] = m.right(n - 1 - at)
	}
	if n > 0 && m.Intn(8) != 0 {
		p[n-1] = []api.Insn{ret, op(insn.RetA, 0)}[m.Intn(2)]
	}
	for range wrong {
		if n > 0 {
			p[m.Intn(n)] = m.whatever()
		}
	}
	return p
}

// accepted makes a program that is accepted, of at most n instructions. A read of a cell that is not certain becomes a write of it.
func (m *maker) accepted(n int) []api.Insn {
	p := m.program(n-m.Intn(3), 0)
	p[len(p)-1] = op(insn.RetA, 7)
	for {
		unsure := cells.Unsure(p)
		if len(unsure) == 0 {
			return p
		}
		p[unsure[0]] = op(insn.St, p[unsure[0]].K)
	}
}

func (m *maker) data() api.Data {
	d := api.Data{Nr: m.Uint32(), Arch: uint32(m.Intn(4)), IP: m.Uint64()}
	for i := range d.Args {
		d.Args[i] = m.Uint64() >> m.Intn(65)
	}
	return d
}

// TestMadeInstructions is of P6.2: instructions of all kinds against the chapter's words.
func TestMadeInstructions(t *testing.T) {
	m := newMaker()
	count := map[api.Errno]int{}
	for range 400000 {
		i := m.whatever()
		left := m.Intn(8) - 2
		switch m.Intn(10) {
		case 0:
			left = int(m.Uint64())
		case 1:
			left = m.Intn(5000)
		}
		e := oneByChapter(i, left)
		count[e]++
		if got := check.One(i, left); got != e {
			t.Fatalf("One of %s %v, with %d behind it: %d; want %d", insn.Name(i.Code), i, left, got, e)
		}
	}
	for _, e := range []api.Errno{api.OK, api.ErrOp, api.ErrLoad, api.ErrCell, api.ErrDiv, api.ErrShift, api.ErrJump} {
		if count[e] < 100 {
			t.Errorf("%d instructions alone have the fault %d", count[e], e)
		}
	}
}

// TestMadePrograms is of P6.1: programs of all kinds against the chapter's words.
func TestMadePrograms(t *testing.T) {
	m := newMaker()
	count := map[api.Errno]int{}
	for n := range 90000 {
		p := m.program(m.Intn(14), n%3)
		at, e := byChapter(p)
		count[e]++
		want(t, "a program", p, at, e)
		if t.Failed() {
			return
		}
	}
	for n := range 40 {
		p := m.program(api.MaxInsns-n+5, n%2)
		at, e := byChapter(p)
		want(t, "a long program", p, at, e)
	}
	for _, e := range []api.Errno{api.OK, api.ErrSize, api.ErrOp, api.ErrLoad, api.ErrCell, api.ErrDiv, api.ErrShift, api.ErrJump, api.ErrEnd, api.ErrUnset} {
		if count[e] < 100 {
			t.Errorf("%d programs alone have the fault %d", count[e], e)
		}
	}
}

// TestTermination is of P6.3 (P3): what is accepted ends with an answer, whatever the data is, after at most as many steps as it has instructions.
func TestTermination(t *testing.T) {
	m := newMaker()
	ran, steps := 0, 0
	run := func(p []api.Insn, d api.Data) {
		_, n, e := vm.Run(p, d)
		if e != api.OK || n < 1 || n > len(p) {
			t.Fatalf("%v is accepted; run on %v: %d steps, %d", p[:min(len(p), 40)], d, n, e)
		}
		ran++
		steps += n
	}
	for range 30000 {
		p := m.program(m.Intn(20), 0)
		if check.Check(p) != api.OK {
			continue
		}
		for _, d := range []api.Data{{}, m.data(), m.data(), {Nr: math.MaxUint32, Arch: math.MaxUint32, IP: math.MaxUint64}} {
			run(p, d)
		}
	}
	for range 30 {
		p := m.accepted(api.MaxInsns)
		want(t, "a long program", p, 0, api.OK)
		run(p, m.data())
	}
	// All of its instructions are executed: the bound is met.
	p := slices.Repeat([]api.Insn{add}, api.MaxInsns)
	p[len(p)-1] = op(insn.RetA, 0)
	want(t, "the longest run", p, 0, api.OK)
	if answer, n, e := vm.Run(p, api.Data{}); answer != api.MaxInsns-1 || n != api.MaxInsns || e != api.OK {
		t.Errorf("the longest run: %d, %d steps, %d", answer, n, e)
	}
	if ran < 20000 || steps < 4*ran {
		t.Errorf("%d runs alone, of %d steps", ran, steps)
	}
}

// TestErrorsOfTheMachine is of P6.3: a program at whose instruction the machine ends with an error is not accepted.
func TestErrorsOfTheMachine(t *testing.T) {
	m := newMaker()
	count := map[api.Errno]int{}
	for n := range 60000 {
		p := m.program(1+m.Intn(12), n%4)
		d := m.data()
		_, _, e := vm.Run(p, d)
		if e == api.OK {
			continue
		}
		count[e]++
		if check.Check(p) == api.OK {
			t.Fatalf("%v is accepted; run on %v: %d", p, d, e)
		}
	}
	for _, e := range []api.Errno{api.ErrOp, api.ErrLoad, api.ErrCell, api.ErrDiv, api.ErrShift, api.ErrJump, api.ErrEnd} {
		if count[e] < 20 {
			t.Errorf("%d runs alone end with the error %d", count[e], e)
		}
	}
}

// TestConcatenation is of P6.4: an accepted program behind another one, and the last instruction of each.
func TestConcatenation(t *testing.T) {
	m := newMaker()
	for range 20000 {
		a, b := m.accepted(4+m.Intn(20)), m.accepted(4+m.Intn(20))
		for _, p := range [][]api.Insn{a, b, slices.Concat(a, b), slices.Concat(b, a), slices.Concat(a, a), slices.Concat(a, b, a)} {
			want(t, "accepted programs one behind the other", p, 0, api.OK)
			if insn.Of(p[len(p)-1].Code) != insn.Answer {
				t.Errorf("%v ends with no answer", p)
			}
		}
		if t.Failed() {
			return
		}
	}
	// A cell that is read in the second one and written in the first one only is one of a program that is not accepted by itself.
	reads := []api.Insn{op(insn.LdM, 2), ret}
	want(t, "a second program that reads", slices.Concat([]api.Insn{op(insn.St, 2), ret}, reads), 0, api.OK)
	want(t, "the second program by itself", reads, 0, api.ErrUnset)
	for _, n := range []int{1, 4, 2048, api.MaxInsns - 4, api.MaxInsns - 1} {
		a, b := slices.Repeat([]api.Insn{ret}, n), slices.Repeat([]api.Insn{ret}, api.MaxInsns-n)
		want(t, "as long as may be", slices.Concat(a, b), 0, api.OK)
		want(t, "too long", slices.Concat(a, b, []api.Insn{ret}), 0, api.ErrSize)
		want(t, "too long", slices.Concat(a, b, b), 0, api.ErrSize)
	}
}

// TestPassedStays is of P0.4: what is passed stays as it is, behind its length too, and nothing is kept of it.
func TestPassedStays(t *testing.T) {
	m := newMaker()
	for n := range 5000 {
		all := m.program(1+m.Intn(30), n%3)
		was := slices.Clone(all)
		p := all[:m.Intn(len(all)+1)]
		at, e := byChapter(p)
		want(t, "a program", p, at, e)
		if !slices.Equal(all, was) {
			t.Fatalf("%v is changed: %v", was, all)
		}
		// Other programs in the same memory, and in between, have no influence.
		for i := range all {
			all[i] = m.whatever()
		}
		otherAt, other := byChapter(p)
		want(t, "other instructions in the same memory", p, otherAt, other)
		copy(all, was)
		want(t, "the same program once more", p, at, e)
		if t.Failed() {
			return
		}
	}
}
