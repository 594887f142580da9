package vm_test

import (
	"encoding/binary"
	"math"
	"math/rand"
	"slices"
	"testing"

	"vestibule/api"
	"vestibule/insn"
	"vestibule/vm"
)

// different is data whose sixteen words all differ, and none of which is a small number.
var different = api.Data{
	Nr:   0x84838281,
	Arch: 0x88878685,
	IP:   0x908f8e8d8c8b8a89,
	Args: [6]uint64{
		0x9897969594939291,
		0xa09f9e9d9c9b9a99,
		0xa8a7a6a5a4a3a2a1,
		0xb0afaeadacabaaa9,
		0xb8b7b6b5b4b3b2b1,
		0xc0bfbebdbcbbbab9,
	},
}

// op is an instruction with K, jump one with all fields.
func op(code uint16, k uint32) api.Insn { return api.Insn{Code: code, K: k} }

func jump(code uint16, k uint32, jt, jf uint8) api.Insn {
	return api.Insn{Code: code, JT: jt, JF: jf, K: k}
}

// noise is an instruction with fields of which its code knows nothing.
func noise(code uint16) api.Insn { return jump(code, 0xfffffff3, 0xee, 0xdd) }

// result is what Run and Trace tell of a program.
type result struct {
	answer uint32
	steps  int
	e      api.Errno
	trace  []int
}

func same(a, b result) bool {
	return a.answer == b.answer && a.steps == b.steps && a.e == b.e && slices.Equal(a.trace, b.trace)
}

// run asks the machine for all that it tells of a program.
func run(p []api.Insn, d api.Data) result {
	answer, steps, e := vm.Run(p, d)
	return result{answer, steps, e, vm.Trace(p, d)}
}

// want holds what the machine tells of a program against what it should.
func want(t *testing.T, what string, p []api.Insn, d api.Data, r result) {
	t.Helper()
	if got := run(p, d); !same(got, r) {
		t.Errorf("%s: %v: %v; want %v", what, p, got, r)
	}
}

// upTo is the trace of a program whose first n instructions are executed one after the other.
func upTo(n int) []int {
	l := make([]int, n)
	for i := range l {
		l[i] = i
	}
	return l
}

// answers wants a program to end with an answer at its last instruction, and with nothing skipped.
func answers(t *testing.T, what string, answer uint32, p ...api.Insn) {
	t.Helper()
	want(t, what, p, different, result{answer, len(p), api.OK, upTo(len(p))})
}

// fails wants a program to execute all instructions but the last one, which causes an error.
func fails(t *testing.T, what string, e api.Errno, p ...api.Insn) {
	t.Helper()
	want(t, what, p, different, result{0, len(p) - 1, e, upTo(len(p))})
}

// setup gives A, X and all cells a number each: A and X as told, the cell k 0x1000 + k.
func setup(a, x uint32) []api.Insn {
	var p []api.Insn
	for k := range uint32(api.Cells) {
		p = append(p, op(insn.LdI, 0x1000+k), op(insn.St, k))
	}
	return append(p, op(insn.LdI, a), op(insn.LdxI, x))
}

// leaves wants instructions behind setup to leave A, X and the cells as told, the cells that are not named as they were.
func leaves(t *testing.T, what string, a, x, wantA, wantX uint32, cells map[uint32]uint32, p ...api.Insn) {
	t.Helper()
	before := append(setup(a, x), p...)
	answers(t, what+", A", wantA, slices.Concat(before, []api.Insn{noise(insn.RetA)})...)
	answers(t, what+", X", wantX, slices.Concat(before, []api.Insn{noise(insn.Txa), noise(insn.RetA)})...)
	for k := range uint32(api.Cells) {
		c, ok := cells[k]
		if !ok {
			c = 0x1000 + k
		}
		answers(t, what+", cell", c, slices.Concat(before, []api.Insn{op(insn.LdM, k), noise(insn.RetA)})...)
	}
}

// TestExamples is of P4.1: the chapter's examples.
func TestExamples(t *testing.T) {
	p := []api.Insn{op(insn.LdAbs, 0), jump(insn.Jeq, 1, 0, 1), op(insn.Ret, 5), op(insn.Ret, 6)}
	want(t, "the first example", p, api.Data{Nr: 1}, result{5, 3, api.OK, []int{0, 1, 2}})
	want(t, "the first example", p, api.Data{Nr: 2}, result{6, 3, api.OK, []int{0, 1, 3}})
	p = []api.Insn{op(insn.LdI, 7), op(insn.LdxI, 0), op(insn.DivX, 0), op(insn.RetA, 0)}
	want(t, "the second example", p, different, result{0, 3, api.OK, upTo(3)})
	want(t, "ldi 7; div 0", []api.Insn{op(insn.LdI, 7), op(insn.Div, 0)}, different, result{0, 1, api.ErrDiv, upTo(2)})
	want(t, "ldi 1", []api.Insn{op(insn.LdI, 1)}, different, result{0, 1, api.ErrEnd, upTo(1)})
	want(t, "ja 4", []api.Insn{op(insn.Ja, 4)}, different, result{0, 1, api.ErrJump, upTo(1)})
	want(t, "ldabs 2", []api.Insn{op(insn.LdAbs, 2)}, different, result{0, 0, api.ErrLoad, upTo(1)})
	want(t, "ldm 16", []api.Insn{op(insn.LdM, 16)}, different, result{0, 0, api.ErrCell, upTo(1)})
}

// TestNoInstructions is of P4.1 and P0.4: a nil slice is an empty one, and what stands behind the length is no instruction.
func TestNoInstructions(t *testing.T) {
	behind := []api.Insn{op(insn.Ret, 5), op(insn.Ret, 6)}
	for _, p := range [][]api.Insn{nil, {}, behind[:0]} {
		want(t, "no instructions", p, different, result{0, 0, api.ErrEnd, nil})
	}
	want(t, "an answer behind the length", []api.Insn{op(insn.LdI, 1), op(insn.RetA, 0)}[:1], different, result{0, 1, api.ErrEnd, upTo(1)})
	want(t, "an answer behind the length", []api.Insn{op(insn.Ja, 0), op(insn.Ret, 1)}[:1], different, result{0, 1, api.ErrJump, upTo(1)})
}

// TestBeginning is of P4.1: A, X and the cells are 0 at first, whatever ran before.
func TestBeginning(t *testing.T) {
	for range 2 {
		answers(t, "A", 0, op(insn.RetA, 0))
		answers(t, "X", 0, op(insn.Txa, 0), op(insn.RetA, 0))
		for k := range uint32(api.Cells) {
			answers(t, "a cell", 0, op(insn.LdI, 9), op(insn.LdM, k), op(insn.RetA, 0))
			answers(t, "a cell", 0, op(insn.LdxI, 9), op(insn.LdxM, k), op(insn.Txa, 0), op(insn.RetA, 0))
		}
		answers(t, "all set", 7, append(setup(7, 8), op(insn.RetA, 0))...)
	}
}

// TestLoads is of P4.1: ldabs, ldlen, ldi, ldm, ldxlen, ldxi, ldxm.
func TestLoads(t *testing.T) {
	for i, w := range wordsOf(different) {
		leaves(t, "ldabs", 1, 2, w, 2, nil, jump(insn.LdAbs, uint32(4*i), 0xee, 0xdd))
	}
	leaves(t, "ldlen", 1, 2, 64, 2, nil, noise(insn.LdLen))
	leaves(t, "ldxlen", 1, 2, 1, 64, nil, noise(insn.LdxLen))
	for _, k := range []uint32{0, 1, 63, 64, 0x7fffffff, 0x80000000, 0xfffffffe, 0xffffffff} {
		leaves(t, "ldi", 1, 2, k, 2, nil, jump(insn.LdI, k, 0xee, 0xdd))
		leaves(t, "ldxi", 1, 2, 1, k, nil, jump(insn.LdxI, k, 0xee, 0xdd))
	}
	for k := range uint32(api.Cells) {
		leaves(t, "ldm", 1, 2, 0x1000+k, 2, nil, jump(insn.LdM, k, 0xee, 0xdd))
		leaves(t, "ldxm", 1, 2, 1, 0x1000+k, nil, jump(insn.LdxM, k, 0xee, 0xdd))
	}
}

// TestStoresAndMoves is of P4.1: st, stx, tax, txa.
func TestStoresAndMoves(t *testing.T) {
	const a, x = 0x80000001, 0xfffffff2
	for k := range uint32(api.Cells) {
		leaves(t, "st", a, x, a, x, map[uint32]uint32{k: a}, jump(insn.St, k, 0xee, 0xdd))
		leaves(t, "stx", a, x, a, x, map[uint32]uint32{k: x}, jump(insn.Stx, k, 0xee, 0xdd))
	}
	leaves(t, "tax", a, x, a, a, nil, noise(insn.Tax))
	leaves(t, "txa", a, x, x, x, nil, noise(insn.Txa))
}

// wrongOffsets are those at which there is no word: beside the multiples of 4, behind the data, and those that would be right if some of their bits were lost.
func wrongOffsets() []uint32 {
	l := []uint32{1, 2, 3, 5, 61, 62, 63, 64, 65, 68, 96, 100, 128, 252, 256, 1000, 0x7ffffffc, 0x80000000, 0xfffff000, 0xfffffffc, math.MaxUint32}
	for i := 6; i < 32; i++ {
		l = append(l, 1<<i, 1<<i+4)
	}
	return l
}

// TestLoadsFromNowhere is of P4.1: ErrLoad, at the first instruction and behind others.
func TestLoadsFromNowhere(t *testing.T) {
	for _, at := range wrongOffsets() {
		fails(t, "ldabs", api.ErrLoad, op(insn.LdAbs, at))
		fails(t, "ldabs", api.ErrLoad, append(setup(1, 2), op(insn.LdAbs, at))...)
	}
}

// TestNoCell is of P4.1: ErrCell from the cell 16 on, for all four codes; the cell 15 is one.
func TestNoCell(t *testing.T) {
	for _, code := range []uint16{insn.LdM, insn.LdxM, insn.St, insn.Stx} {
		for _, k := range []uint32{0, 15} {
			answers(t, insn.Name(code), 4, op(code, k), op(insn.Ret, 4))
		}
		for _, k := range []uint32{16, 17, 31, 32, 64, 255, 256, 1 << 16, 1 << 31, 1<<31 + 3, math.MaxUint32 - 15, math.MaxUint32} {
			fails(t, insn.Name(code), api.ErrCell, op(code, k))
			fails(t, insn.Name(code), api.ErrCell, append(setup(1, 2), op(code, k))...)
			want(t, insn.Name(code), []api.Insn{op(insn.LdI, 1), op(code, k), op(insn.Ret, 4)}, different, result{0, 1, api.ErrCell, upTo(2)})
		}
	}
}

// TestOperations is of P4.1: the codes of the class Number, with K and with X.
func TestOperations(t *testing.T) {
	for _, c := range []struct {
		k, x       uint16
		a, b, want uint32
	}{
		{insn.Add, insn.AddX, 7, 5, 12},
		{insn.Add, insn.AddX, 0xffffffff, 1, 0},
		{insn.Add, insn.AddX, 0x80000003, 0x80000004, 7},
		{insn.Add, insn.AddX, 0x7fffffff, 1, 0x80000000},
		{insn.Add, insn.AddX, 9, 0, 9},
		{insn.Sub, insn.SubX, 7, 5, 2},
		{insn.Sub, insn.SubX, 5, 7, 0xfffffffe},
		{insn.Sub, insn.SubX, 0, 1, 0xffffffff},
		{insn.Sub, insn.SubX, 0, 0x80000000, 0x80000000},
		{insn.Sub, insn.SubX, 9, 0, 9},
		{insn.Mul, insn.MulX, 7, 5, 35},
		{insn.Mul, insn.MulX, 0x10000, 0x10000, 0},
		{insn.Mul, insn.MulX, 0xffffffff, 0xffffffff, 1},
		{insn.Mul, insn.MulX, 0x80000001, 3, 0x80000003},
		{insn.Mul, insn.MulX, 9, 0, 0},
		{insn.Div, insn.DivX, 35, 5, 7},
		{insn.Div, insn.DivX, 39, 5, 7},
		{insn.Div, insn.DivX, 5, 39, 0},
		{insn.Div, insn.DivX, 0, 5, 0},
		{insn.Div, insn.DivX, 0xffffffff, 1, 0xffffffff},
		{insn.Div, insn.DivX, 0xfffffffe, 2, 0x7fffffff},
		{insn.Div, insn.DivX, 0x80000000, 0xffffffff, 0},
		{insn.Div, insn.DivX, 0xffffffff, 0x80000000, 1},
		{insn.Or, insn.OrX, 0b1100, 0b1010, 0b1110},
		{insn.Or, insn.OrX, 0x80000001, 0x40000001, 0xc0000001},
		{insn.And, insn.AndX, 0b1100, 0b1010, 0b1000},
		{insn.And, insn.AndX, 0x80000001, 0xc0000000, 0x80000000},
		{insn.Xor, insn.XorX, 0b1100, 0b1010, 0b0110},
		{insn.Xor, insn.XorX, 0x80000001, 0xc0000001, 0x40000000},
		{insn.Lsh, insn.LshX, 3, 0, 3},
		{insn.Lsh, insn.LshX, 3, 1, 6},
		{insn.Lsh, insn.LshX, 0xffffffff, 4, 0xfffffff0},
		{insn.Lsh, insn.LshX, 3, 31, 0x80000000},
		{insn.Rsh, insn.RshX, 3, 0, 3},
		{insn.Rsh, insn.RshX, 3, 1, 1},
		{insn.Rsh, insn.RshX, 0xffffffff, 4, 0x0fffffff},
		{insn.Rsh, insn.RshX, 0xc0000000, 31, 1},
	} {
		// The operand that the code does not take would have another result.
		leaves(t, insn.Name(c.k), c.a, 29, c.want, 29, nil, jump(c.k, c.b, 0xee, 0xdd))
		leaves(t, insn.Name(c.x), c.a, c.b, c.want, c.b, nil, jump(c.x, 29, 0xee, 0xdd))
	}
	for a, neg := range map[uint32]uint32{0: 0, 1: 0xffffffff, 0xffffffff: 1, 0x80000000: 0x80000000, 0x7fffffff: 0x80000001, 5: 0xfffffffb} {
		leaves(t, "neg", a, 3, neg, 3, nil, noise(insn.Neg))
		leaves(t, "neg", a, 0, neg, 0, nil, op(insn.Neg, 0))
	}
}

// TestDivisionByZero is of P4.1: an error by K, and an answer of 0 by X, whatever the other one is.
func TestDivisionByZero(t *testing.T) {
	for _, a := range []uint32{0, 7, math.MaxUint32} {
		for _, other := range []uint32{0, 1, 7} {
			fails(t, "div", api.ErrDiv, append(setup(a, other), op(insn.Div, 0))...)
			answers(t, "divx", 0, append(setup(a, 0), op(insn.DivX, other))...)
			p := append(setup(a, 0), op(insn.DivX, other))
			n := len(p)
			want(t, "divx ahead of others", append(p, op(0x94, 0), op(insn.Ret, 9)), different, result{0, n, api.OK, upTo(n)})
		}
	}
	fails(t, "div at first", api.ErrDiv, op(insn.Div, 0))
	answers(t, "divx at first", 0, op(insn.DivX, 0))
}

// TestShifts is of P4.1: an error by a K above 31, and X modulo 32.
func TestShifts(t *testing.T) {
	const a = 0x80000003
	for _, k := range []uint32{32, 33, 63, 64, 255, 256, 1 << 16, 1 << 31, math.MaxUint32} {
		for _, code := range []uint16{insn.Lsh, insn.Rsh} {
			fails(t, insn.Name(code), api.ErrShift, op(code, k))
			fails(t, insn.Name(code), api.ErrShift, append(setup(a, 1), op(code, k))...)
		}
	}
	for n := range uint32(32) {
		left, right := uint32(uint64(a)<<n), uint32(uint64(a)>>n)
		leaves(t, "lsh", a, 7, left, 7, nil, op(insn.Lsh, n))
		leaves(t, "rsh", a, 7, right, 7, nil, op(insn.Rsh, n))
		for _, more := range []uint32{0, 32, 64, 224, 256, 1 << 16, 1 << 31, 0xffffffe0} {
			leaves(t, "lshx", a, n+more, left, n+more, nil, op(insn.LshX, 7))
			leaves(t, "rshx", a, n+more, right, n+more, nil, op(insn.RshX, 7))
		}
	}
}

// TestComparisons is of P4.1: each comparison with K and with X, of numbers on both sides of 2^31.
func TestComparisons(t *testing.T) {
	numbers := []uint32{0, 1, 2, 3, 0x7ffffffe, 0x7fffffff, 0x80000000, 0x80000001, 0xfffffffe, 0xffffffff}
	// The numbers ascend, so that their places tell which is greater.
	for i, a := range numbers {
		for j, b := range numbers {
			for _, c := range []struct {
				k, x  uint16
				holds bool
			}{
				{insn.Jeq, insn.JeqX, i == j},
				{insn.Jgt, insn.JgtX, i > j},
				{insn.Jge, insn.JgeX, i >= j},
				{insn.Jset, insn.JsetX, a&b > 0},
			} {
				// The operand that the code does not take is one for which the result would be the other.
				other := otherOperand(c.k, a, c.holds)
				goes(t, a, other, jump(c.k, b, 2, 1), c.holds)
				goes(t, a, b, jump(c.x, other, 2, 1), c.holds)
			}
		}
	}
}

// otherOperand is one with which the comparison does not hold if it should, and holds if it should not, where there is one.
func otherOperand(code uint16, a uint32, holds bool) uint32 {
	switch {
	case code == insn.Jset && holds:
		return 0
	case code == insn.Jset || code == insn.Jeq && !holds:
		return a
	case code == insn.Jeq:
		return ^a
	case holds:
		return math.MaxUint32
	}
	return 0
}

// goes wants a jump by 2 to be taken if its comparison holds, and by 1 otherwise, and A and X to stay.
func goes(t *testing.T, a, x uint32, i api.Insn, holds bool) {
	t.Helper()
	p := []api.Insn{op(insn.LdI, a), op(insn.LdxI, x), i, op(insn.Ret, 7), op(insn.Txa, 0), op(insn.RetA, 0)}
	r := result{x, 5, api.OK, []int{0, 1, 2, 4, 5}}
	if holds {
		r = result{a, 4, api.OK, []int{0, 1, 2, 5}}
	}
	want(t, insn.Name(i.Code), p, different, r)
}

// TestSetBits is of P4.1: jset holds if any bit is common, whichever.
func TestSetBits(t *testing.T) {
	for i := range 32 {
		a := uint32(1) << i
		for j := range 32 {
			b := uint32(1) << j
			goes(t, a, 0, jump(insn.Jset, b, 2, 1), i == j)
			goes(t, a, b, jump(insn.JsetX, 0, 2, 1), i == j)
		}
		goes(t, a, 0, jump(insn.Jset, math.MaxUint32, 2, 1), true)
		goes(t, ^a, a, jump(insn.JsetX, math.MaxUint32, 2, 1), false)
	}
}

// chain is a jump and n instructions behind it, each of which answers its index.
func chain(i api.Insn, n int) []api.Insn {
	p := []api.Insn{i}
	for at := 1; at <= n; at++ {
		p = append(p, op(insn.Ret, uint32(at)))
	}
	return p
}

// TestUnconditionalJumps is of P4.1: ja by 0, to the last instruction, to the place just behind it, and by numbers near 2^32, which do not lead back.
func TestUnconditionalJumps(t *testing.T) {
	for _, n := range []int{1, 2, 255, 256, 257, 1000, 70000} {
		for _, k := range []int{0, 1, n / 2, n - 2, n - 1} {
			if k >= 0 && k < n {
				want(t, "ja", chain(jump(insn.Ja, uint32(k), 0xee, 0xdd), n), different, result{uint32(k + 1), 2, api.OK, []int{0, k + 1}})
			}
		}
	}
	for _, n := range []int{0, 1, 2, 300} {
		for _, k := range []uint32{uint32(n), uint32(n + 1), 1 << 16, 1 << 30, math.MaxInt32 - 1, math.MaxInt32, 1 << 31, 1<<31 + 1, math.MaxUint32 - 2, math.MaxUint32 - 1, math.MaxUint32} {
			p := chain(op(insn.Ja, k), n)
			if got, steps, e := vm.Run(p, different); got != 0 || steps != 1 || e != api.ErrJump {
				t.Errorf("ja %d ahead of %d instructions: %d, %d, %d", k, n, got, steps, e)
			}
			if got := vm.Trace(p, different); !slices.Equal(got, upTo(1)) {
				t.Errorf("trace of ja %d ahead of %d instructions: %v", k, n, got)
			}
		}
	}
	// Behind other instructions a jump by nearly 2^32 would lead back to them.
	for back := range uint32(6) {
		p := []api.Insn{op(insn.Ret, 1), op(insn.Ret, 2), op(insn.Ja, -back), op(insn.Ret, 4)}
		p = append([]api.Insn{op(insn.Ja, 2)}, p...)
		r := result{0, 2, api.ErrJump, []int{0, 3}}
		if back == 0 {
			r = result{4, 3, api.OK, []int{0, 3, 4}}
		}
		want(t, "ja back", p, different, r)
	}
}

// TestConditionalJumps is of P4.1: each code of the class Jump by JT and by JF of each size, to the last instruction and to the place behind it.
func TestConditionalJumps(t *testing.T) {
	for _, code := range []uint16{insn.Jeq, insn.Jgt, insn.Jge, insn.Jset, insn.JeqX, insn.JgtX, insn.JgeX, insn.JsetX} {
		for _, n := range []int{0, 1, 127, 128, 254, 255} {
			for _, i := range []api.Insn{jump(code, 3, uint8(n), uint8(n)), jump(code, 0, 0, uint8(n)), jump(code, 0, uint8(n), 0)} {
				// A and X are 0 here: only jeq by 0, and jge by 0, hold, with K or with X.
				skipped := int(i.JF)
				if code == insn.JeqX || code == insn.JgeX || (code == insn.Jeq || code == insn.Jge) && i.K == 0 {
					skipped = int(i.JT)
				}
				want(t, insn.Name(code), chain(i, skipped+1), different, result{uint32(skipped + 1), 2, api.OK, []int{0, skipped + 1}})
				want(t, insn.Name(code), chain(i, skipped), different, result{0, 1, api.ErrJump, upTo(1)})
			}
		}
	}
}

// TestAnswers is of P4.1: ret and reta, at once, and with the answer untouched.
func TestAnswers(t *testing.T) {
	for _, k := range []uint32{0, 1, api.KillProcess, api.Allow, api.Fail | 38, 0xffffffff} {
		want(t, "ret", []api.Insn{jump(insn.Ret, k, 0xee, 0xdd), op(insn.Ret, 3)}, different, result{k, 1, api.OK, upTo(1)})
		answers(t, "ret", k, append(setup(7, 8), op(insn.Ret, k))...)
		answers(t, "reta", k, append(setup(k, 8), noise(insn.RetA))...)
	}
}

// TestUnknownCodes is of P4.1: ErrOp for each code that is not known, wherever it stands; all others are no such error.
func TestUnknownCodes(t *testing.T) {
	for c := range 1 << 16 {
		code := uint16(c)
		if insn.Known(code) {
			if r := run([]api.Insn{op(code, 1)}, different); r.e == api.ErrOp {
				t.Errorf("%s: %v", insn.Name(code), r)
			}
			continue
		}
		want(t, "an unknown code", []api.Insn{op(code, 1)}, different, result{0, 0, api.ErrOp, upTo(1)})
		want(t, "an unknown code", []api.Insn{op(insn.LdI, 1), op(code, 1), op(insn.Ret, 1)}, different, result{0, 1, api.ErrOp, upTo(2)})
		want(t, "an unknown code behind a jump", []api.Insn{jump(insn.Jeq, 0, 1, 0), op(insn.Ret, 1), op(code, 1)}, different, result{0, 1, api.ErrOp, []int{0, 2}})
	}
}

// TestEnds is of P4.1: where no instruction follows, ErrJump behind the class Jump, and ErrEnd behind all others.
func TestEnds(t *testing.T) {
	for c := range 1 << 16 {
		code := uint16(c)
		class := insn.Of(code)
		if class == insn.None || class == insn.Answer || code == insn.DivX {
			continue
		}
		e := api.ErrEnd
		if class == insn.Jump {
			e = api.ErrJump
		}
		i := op(code, 4)
		for n := range 4 {
			p := append(make([]api.Insn, n), i)
			want(t, "the end behind "+insn.Name(code), p, different, result{0, n + 1, e, upTo(n + 1)})
		}
		// The instruction ahead of the last one does not count.
		p := []api.Insn{op(insn.Ja, 0), i}
		want(t, "the end behind "+insn.Name(code), p, different, result{0, 2, e, upTo(2)})
	}
	want(t, "the end behind divx", []api.Insn{op(insn.LdxI, 1), op(insn.DivX, 0)}, different, result{0, 2, api.ErrEnd, upTo(2)})
}

// TestTrace is of P4.2: an instruction that causes an error is told, one that does not exist is not, nor one that is skipped.
func TestTrace(t *testing.T) {
	skip := jump(insn.Jeq, 0, 2, 0)
	for _, c := range []struct {
		what string
		p    []api.Insn
		want []int
	}{
		{"an answer", []api.Insn{skip, op(insn.Ret, 1), op(insn.Ret, 2), op(insn.Ret, 3), op(insn.Ret, 4)}, []int{0, 3}},
		{"an error", []api.Insn{skip, op(insn.Ret, 1), op(insn.Ret, 2), op(insn.Div, 0), op(insn.Ret, 4)}, []int{0, 3}},
		{"an error at first", []api.Insn{op(insn.Lsh, 32), op(insn.Ret, 4)}, []int{0}},
		{"an unknown code", []api.Insn{skip, op(insn.Ret, 1), op(insn.Ret, 2), op(0x94, 1), op(insn.Ret, 4)}, []int{0, 3}},
		{"the end", []api.Insn{skip, op(insn.Ret, 1), op(insn.Ret, 2), op(insn.Tax, 0)}, []int{0, 3}},
		{"the end behind a jump", []api.Insn{skip, op(insn.Ret, 1), op(insn.Ret, 2), op(insn.Ja, 0)}, []int{0, 3}},
		{"a jump beyond the end", []api.Insn{op(insn.Tax, 0), skip, op(insn.Ret, 1)}, []int{0, 1}},
		{"a division by X 0", []api.Insn{skip, op(insn.Ret, 1), op(insn.Ret, 2), op(insn.DivX, 0), op(insn.Ret, 4)}, []int{0, 3}},
	} {
		if got := vm.Trace(c.p, different); !slices.Equal(got, c.want) {
			t.Errorf("trace of %s: %v; want %v", c.what, got, c.want)
		}
	}
}

// wordsOf are the sixteen words of data, by the library's means.
func wordsOf(d api.Data) [16]uint32 {
	b := binary.LittleEndian.AppendUint32(nil, d.Nr)
	b = binary.LittleEndian.AppendUint32(b, d.Arch)
	b = binary.LittleEndian.AppendUint64(b, d.IP)
	for _, x := range d.Args {
		b = binary.LittleEndian.AppendUint64(b, x)
	}
	var l [16]uint32
	for i := range l {
		l[i] = binary.LittleEndian.Uint32(b[4*i:])
	}
	return l
}

// dataOf is the data of sixteen words.
func dataOf(l [16]uint32) api.Data {
	d := api.Data{Nr: l[0], Arch: l[1], IP: uint64(l[3])<<32 | uint64(l[2])}
	for i := range d.Args {
		d.Args[i] = uint64(l[5+2*i])<<32 | uint64(l[4+2*i])
	}
	return d
}

// state is a machine that is read off the chapter's table, a row after the other, in numbers of 64 bits.
type state struct {
	a, x   uint64
	cells  [16]uint64
	n      uint64
	ended  bool
	answer uint32
}

// effect is the chapter's table of effects. The names are those of the table, without the x of the codes with X.
func (s *state) effect(i api.Insn, l [16]uint32) api.Errno {
	const mod = 1 << 32
	k := uint64(i.K)
	name := insn.Name(i.Code)
	withX := insn.WithX(i.Code)
	b := k
	if withX {
		b, name = s.x, name[:len(name)-1]
	}
	s.n = 0
	way := func(holds bool) {
		s.n = uint64(i.JF)
		if holds {
			s.n = uint64(i.JT)
		}
	}
	cell := name == "ldm" || name == "ldxm" || name == "st" || name == "stx"
	switch {
	case name == "":
		return api.ErrOp
	case name == "ldabs" && (k%4 != 0 || k > 60):
		return api.ErrLoad
	case cell && k > 15:
		return api.ErrCell
	case name == "div" && b == 0 && !withX:
		return api.ErrDiv
	case (name == "lsh" || name == "rsh") && !withX && k > 31:
		return api.ErrShift
	case name == "div" && b == 0:
		s.ended, s.answer = true, 0
		return api.OK
	}
	switch name {
	case "ldabs":
		s.a = uint64(l[k/4])
	case "ldlen":
		s.a = 64
	case "ldxlen":
		s.x = 64
	case "ldi":
		s.a = k
	case "ldxi":
		s.x = k
	case "ldm":
		s.a = s.cells[k]
	case "ldxm":
		s.x = s.cells[k]
	case "st":
		s.cells[k] = s.a
	case "stx":
		s.cells[k] = s.x
	case "add":
		s.a = (s.a + b) % mod
	case "sub":
		s.a = (s.a + mod - b) % mod
	case "mul":
		s.a = s.a * b % mod
	case "div":
		s.a /= b
	case "or":
		s.a |= b
	case "and":
		s.a &= b
	case "xor":
		s.a ^= b
	case "lsh":
		s.a = s.a << (b % 32) % mod
	case "rsh":
		s.a >>= b % 32
	case "neg":
		s.a = (mod - s.a) % mod
	case "ja":
		s.n = k
	case "jeq":
		way(s.a == b)
	case "jgt":
		way(s.a > b)
	case "jge":
		way(s.a >= b)
	case "jset":
		way(s.a&b > 0)
	case "ret":
		s.ended, s.answer = true, i.K
	case "reta":
		s.ended, s.answer = true, uint32(s.a)
	case "tax":
		s.x = s.a
	case "txa":
		s.a = s.x
	}
	return api.OK
}

// model is what Run and Trace should tell, by the chapter's table.
func model(p []api.Insn, d api.Data) result {
	l := wordsOf(d)
	var s state
	var r result
	last := insn.None
	for at := uint64(0); !s.ended; at += 1 + s.n {
		if at >= uint64(len(p)) {
			r.e = api.ErrEnd
			if last == insn.Jump {
				r.e = api.ErrJump
			}
			return r
		}
		r.trace = append(r.trace, int(at))
		if e := s.effect(p[at], l); e != api.OK {
			r.e = e
			return r
		}
		r.steps++
		last = insn.Of(p[at].Code)
	}
	r.answer = s.answer
	return r
}

// maker makes programs and data. Its seed is fixed, so that each run of the tests sees the same ones.
type maker struct {
	*rand.Rand
	codes []uint16
}

func newMaker() *maker {
	m := &maker{Rand: rand.New(rand.NewSource(4))}
	for c := range 1 << 16 {
		if insn.Known(uint16(c)) {
			m.codes = append(m.codes, uint16(c))
		}
	}
	return m
}

func (m *maker) number() uint32 {
	ends := []uint32{0, 1, 2, 15, 16, 31, 32, 60, 63, 64, 0x7fffffff, 0x80000000, 0xfffffffe, 0xffffffff}
	switch m.Intn(4) {
	case 0:
		return ends[m.Intn(len(ends))]
	case 1:
		return m.Uint32()
	case 2:
		return 4 * uint32(m.Intn(16))
	}
	return uint32(m.Intn(16))
}

func (m *maker) data() api.Data {
	var l [16]uint32
	for i := range l {
		l[i] = m.number()
	}
	return dataOf(l)
}

// insn makes one instruction: now and then of an unknown code, and seldom an answer, as a program would end there.
func (m *maker) insn() api.Insn {
	code := m.codes[m.Intn(len(m.codes))]
	if insn.Of(code) == insn.Answer && m.Intn(3) != 0 {
		code = insn.LdAbs
	}
	if m.Intn(300) == 0 {
		code = uint16(m.Intn(1 << 16))
	}
	i := api.Insn{Code: code, JT: uint8(m.Intn(4)), JF: uint8(m.Intn(4)), K: m.number()}
	switch {
	case code == insn.Ja && m.Intn(4) != 0:
		i.K = uint32(m.Intn(5))
	case code == insn.LdAbs && m.Intn(8) != 0:
		i.K = 4 * uint32(m.Intn(16))
	case (insn.Of(code) == insn.Store || code == insn.LdM || code == insn.LdxM) && m.Intn(16) != 0:
		i.K = uint32(m.Intn(16))
	case (code == insn.Lsh || code == insn.Rsh) && m.Intn(8) != 0:
		i.K = uint32(m.Intn(32))
	}
	return i
}

func (m *maker) program() []api.Insn {
	p := make([]api.Insn, m.Intn(24))
	for i := range p {
		p[i] = m.insn()
	}
	return p
}

// TestModel is of P4.1 and P4.2: programs of all kinds against the chapter's table; all errors and answers are among them.
func TestModel(t *testing.T) {
	m := newMaker()
	count := map[api.Errno]int{}
	executed := map[uint16]int{}
	for range 60000 {
		p, d := m.program(), m.data()
		r := model(p, d)
		want(t, "a program", p, d, r)
		count[r.e]++
		for _, at := range r.trace[:r.steps] {
			executed[p[at].Code]++
		}
	}
	for _, e := range []api.Errno{api.OK, api.ErrOp, api.ErrLoad, api.ErrJump, api.ErrCell, api.ErrDiv, api.ErrShift, api.ErrEnd} {
		if count[e] < 100 {
			t.Errorf("%d programs alone end with %d", count[e], e)
		}
	}
	for _, code := range m.codes {
		if executed[code] < 100 {
			t.Errorf("%s is executed %d times alone", insn.Name(code), executed[code])
		}
	}
}

// TestTermination is of P4.3: indices ascend, so that no instruction is executed twice, and the steps are counted by them.
func TestTermination(t *testing.T) {
	m := newMaker()
	for range 20000 {
		p, d := m.program(), m.data()
		r := run(p, d)
		if r.steps > len(p) || r.steps < len(r.trace)-1 || r.steps > len(r.trace) || r.e == api.OK && r.steps != len(r.trace) {
			t.Errorf("%v: %d steps, trace %v", p, r.steps, r.trace)
		}
		for i, at := range r.trace {
			if at < 0 || at >= len(p) || i > 0 && at <= r.trace[i-1] {
				t.Errorf("%v: trace %v", p, r.trace)
			}
		}
	}
}

// TestLongPrograms is of P4.3: as many steps as instructions, also beyond the limit of those that a kernel takes.
func TestLongPrograms(t *testing.T) {
	for _, n := range []int{api.MaxInsns - 1, api.MaxInsns, api.MaxInsns + 1, 1 << 16, 1<<16 + 1, 100000} {
		for _, i := range []api.Insn{op(insn.Add, 1), op(insn.Ja, 0), jump(insn.Jeq, 1, 0, 0)} {
			p := slices.Repeat([]api.Insn{i}, n)
			end := run(p, different)
			e, sum := api.ErrEnd, uint32(n)
			if i.Code != insn.Add {
				e, sum = api.ErrJump, 0
			}
			if !same(end, result{0, n, e, upTo(n)}) {
				t.Errorf("%d times %s: %d, %d steps, %d", n, insn.Name(i.Code), end.answer, end.steps, end.e)
			}
			r := run(append(p, op(insn.RetA, 0)), different)
			if !same(r, result{sum, n + 1, api.OK, upTo(n + 1)}) {
				t.Errorf("%d times %s and reta: %d, %d steps, %d", n, insn.Name(i.Code), r.answer, r.steps, r.e)
			}
		}
	}
}

// TestWhatIsNotExecuted is of P4.4: other instructions in the places that are not executed have no influence, unknown codes among them.
func TestWhatIsNotExecuted(t *testing.T) {
	m := newMaker()
	others := 0
	for range 20000 {
		p, d := m.program(), m.data()
		r := run(p, d)
		for range 3 {
			q := slices.Clone(p)
			for at := range q {
				if _, executed := slices.BinarySearch(r.trace, at); !executed {
					q[at] = []api.Insn{m.insn(), {Code: 0xffff}, op(insn.Ret, 0xabcd), op(insn.Div, 0), op(insn.Ja, m.Uint32())}[m.Intn(5)]
					others++
				}
			}
			want(t, "a program with others in the places that are skipped", q, d, r)
		}
	}
	if others < 10000 {
		t.Errorf("%d instructions alone are not executed", others)
	}
}

// TestWhatIsNotLoaded is of P4.4: words of the data that are not loaded have no influence; each one that is loaded has.
func TestWhatIsNotLoaded(t *testing.T) {
	m := newMaker()
	for range 20000 {
		p, d := m.program(), m.data()
		r := run(p, d)
		l := wordsOf(d)
		loaded := [16]bool{}
		for _, at := range r.trace {
			if p[at].Code == insn.LdAbs && p[at].K%4 == 0 && p[at].K < 64 {
				loaded[p[at].K/4] = true
			}
		}
		for w := range l {
			if !loaded[w] {
				l[w] = m.Uint32()
			}
		}
		want(t, "a program with other data that is not loaded", p, dataOf(l), r)
	}
	for w := range 16 {
		l := wordsOf(different)
		l[w] = ^l[w]
		for v := range uint32(16) {
			want(t, "the word", []api.Insn{op(insn.LdAbs, 4*v), op(insn.RetA, 0)}, dataOf(l), result{l[v], 2, api.OK, upTo(2)})
		}
	}
}

// TestExtension is of P4.5: what is appended to a program that ends with an answer is without influence.
func TestExtension(t *testing.T) {
	m := newMaker()
	ended := 0
	for range 20000 {
		p, d := m.program(), m.data()
		r := run(p, d)
		if r.e != api.OK {
			continue
		}
		ended++
		want(t, "a longer program", slices.Concat(p, m.program(), m.program()), d, r)
		want(t, "a program with no operation behind it", append(slices.Clone(p), op(0xffff, 1)), d, r)
		want(t, "a program with an answer behind it", append(slices.Clone(p), op(insn.Ret, ^r.answer)), d, r)
	}
	if ended < 2000 {
		t.Errorf("%d programs alone end with an answer", ended)
	}
}

// TestNothingIsKept is of P0.4: a program has the same result whatever ran before, and in whatever memory it stands.
func TestNothingIsKept(t *testing.T) {
	m := newMaker()
	var ps [][]api.Insn
	var ds []api.Data
	var rs []result
	for range 500 {
		p, d := m.program(), m.data()
		ps, ds, rs = append(ps, p), append(ds, d), append(rs, run(p, d))
	}
	for i := len(ps) - 1; i >= 0; i-- {
		all := slices.Concat(ps[i], []api.Insn{op(insn.Ret, 0x1234), op(insn.Ja, 3), op(insn.RetA, 0)})
		want(t, "a program once more", all[:len(ps[i])], ds[i], rs[i])
	}
}

// TestPassedStays is of P0.4: what is passed stays as it is, behind its length too.
func TestPassedStays(t *testing.T) {
	m := newMaker()
	for range 2000 {
		all := append(m.program(), m.insn(), m.insn(), m.insn())
		was := slices.Clone(all)
		p := all[:m.Intn(len(all))]
		run(p, m.data())
		if !slices.Equal(all, was) {
			t.Fatalf("%v is changed: %v", was, all)
		}
	}
}

// TestReturnedIsNew is of P0.4: a trace shares no memory, up to its capacity, with one that was returned before.
func TestReturnedIsNew(t *testing.T) {
	for n := range 40 {
		p := append(make([]api.Insn, n), op(insn.Ret, 1))
		first, second := vm.Trace(p, different), vm.Trace(p, different)
		first = first[:cap(first)]
		for i := range first {
			first[i] = -7
		}
		if !slices.Equal(second, upTo(n+1)) || !slices.Equal(vm.Trace(p, different), upTo(n+1)) {
			t.Errorf("the trace of %d instructions was returned before", n+1)
		}
	}
}
