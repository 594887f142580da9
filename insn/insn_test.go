package insn_test

import (
	"bytes"
	"encoding/binary"
	"slices"
	"strconv"
	"strings"
	"testing"

	"vestibule/api"
	"vestibule/insn"
)

// chapter is the chapter's table of the known codes, a class a line, in the order of the classes' numbers.
const chapter = `Load: 20 ldabs, 80 ldlen, 00 ldi, 60 ldm; 81 ldxlen, 01 ldxi, 61 ldxm
Store: 02 st, 03 stx
Number: 04 add, 14 sub, 24 mul, 34 div, 44 or, 54 and, 64 lsh, 74 rsh, a4 xor; 0c addx, 1c subx, 2c mulx, 3c divx, 4c orx, 5c andx, 6c lshx, 7c rshx, ac xorx; 84 neg
Jump: 05 ja; 15 jeq, 25 jgt, 35 jge, 45 jset; 1d jeqx, 2d jgtx, 3d jgex, 4d jsetx
Answer: 06 ret, 16 reta
Move: 07 tax, 87 txa`

// entry is one of the chapter's known codes.
type entry struct {
	code  uint16
	class insn.Class
	name  string
	withX bool
}

// entries reads the chapter's table, by codes.
func entries(t *testing.T) map[uint16]entry {
	t.Helper()
	l := map[uint16]entry{}
	for n, line := range strings.Split(chapter, "\n") {
		class, codes, _ := strings.Cut(line, ": ")
		for _, s := range strings.Split(strings.ReplaceAll(codes, ";", ","), ", ") {
			hex, name, _ := strings.Cut(s, " ")
			code, err := strconv.ParseUint(hex, 16, 16)
			if err != nil {
				t.Fatal(err)
			}
			withX := (class == "Number" || class == "Jump") && name[len(name)-1] == 'x'
			l[uint16(code)] = entry{uint16(code), insn.Class(n + 1), name, withX}
		}
	}
	if len(l) != 41 {
		t.Fatalf("%d codes in the chapter's table", len(l))
	}
	return l
}

// codes are the numbers that the chapter's table has, ascending.
func codes(l map[uint16]entry) []uint16 {
	var c []uint16
	for code := range l {
		c = append(c, code)
	}
	slices.Sort(c)
	return c
}

// program is a program of n instructions whose fields all differ, most of its codes not known.
func program(n int) []api.Insn {
	p := make([]api.Insn, n)
	for i := range p {
		p[i] = api.Insn{Code: uint16(40503*i + 0x15), JT: uint8(3*i + 1), JF: uint8(5*i + 2), K: 2654435761*uint32(i) + 0x01020304}
	}
	return p
}

// encoded is the encoding of a program, by the library's words.
func encoded(p []api.Insn) []byte {
	b := []byte{}
	for _, i := range p {
		b = binary.LittleEndian.AppendUint16(b, i.Code)
		b = append(b, i.JT, i.JF)
		b = binary.LittleEndian.AppendUint32(b, i.K)
	}
	return b
}

// instructions are of each known code, of codes that are not known, and with each field at its ends and with each bit alone.
func instructions(t *testing.T) []api.Insn {
	l := []api.Insn{{}, {Code: 0xffff, JT: 0xff, JF: 0xff, K: 0xffffffff}, {Code: 0x0102, JT: 3, JF: 4, K: 0x05060708}}
	for _, c := range append(codes(entries(t)), 0x94, 0x28, 0xff, 0x100, 0x120, 0x2000, 0x8000, 0xffff) {
		l = append(l, api.Insn{Code: c}, api.Insn{Code: c, JT: 1, JF: 2, K: 0xc000003e})
	}
	for i := range 64 {
		x := uint64(1) << i
		l = append(l, api.Insn{Code: uint16(x), JT: uint8(x >> 16), JF: uint8(x >> 24), K: uint32(x >> 32)})
	}
	return l
}

// scribble changes a slice up to its capacity.
func scribble[T any](l []T, x T) {
	l = l[:cap(l)]
	for i := range l {
		l[i] = x
	}
}

// TestConstants is of P2.1: the constants are the codes that the chapter gives their names, and the classes have its numbers.
func TestConstants(t *testing.T) {
	given := []struct {
		code uint16
		name string
	}{
		{insn.LdAbs, "ldabs"}, {insn.LdLen, "ldlen"}, {insn.LdI, "ldi"}, {insn.LdM, "ldm"},
		{insn.LdxLen, "ldxlen"}, {insn.LdxI, "ldxi"}, {insn.LdxM, "ldxm"}, {insn.St, "st"}, {insn.Stx, "stx"},
		{insn.Add, "add"}, {insn.Sub, "sub"}, {insn.Mul, "mul"}, {insn.Div, "div"}, {insn.Or, "or"}, {insn.And, "and"},
		{insn.Lsh, "lsh"}, {insn.Rsh, "rsh"}, {insn.Xor, "xor"},
		{insn.AddX, "addx"}, {insn.SubX, "subx"}, {insn.MulX, "mulx"}, {insn.DivX, "divx"}, {insn.OrX, "orx"}, {insn.AndX, "andx"},
		{insn.LshX, "lshx"}, {insn.RshX, "rshx"}, {insn.XorX, "xorx"}, {insn.Neg, "neg"},
		{insn.Ja, "ja"}, {insn.Jeq, "jeq"}, {insn.Jgt, "jgt"}, {insn.Jge, "jge"}, {insn.Jset, "jset"},
		{insn.JeqX, "jeqx"}, {insn.JgtX, "jgtx"}, {insn.JgeX, "jgex"}, {insn.JsetX, "jsetx"},
		{insn.Ret, "ret"}, {insn.RetA, "reta"}, {insn.Tax, "tax"}, {insn.Txa, "txa"},
	}
	l := entries(t)
	for _, g := range given {
		if l[g.code].name != g.name {
			t.Errorf("the constant of %s is %#x", g.name, g.code)
		}
		delete(l, g.code)
	}
	if len(l) != 0 {
		t.Errorf("no constant of %v", l)
	}
	classes := []insn.Class{insn.None, insn.Load, insn.Store, insn.Number, insn.Jump, insn.Answer, insn.Move}
	if !slices.Equal(classes, []insn.Class{0, 1, 2, 3, 4, 5, 6}) {
		t.Errorf("classes %v", classes)
	}
}

// TestCodes is of P2.1: what is told of each of all 65536 codes, those of the table, those beside them and those above ff.
func TestCodes(t *testing.T) {
	l := entries(t)
	for c := range 1 << 16 {
		code := uint16(c)
		want, known := l[code]
		if insn.Known(code) != known || insn.Of(code) != want.class || insn.Name(code) != want.name || insn.WithX(code) != want.withX {
			t.Errorf("%#x: %v, %d, %q, %v; want %v, %v", code, insn.Known(code), insn.Of(code), insn.Name(code), insn.WithX(code), known, want)
		}
	}
}

// TestCodesByHand is of P2.1: the codes that are nearly known, and the second operands, without the table's help.
func TestCodesByHand(t *testing.T) {
	for _, c := range []struct {
		code  uint16
		class insn.Class
		name  string
		withX bool
	}{
		{0x00, insn.Load, "ldi", false},
		{0x20, insn.Load, "ldabs", false},
		{0x03, insn.Store, "stx", false},
		{0x07, insn.Move, "tax", false},
		{0x87, insn.Move, "txa", false},
		{0x84, insn.Number, "neg", false},
		{0xa4, insn.Number, "xor", false},
		{0xac, insn.Number, "xorx", true},
		{0x0c, insn.Number, "addx", true},
		{0x05, insn.Jump, "ja", false},
		{0x45, insn.Jump, "jset", false},
		{0x4d, insn.Jump, "jsetx", true},
		{0x16, insn.Answer, "reta", false},
		// Beside known codes: mod, modx, negx, jax, a return of X, loads of a half word, of a byte, and of X from the data.
		{0x94, insn.None, "", false},
		{0x9c, insn.None, "", false},
		{0x8c, insn.None, "", false},
		{0x0d, insn.None, "", false},
		{0x0e, insn.None, "", false},
		{0x28, insn.None, "", false},
		{0x30, insn.None, "", false},
		{0x21, insn.None, "", false},
		{0x100, insn.None, "", false},
		{0x120, insn.None, "", false},
		{0x8006, insn.None, "", false},
		{0x2000, insn.None, "", false},
		{0xffff, insn.None, "", false},
	} {
		if insn.Known(c.code) != (c.class != insn.None) || insn.Of(c.code) != c.class || insn.Name(c.code) != c.name || insn.WithX(c.code) != c.withX {
			t.Errorf("%#x: %v, %d, %q, %v", c.code, insn.Known(c.code), insn.Of(c.code), insn.Name(c.code), insn.WithX(c.code))
		}
	}
}

// TestCode is of P2.1: the code of each name of the table.
func TestCode(t *testing.T) {
	for code, e := range entries(t) {
		if got, ok := insn.Code(e.name); !ok || got != code {
			t.Errorf("Code of %q: %#x, %v; want %#x", e.name, got, ok, code)
		}
	}
	if got, ok := insn.Code("ret"); !ok || got != 6 {
		t.Errorf("Code of ret: %#x, %v", got, ok)
	}
	if got, ok := insn.Code("ldi"); !ok || got != 0 {
		t.Errorf("Code of ldi: %#x, %v", got, ok)
	}
}

// TestCodeOfNoName is of P2.1: 0 and false for the empty name, and for names with a letter more, less, or another.
func TestCodeOfNoName(t *testing.T) {
	named := map[string]bool{}
	for _, e := range entries(t) {
		named[e.name] = true
	}
	wrong := []string{"", " ", "x", "mod", "ld", "ldx", "ldh", "none", "jmp", "jne", "retx", "jax", "negx", "LdAbs", "RetA", "20", "0x06", "\x00", "\xff", "ret ret", "ret\n", "r\u00e9t"}
	for name := range named {
		wrong = append(wrong, strings.ToUpper(name), strings.ToUpper(name[:1])+name[1:], name+name)
		for _, s := range []string{" ", "\x00", "\n", "a", "i", "x", "m"} {
			for at := range len(name) + 1 {
				wrong = append(wrong, name[:at]+s+name[at:])
				if at < len(name) {
					wrong = append(wrong, name[:at]+name[at+1:], name[:at]+s+name[at+1:])
				}
			}
		}
	}
	for _, name := range wrong {
		if got, ok := insn.Code(name); !named[name] && (ok || got != 0) {
			t.Errorf("Code of %q: %#x, %v", name, got, ok)
		}
	}
}

// TestEncode is of P2.2: the four fields, least byte first, whatever the code.
func TestEncode(t *testing.T) {
	for _, c := range []struct {
		i    api.Insn
		want []byte
	}{
		{api.Insn{}, []byte{0, 0, 0, 0, 0, 0, 0, 0}},
		{api.Insn{Code: 0x15, JT: 1, JF: 2, K: 0xc000003e}, []byte{0x15, 0, 1, 2, 0x3e, 0, 0, 0xc0}},
		{api.Insn{Code: 0x0102, JT: 3, JF: 4, K: 0x05060708}, []byte{2, 1, 3, 4, 8, 7, 6, 5}},
		{api.Insn{Code: 0xfffe, JT: 0xfd, JF: 0xfc, K: 0xfbfaf9f8}, []byte{0xfe, 0xff, 0xfd, 0xfc, 0xf8, 0xf9, 0xfa, 0xfb}},
	} {
		if got := insn.Encode(c.i); !bytes.Equal(got, c.want) {
			t.Errorf("Encode of %v: % x; want % x", c.i, got, c.want)
		}
		if got, e := insn.Decode(c.want); got != c.i || e != api.OK {
			t.Errorf("Decode of % x: %v, %d; want %v", c.want, got, e, c.i)
		}
	}
	for _, i := range instructions(t) {
		if got, want := insn.Encode(i), encoded([]api.Insn{i}); !bytes.Equal(got, want) {
			t.Errorf("Encode of %v: % x; want % x", i, got, want)
		}
	}
}

// TestDecode is of P2.2: ErrInsn and nothing beside it unless there are 8 bytes, wherever the memory ends.
func TestDecode(t *testing.T) {
	ones := bytes.Repeat([]byte{0xff}, 64)
	for n := range 40 {
		got, e := insn.Decode(ones[:n])
		if n == 8 {
			if want := (api.Insn{Code: 0xffff, JT: 0xff, JF: 0xff, K: 0xffffffff}); got != want || e != api.OK {
				t.Errorf("Decode of 8 bytes: %v, %d", got, e)
			}
		} else if got != (api.Insn{}) || e != api.ErrInsn {
			t.Errorf("Decode of %d bytes: %v, %d", n, got, e)
		}
	}
	for _, b := range [][]byte{nil, {}} {
		if got, e := insn.Decode(b); got != (api.Insn{}) || e != api.ErrInsn {
			t.Errorf("Decode of no bytes: %v, %d", got, e)
		}
	}
}

// TestPrint is of P2.3: the encodings one after the other, and ErrLong above MaxInsns instructions.
func TestPrint(t *testing.T) {
	p := []api.Insn{{Code: insn.LdAbs, K: 4}, {Code: insn.Jeq, JT: 1, JF: 2, K: 0xc000003e}, {Code: 0x9494, K: 1}}
	want := []byte{0x20, 0, 0, 0, 4, 0, 0, 0, 0x15, 0, 1, 2, 0x3e, 0, 0, 0xc0, 0x94, 0x94, 0, 0, 1, 0, 0, 0}
	if got, e := insn.Print(p); !bytes.Equal(got, want) || e != api.OK {
		t.Errorf("Print: % x, %d", got, e)
	}
	for _, n := range []int{1, 2, 255, 256, 257, api.MaxInsns - 1, api.MaxInsns} {
		p := program(n)
		if got, e := insn.Print(p); !bytes.Equal(got, encoded(p)) || e != api.OK {
			t.Errorf("Print of %d instructions: %d bytes, %d", n, len(got), e)
		}
	}
	for _, n := range []int{api.MaxInsns + 1, api.MaxInsns + 2, 2 * api.MaxInsns, 1 << 16, 1<<16 + 1} {
		if got, e := insn.Print(program(n)); len(got) != 0 || e != api.ErrLong {
			t.Errorf("Print of %d instructions: %d bytes, %d", n, len(got), e)
		}
	}
	for _, p := range [][]api.Insn{nil, {}} {
		if got, e := insn.Print(p); len(got) != 0 || e != api.OK {
			t.Errorf("Print of no instructions: % x, %d", got, e)
		}
	}
}

// TestParse is of P2.3: the instructions of whole eights of bytes, whatever their codes.
func TestParse(t *testing.T) {
	b := []byte{0x20, 0, 0, 0, 4, 0, 0, 0, 0x15, 0, 1, 2, 0x3e, 0, 0, 0xc0, 0x95, 0x94, 0, 0, 1, 0, 0, 0}
	want := []api.Insn{{Code: insn.LdAbs, K: 4}, {Code: insn.Jeq, JT: 1, JF: 2, K: 0xc000003e}, {Code: 0x9495, K: 1}}
	if got, e := insn.Parse(b); !slices.Equal(got, want) || e != api.OK {
		t.Errorf("Parse: %v, %d", got, e)
	}
	for _, n := range []int{1, 2, 255, 256, 257, api.MaxInsns - 1, api.MaxInsns} {
		p := program(n)
		if got, e := insn.Parse(encoded(p)); !slices.Equal(got, p) || e != api.OK {
			t.Errorf("Parse of %d instructions: %d, %d", n, len(got), e)
		}
	}
	for _, b := range [][]byte{nil, {}, make([]byte, 0, 9)} {
		if got, e := insn.Parse(b); len(got) != 0 || e != api.OK {
			t.Errorf("Parse of no bytes: %v, %d", got, e)
		}
	}
}

// TestParseOfWrongLengths is of P2.3: ErrInsn beside the multiples of 8, however many bytes there are; ErrLong for whole instructions that are too many.
func TestParseOfWrongLengths(t *testing.T) {
	most := 8 * api.MaxInsns
	all := make([]byte, 20*api.MaxInsns)
	for _, around := range []int{0, 8, 16, 24, most - 8, most, most + 8, 2 * most} {
		for n := max(0, around-8); n <= around+8; n++ {
			want := api.OK
			if n%8 != 0 {
				want = api.ErrInsn
			} else if n > most {
				want = api.ErrLong
			}
			got, e := insn.Parse(all[:n])
			if e != want || e != api.OK && len(got) != 0 || e == api.OK && len(got) != n/8 {
				t.Errorf("Parse of %d bytes: %d instructions, %d; want %d", n, len(got), e, want)
			}
		}
	}
}

// TestSame is of P2.3: the length and all four fields count, and nothing behind the length.
func TestSame(t *testing.T) {
	i := api.Insn{Code: 0x15, JT: 1, JF: 2, K: 3}
	other := []api.Insn{{Code: 0x16, JT: 1, JF: 2, K: 3}, {Code: 0x115, JT: 1, JF: 2, K: 3}, {Code: 0x15, JT: 2, JF: 2, K: 3}, {Code: 0x15, JT: 1, JF: 3, K: 3}, {Code: 0x15, JT: 1, JF: 2, K: 0x80000003}, {Code: 0x15, JT: 2, JF: 1, K: 3}}
	for _, o := range other {
		for _, c := range [][2][]api.Insn{{{i}, {o}}, {{i, i}, {o, i}}, {{i, i}, {i, o}}, {{i, o}, {o, i}}} {
			if insn.Same(c[0], c[1]) || insn.Same(c[1], c[0]) {
				t.Errorf("Same of %v, %v: true", c[0], c[1])
			}
		}
	}
	long := program(api.MaxInsns + 1)
	for _, c := range []struct {
		a, b []api.Insn
		want bool
	}{
		{nil, nil, true},
		{nil, []api.Insn{}, true},
		{nil, []api.Insn{{}}, false},
		{[]api.Insn{}, []api.Insn{{}}, false},
		{[]api.Insn{{}}, []api.Insn{{}, {}}, false},
		{[]api.Insn{i}, []api.Insn{i}, true},
		{[]api.Insn{i, {}}, []api.Insn{i, {}}, true},
		{[]api.Insn{i, {}}, []api.Insn{i}, false},
		{[]api.Insn{i, {}, i}[:1], []api.Insn{i, i}[:1], true},
		{[]api.Insn{i, i}[:1], []api.Insn{i, i}, false},
		{long, program(api.MaxInsns + 1), true},
		{long, program(api.MaxInsns), false},
		{long, long, true},
	} {
		if insn.Same(c.a, c.b) != c.want || insn.Same(c.b, c.a) != c.want {
			t.Errorf("Same of %d and %d instructions: not %v", len(c.a), len(c.b), c.want)
		}
	}
}

// TestRoundTrip is of P2.4, for programs, and for instructions and bytes alone.
func TestRoundTrip(t *testing.T) {
	for _, i := range instructions(t) {
		if got, e := insn.Decode(insn.Encode(i)); got != i || e != api.OK {
			t.Errorf("Decode of Encode of %v: %v, %d", i, got, e)
		}
	}
	for _, p := range [][]api.Insn{nil, instructions(t), program(1), program(300), program(api.MaxInsns)} {
		b, e := insn.Print(p)
		if e != api.OK {
			t.Fatalf("Print of %d instructions: %d", len(p), e)
		}
		got, e := insn.Parse(b)
		if !insn.Same(got, p) || e != api.OK {
			t.Errorf("Parse of Print of %d instructions: %d, %d", len(p), len(got), e)
		}
	}
	for n := 0; n <= 8*api.MaxInsns; n += 8 * 315 {
		b := make([]byte, n)
		for i := range b {
			b[i] = byte(i*i + i>>7 + 0xa1)
		}
		p, e := insn.Parse(b)
		if e != api.OK {
			t.Fatalf("Parse of %d bytes: %d", n, e)
		}
		got, e := insn.Print(p)
		if !bytes.Equal(got, b) || e != api.OK {
			t.Errorf("Print of Parse of %d bytes: %d, %d", n, len(got), e)
		}
	}
}

// TestUniqueNames is of P2.5.
func TestUniqueNames(t *testing.T) {
	first := map[string]uint16{}
	for c := range 1 << 16 {
		code := uint16(c)
		if !insn.Known(code) {
			continue
		}
		name := insn.Name(code)
		if other, ok := first[name]; ok || name == "" {
			t.Errorf("%#x and %#x are both named %q", other, code, name)
		}
		first[name] = code
		got, ok := insn.Code(name)
		if !ok || got != code || insn.Name(got) != name {
			t.Errorf("%#x is named %q, whose code is %#x, %v", code, name, got, ok)
		}
	}
	if len(first) != 41 {
		t.Errorf("%d names", len(first))
	}
}

// TestPassedStays is of P0.4: what is passed stays as it is, behind its length too.
func TestPassedStays(t *testing.T) {
	all := program(12)
	for n := range 9 {
		insn.Print(all[:n])
		insn.Same(all[:n], all[2:5])
	}
	insn.Same(all, program(12))
	if !slices.Equal(all, program(12)) {
		t.Errorf("the instructions that were passed are changed: %v", all)
	}
	b := encoded(all)
	for n := range 40 {
		insn.Decode(b[:n])
		insn.Parse(b[:n])
	}
	if !bytes.Equal(b, encoded(program(12))) {
		t.Errorf("the bytes that were passed are changed: % x", b)
	}
}

// TestReturnedIsNew is of P0.4: what is returned shares no memory, up to its capacity, with what was passed or with what an earlier call returned.
func TestReturnedIsNew(t *testing.T) {
	for n := range 4 {
		all := program(n + 3)
		b := encoded(all)
		first, _ := insn.Print(all[:n])
		second, _ := insn.Print(all[:n])
		scribble(first, 0xee)
		third, _ := insn.Print(all[:n])
		if want := encoded(program(n)); !bytes.Equal(second, want) || !bytes.Equal(third, want) || !slices.Equal(all, program(n+3)) {
			t.Errorf("Print of %d instructions shares its memory", n)
		}
		p, _ := insn.Parse(b[:8*n])
		q, _ := insn.Parse(b[:8*n])
		scribble(p, api.Insn{Code: 0xee})
		r, _ := insn.Parse(b[:8*n])
		scribble(b, 0xdd)
		if want := program(n); !slices.Equal(q, want) || !slices.Equal(r, want) {
			t.Errorf("Parse of %d instructions shares its memory", n)
		}
	}
	for _, i := range instructions(t) {
		first, second := insn.Encode(i), insn.Encode(i)
		scribble(first, 0xee)
		if want := encoded([]api.Insn{i}); !bytes.Equal(second, want) || !bytes.Equal(insn.Encode(i), want) {
			t.Errorf("Encode of %v returns memory that was returned before", i)
		}
	}
}
