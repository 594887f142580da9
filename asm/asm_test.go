package asm_test

import (
	"fmt"
	"math"
	"math/big"
	"math/rand"
	"regexp"
	"slices"
	"strconv"
	"strings"
	"testing"

	"vestibule/api"
	"vestibule/asm"
	"vestibule/insn"
)

// The operands of a line, by the chapter's table: K, nothing, the label of ja, K and two labels, two labels.
const (
	number = iota
	nothing
	far
	numberAndWays
	ways
)

// entry is one of the known codes: its number and its name by chapter 2, its operands by chapter 7.
type entry struct {
	code uint16
	name string
	kind int
}

// table is all known codes, a row of the chapter's table a line.
var table = []entry{
	{0x20, "ldabs", number}, {0x00, "ldi", number}, {0x60, "ldm", number}, {0x01, "ldxi", number}, {0x61, "ldxm", number}, {0x02, "st", number}, {0x03, "stx", number}, {0x06, "ret", number},
	{0x04, "add", number}, {0x14, "sub", number}, {0x24, "mul", number}, {0x34, "div", number}, {0x44, "or", number}, {0x54, "and", number}, {0x64, "lsh", number}, {0x74, "rsh", number}, {0xa4, "xor", number},
	{0x80, "ldlen", nothing}, {0x81, "ldxlen", nothing}, {0x84, "neg", nothing}, {0x16, "reta", nothing}, {0x07, "tax", nothing}, {0x87, "txa", nothing},
	{0x0c, "addx", nothing}, {0x1c, "subx", nothing}, {0x2c, "mulx", nothing}, {0x3c, "divx", nothing}, {0x4c, "orx", nothing}, {0x5c, "andx", nothing}, {0x6c, "lshx", nothing}, {0x7c, "rshx", nothing}, {0xac, "xorx", nothing},
	{0x05, "ja", far},
	{0x15, "jeq", numberAndWays}, {0x25, "jgt", numberAndWays}, {0x35, "jge", numberAndWays}, {0x45, "jset", numberAndWays},
	{0x1d, "jeqx", ways}, {0x2d, "jgtx", ways}, {0x3d, "jgex", ways}, {0x4d, "jsetx", ways},
}

func (e entry) usesK() bool    { return e.kind == number || e.kind == far || e.kind == numberAndWays }
func (e entry) usesWays() bool { return e.kind == numberAndWays || e.kind == ways }

// entryOf is the entry of a code.
func entryOf(code uint16) (entry, bool) {
	n := slices.IndexFunc(table, func(e entry) bool { return e.code == code })
	if n < 0 {
		return entry{}, false
	}
	return table[n], true
}

// instruction is an instruction of the code whose unused fields are 0, and whose others are these.
func (e entry) instruction(k uint32, jt, jf uint8) api.Insn {
	i := api.Insn{Code: e.code}
	if e.usesK() {
		i.K = k
	}
	if e.usesWays() {
		i.JT, i.JF = jt, jf
	}
	return i
}

// labelOf is the label of the instruction after skipped further ones, with sums of any size.
func labelOf(at int, skipped uint32) string {
	sum := big.NewInt(int64(at))
	sum.Add(sum, big.NewInt(int64(skipped)+1))
	return "L" + sum.String()
}

// lineByChapter is the line of an instruction by the chapter's table.
func lineByChapter(i api.Insn, at int) string {
	e, ok := entryOf(i.Code)
	if !ok || at < 0 || !e.usesK() && i.K != 0 || !e.usesWays() && (i.JT != 0 || i.JF != 0) {
		return ""
	}
	switch e.kind {
	case number:
		return fmt.Sprintf("%s %d", e.name, i.K)
	case far:
		return e.name + " " + labelOf(at, i.K)
	case numberAndWays:
		return fmt.Sprintf("%s %d %s %s", e.name, i.K, labelOf(at, uint32(i.JT)), labelOf(at, uint32(i.JF)))
	case ways:
		return e.name + " " + labelOf(at, uint32(i.JT)) + " " + labelOf(at, uint32(i.JF))
	}
	return e.name
}

// jumpsOf is how many instructions an instruction may skip.
func jumpsOf(i api.Insn) []int {
	e, ok := entryOf(i.Code)
	switch {
	case ok && e.kind == far:
		return []int{int(i.K)}
	case ok && e.usesWays():
		return []int{int(i.JT), int(i.JF)}
	}
	return nil
}

// textByChapter is the text of a program, and whether it can be written.
func textByChapter(p []api.Insn) (string, bool) {
	if len(p) > 4096 {
		return "", false
	}
	led := map[int]bool{}
	for at, i := range p {
		if lineByChapter(i, at) == "" {
			return "", false
		}
		for _, n := range jumpsOf(i) {
			if at+1+n >= len(p) {
				return "", false
			}
			led[at+1+n] = true
		}
	}
	var s strings.Builder
	for at, i := range p {
		if led[at] {
			fmt.Fprintf(&s, "L%d:\n", at)
		}
		s.WriteString(lineByChapter(i, at) + "\n")
	}
	return s.String(), true
}

var (
	labelLine = regexp.MustCompile(`\AL(0|[1-9][0-9]*):\z`)
	insnLine  = regexp.MustCompile(`\A([a-z]+)((?: L?(?:0|[1-9][0-9]*))*)\z`)
	// patterns are the operands of each kind.
	patterns = map[int]*regexp.Regexp{
		number:        regexp.MustCompile(`\A [0-9]+\z`),
		nothing:       regexp.MustCompile(`\A\z`),
		far:           regexp.MustCompile(`\A L[0-9]+\z`),
		numberAndWays: regexp.MustCompile(`\A [0-9]+ L[0-9]+ L[0-9]+\z`),
		ways:          regexp.MustCompile(`\A L[0-9]+ L[0-9]+\z`),
	}
)

// lineRead reads a line strictly; led are the indices that its labels name.
func lineRead(line string, at int) (i api.Insn, led []int, ok bool) {
	m := insnLine.FindStringSubmatch(line)
	if m == nil {
		return i, nil, false
	}
	n := slices.IndexFunc(table, func(e entry) bool { return e.name == m[1] })
	if n < 0 || !patterns[table[n].kind].MatchString(m[2]) {
		return i, nil, false
	}
	i.Code = table[n].code
	var skips []int
	for _, w := range strings.Fields(m[2]) {
		v, err := strconv.ParseUint(strings.TrimPrefix(w, "L"), 10, 32)
		if err != nil {
			return i, nil, false
		}
		if w[0] != 'L' {
			i.K = uint32(v)
			continue
		}
		led = append(led, int(v))
		skips = append(skips, int(v)-at-1)
	}
	for _, n := range skips {
		if n < 0 || len(skips) == 2 && n > 255 {
			return i, nil, false
		}
	}
	switch len(skips) {
	case 1:
		i.K = uint32(skips[0])
	case 2:
		i.JT, i.JF = uint8(skips[0]), uint8(skips[1])
	}
	return i, led, true
}

// readByChapter reads a text strictly, in order, without writing any.
func readByChapter(s string) ([]api.Insn, bool) {
	if s == "" {
		return nil, true
	}
	if s[len(s)-1] != '\n' {
		return nil, false
	}
	var p []api.Insn
	stand, led := map[int]bool{}, map[int]bool{}
	for _, line := range strings.Split(s[:len(s)-1], "\n") {
		if m := labelLine.FindStringSubmatch(line); m != nil {
			if m[1] != strconv.Itoa(len(p)) || stand[len(p)] {
				return nil, false
			}
			stand[len(p)] = true
			continue
		}
		i, to, ok := lineRead(line, len(p))
		if !ok {
			return nil, false
		}
		for _, n := range to {
			led[n] = true
		}
		p = append(p, i)
	}
	for n := range led {
		if n >= len(p) || !stand[n] {
			return nil, false
		}
	}
	return p, len(led) == len(stand) && len(p) <= 4096
}

func short(s string) string {
	if len(s) > 300 {
		return s[:300] + ".."
	}
	return s
}

// wantText holds what is told of a program against what it should be; of one that can be written, the text is read again too.
func wantText(t *testing.T, what string, p []api.Insn, text string, can bool) {
	t.Helper()
	var e api.Errno
	if !can {
		e = api.ErrAsm
	}
	if got := asm.Can(p); got != can {
		t.Errorf("%s: Can of %v: %t", what, p[:min(len(p), 20)], got)
	}
	if got, gotE := asm.Text(p); got != text || gotE != e {
		t.Errorf("%s: Text of %v: %q, %d; want %q, %d", what, p[:min(len(p), 20)], short(got), gotE, short(text), e)
	}
	if can {
		wantRead(t, what, text, p, true)
	}
}

// wantProgram is wantText by the chapter's words.
func wantProgram(t *testing.T, what string, p []api.Insn) {
	t.Helper()
	text, can := textByChapter(p)
	wantText(t, what, p, text, can)
}

// wantRead holds what is read from a string against what it should be; a text that is read is written again too.
func wantRead(t *testing.T, what, s string, p []api.Insn, ok bool) {
	t.Helper()
	var e api.Errno
	if !ok {
		p, e = nil, api.ErrAsm
	}
	got, gotE := asm.Parse(s)
	if !slices.Equal(got, p) || gotE != e {
		t.Errorf("%s: Parse of %q: %v, %d; want %v, %d", what, short(s), got[:min(len(got), 20)], gotE, p[:min(len(p), 20)], e)
		return
	}
	if !ok {
		return
	}
	if text, e := asm.Text(got); text != s || e != api.OK {
		t.Errorf("%s: %q is read; its text: %q, %d", what, short(s), short(text), e)
	}
}

// wantString is wantRead by the chapter's words; it tells whether the string is a text.
func wantString(t *testing.T, what, s string) bool {
	t.Helper()
	p, ok := readByChapter(s)
	wantRead(t, what, s, p, ok)
	return ok
}

func wantLine(t *testing.T, i api.Insn, at int, line string) {
	t.Helper()
	if got := asm.Line(i, at); got != line {
		t.Errorf("Line of %v at %d: %q; want %q", i, at, got, line)
	}
}

func op(code uint16, k uint32) api.Insn { return api.Insn{Code: code, K: k} }

func fork(jt, jf uint8) api.Insn { return api.Insn{Code: insn.Jeq, JT: jt, JF: jf, K: 5} }

// tax, ret are instructions that can be written wherever they stand.
var tax, ret = op(insn.Tax, 0), op(insn.Ret, 1)

// slashed is a text whose lines are separated by a slash in the chapter's examples.
func slashed(s string) string { return strings.ReplaceAll(s, " / ", "\n") + "\n" }

// TestExamples is of P7.1 and P7.2: the chapter's examples.
func TestExamples(t *testing.T) {
	p := []api.Insn{op(insn.LdAbs, 4), fork(0, 1), op(insn.Ret, 7), op(insn.Ret, 0)}
	wantText(t, "a fork", p, slashed("ldabs 4 / jeq 5 L2 L3 / L2: / ret 7 / L3: / ret 0"), true)
	wantText(t, "no instructions", nil, "", true)
	wantText(t, "no operands", []api.Insn{op(insn.Tax, 0), op(insn.Neg, 0)}, "tax\nneg\n", true)
	for _, s := range []string{"ret 07\n", "ja L0\n", "ret 4294967296\n", "ret 1"} {
		wantRead(t, "no text", s, nil, false)
	}
}

// TestTable is of P7.3: the codes of this file's table are the known ones, each with its name.
func TestTable(t *testing.T) {
	if len(table) != 41 {
		t.Errorf("%d codes", len(table))
	}
	for _, e := range table {
		if insn.Name(e.code) != e.name {
			t.Errorf("%#x is named %q", e.code, insn.Name(e.code))
		}
	}
}

// TestOperands is of P7.3: for each known code the line with its operands, K at each number of digits.
func TestOperands(t *testing.T) {
	for _, e := range table {
		for _, c := range []struct {
			k    uint32
			text string
		}{{0, "0"}, {1, "1"}, {9, "9"}, {10, "10"}, {11, "11"}, {99, "99"}, {100, "100"}, {255, "255"}, {256, "256"}, {2147483647, "2147483647"}, {2147483648, "2147483648"}, {4294967295, "4294967295"}} {
			i := e.instruction(c.k, 3, 7)
			switch e.kind {
			case number:
				wantLine(t, i, 0, e.name+" "+c.text)
				wantLine(t, i, 77, e.name+" "+c.text)
			case nothing:
				wantLine(t, i, 0, e.name)
				wantLine(t, i, 77, e.name)
			case far:
				wantLine(t, i, 0, e.name+" "+labelOf(0, c.k))
				wantLine(t, i, 77, e.name+" "+labelOf(77, c.k))
			case numberAndWays:
				wantLine(t, i, 0, e.name+" "+c.text+" L4 L8")
				wantLine(t, i, 77, e.name+" "+c.text+" L81 L85")
			case ways:
				wantLine(t, i, 0, e.name+" L4 L8")
				wantLine(t, i, 77, e.name+" L81 L85")
			}
		}
	}
	for _, c := range []struct {
		i    api.Insn
		at   int
		line string
	}{
		{op(insn.Ja, 0), 0, "ja L1"},
		{op(insn.Ja, 9), 0, "ja L10"},
		{op(insn.Ja, 9), 3, "ja L13"},
		{fork(0, 0), 0, "jeq 5 L1 L1"},
		{fork(255, 0), 9, "jeq 5 L265 L10"},
		{api.Insn{Code: insn.JsetX, JT: 1, JF: 255}, 4095, "jsetx L4097 L4351"},
		{op(insn.Neg, 0), 5, "neg"},
		{op(insn.Sub, 0), 5, "sub 0"},
		{op(insn.SubX, 0), 5, "subx"},
		{op(insn.Stx, 15), 5, "stx 15"},
		{op(insn.RetA, 0), 5, "reta"},
		{op(insn.Ret, api.Allow), 5, "ret 2147418112"},
	} {
		wantLine(t, c.i, c.at, c.line)
	}
}

// TestIndices is of P7.3: lines at the ends of the indices, of jumps whose targets exist in no program.
func TestIndices(t *testing.T) {
	for _, e := range table {
		for _, k := range []uint32{0, 1, 4095, math.MaxInt32, math.MaxUint32 - 1, math.MaxUint32} {
			for _, jt := range []uint8{0, 1, 254, 255} {
				i := e.instruction(k, jt, 255-jt)
				for _, at := range []int{-1, -2, math.MinInt, math.MinInt + 1, -4096, math.MinInt32} {
					wantLine(t, i, at, "")
				}
				for _, at := range []int{0, 1, 8, 9, 10, 4095, 4096, math.MaxInt32 - 1, math.MaxInt32, math.MaxInt - 1<<32, math.MaxInt - 256, math.MaxInt - 255, math.MaxInt - 1, math.MaxInt} {
					wantLine(t, i, at, lineByChapter(i, at))
				}
			}
		}
	}
	wantLine(t, op(insn.Ja, math.MaxUint32), 0, "ja L4294967296")
	wantLine(t, op(insn.Ja, math.MaxUint32-1), 0, "ja L4294967295")
	if math.MaxInt == math.MaxInt64 {
		wantLine(t, op(insn.Ja, 0), math.MaxInt, "ja L9223372036854775808")
		wantLine(t, op(insn.Ja, math.MaxUint32), math.MaxInt, "ja L9223372041149743103")
		wantLine(t, fork(255, 0), math.MaxInt, "jeq 5 L9223372036854776063 L9223372036854775808")
	}
}

// TestUnusedFields is of P7.1 and P7.3: a field that a code does not use makes no line, in whichever bit it is not 0, and no program that can be written; a field that it uses does no such thing.
func TestUnusedFields(t *testing.T) {
	for _, e := range table {
		for bit := range 48 {
			x := uint64(1) << bit
			i := api.Insn{Code: e.code, JT: uint8(x >> 32), JF: uint8(x >> 40), K: uint32(x)}
			used := bit < 32 && e.usesK() || bit >= 32 && e.usesWays()
			if got := asm.Line(i, 3); (got != "") != used || got != lineByChapter(i, 3) {
				t.Errorf("Line of %s %v: %q", e.name, i, got)
			}
			for at := range 3 {
				p := slices.Repeat([]api.Insn{tax}, 300)
				p[at] = i
				if can := used && !(e.kind == far && bit > 8); asm.Can(p) != can {
					t.Errorf("Can of %s %v: %t", e.name, i, !can)
				}
				wantProgram(t, e.name, p)
			}
		}
		// All fields at their ends, each against the others.
		for n := range 8 {
			i := api.Insn{Code: e.code}
			if n&1 != 0 {
				i.K = math.MaxUint32
			}
			if n&2 != 0 {
				i.JT = 255
			}
			if n&4 != 0 {
				i.JF = 255
			}
			wantLine(t, i, 0, lineByChapter(i, 0))
			wantProgram(t, e.name, []api.Insn{i})
		}
	}
}

// TestUnknownCodes is of P7.1 and P7.3: all codes, known and not.
func TestUnknownCodes(t *testing.T) {
	for c := range 1 << 16 {
		i := op(uint16(c), 0)
		_, known := entryOf(i.Code)
		if got := asm.Line(i, 2); (got != "") != known || got != lineByChapter(i, 2) {
			t.Errorf("Line of %#x: %q", c, got)
		}
		p := []api.Insn{tax, i, ret}
		if asm.Can(p) != known {
			t.Errorf("Can with %#x: %t", c, !known)
		}
		text, e := asm.Text(p)
		if want, _ := textByChapter(p); text != want || (e == api.OK) != known || !known && e != api.ErrAsm {
			t.Errorf("Text with %#x: %q, %d", c, text, e)
		}
	}
	for _, code := range []uint16{0x94, 0x28, 0x9c, 0xff, 0x100, 0x120, 0x8006, 0xffff} {
		for at := range 3 {
			p := []api.Insn{tax, tax, tax}
			p[at].Code = code
			wantText(t, "a code that is not known", p, "", false)
		}
		wantLine(t, api.Insn{Code: code, JT: 1, JF: 1, K: 1}, 0, "")
	}
}

// TestLengths is of P7.1 and P7.2: as many instructions as may be, and more.
func TestLengths(t *testing.T) {
	for _, p := range [][]api.Insn{nil, {}, []api.Insn{{Code: 0xffff}}[:0]} {
		wantText(t, "no instructions", p, "", true)
	}
	for _, n := range []int{1, 2, 255, 256, 257, 4095, 4096, 4097, 4098, 5000, 8192, 1 << 16} {
		for _, i := range []api.Insn{tax, op(insn.Xor, math.MaxUint32)} {
			line := lineByChapter(i, 0) + "\n"
			p, text := slices.Repeat([]api.Insn{i}, n), strings.Repeat(line, n)
			if n > 4096 {
				wantText(t, "too many instructions", p, "", false)
				wantRead(t, "too many instructions", text, nil, false)
				continue
			}
			wantText(t, "a long program", p, text, true)
		}
	}
	// Each index but the first is led to: the most lines that a text may have.
	p := slices.Repeat([]api.Insn{fork(0, 0)}, 4096)
	p[4095] = ret
	wantProgram(t, "forks alone", p)
	text, _ := asm.Text(p)
	if n := strings.Count(text, "\n"); n != 4096+4095 {
		t.Errorf("%d lines", n)
	}
	wantRead(t, "forks alone, and one instruction more", text+"ret 1\n", nil, false)
	wantText(t, "forks alone, and one instruction more", append(p, ret), "", false)
	p[4095] = fork(0, 0)
	wantText(t, "forks alone, the last one too", p, "", false)
	// What stands behind the length is none of the program.
	wantText(t, "a program of one", []api.Insn{tax, {Code: 0xffff}}[:1], "tax\n", true)
	wantText(t, "a target behind the length", []api.Insn{op(insn.Ja, 0), ret}[:1], "", false)
}

// TestTargets is of P7.1: jumps to the last instruction, just behind it, and beyond, at each index of a short program and at some of long ones.
func TestTargets(t *testing.T) {
	for _, e := range table {
		if e.kind != far && !e.usesWays() {
			continue
		}
		for _, n := range []int{1, 2, 3, 4, 9, 10, 11, 12, 255, 256, 257, 258, 4095, 4096} {
			for _, at := range []int{0, 1, 2, 3, n - 260, n - 258, n - 257, n - 256, n - 3, n - 2, n - 1} {
				if at < 0 || at >= n {
					continue
				}
				for _, skip := range []int{0, 1, n - at - 3, n - at - 2, n - at - 1, n - at} {
					if skip < 0 || e.kind != far && skip > 255 {
						continue
					}
					p := slices.Repeat([]api.Insn{tax}, n)
					p[at] = e.instruction(uint32(skip), uint8(skip), 0)
					can := at+1+skip < n && at+1 < n
					if asm.Can(p) != can {
						t.Errorf("%s at %d of %d, skipping %d: %t", e.name, at, n, skip, !can)
					}
					if n < 300 {
						wantProgram(t, e.name, p)
					}
					p[at] = e.instruction(uint32(skip), 0, uint8(skip))
					if asm.Can(p) != can {
						t.Errorf("%s at %d of %d, skipping %d: %t", e.name, at, n, skip, !can)
					}
				}
			}
		}
	}
	for _, k := range []uint32{4, 4095, math.MaxInt32, 1 << 31, math.MaxUint32 - 3, math.MaxUint32 - 2, math.MaxUint32 - 1, math.MaxUint32} {
		for at := range 4 {
			p := []api.Insn{tax, tax, tax, tax}
			p[at] = op(insn.Ja, k)
			wantText(t, "a jump far beyond", p, "", false)
		}
	}
	wantText(t, "ja to the last", []api.Insn{op(insn.Ja, 1), tax, ret}, slashed("ja L2 / tax / L2: / ret 1"), true)
	wantText(t, "ja behind the last", []api.Insn{op(insn.Ja, 2), tax, ret}, "", false)
	wantText(t, "a fork to the last", []api.Insn{fork(1, 1), tax, ret}, slashed("jeq 5 L2 L2 / tax / L2: / ret 1"), true)
	wantText(t, "a fork behind the last", []api.Insn{fork(2, 0), tax, ret}, "", false)
	wantText(t, "a fork behind the last", []api.Insn{fork(0, 2), tax, ret}, "", false)
	wantText(t, "the longest fork", append([]api.Insn{fork(255, 0)}, slices.Repeat([]api.Insn{tax}, 256)...), "jeq 5 L256 L1\nL1:\n"+strings.Repeat("tax\n", 255)+"L256:\ntax\n", true)
	wantText(t, "a jump at the end", []api.Insn{op(insn.Ja, 0)}, "", false)
}

// TestLabels is of P7.1 and P7.5: a label stands once, however many jumps lead to it, and at no index to which none leads.
func TestLabels(t *testing.T) {
	for _, c := range []struct {
		what string
		p    []api.Insn
		text string
	}{
		{"both ways to one index", []api.Insn{fork(0, 0), ret}, "jeq 5 L1 L1 / L1: / ret 1"},
		{"several jumps to one index", []api.Insn{fork(2, 1), fork(1, 1), op(insn.Ja, 0), ret}, "jeq 5 L3 L2 / jeq 5 L3 L3 / L2: / ja L3 / L3: / ret 1"},
		{"ways that cross", []api.Insn{fork(1, 0), tax, ret}, "jeq 5 L2 L1 / L1: / tax / L2: / ret 1"},
		{"a jump that is led to", []api.Insn{op(insn.Ja, 0), op(insn.Ja, 0), ret}, "ja L1 / L1: / ja L2 / L2: / ret 1"},
		{"a jump over nothing that is reached", []api.Insn{op(insn.Ja, 1), op(insn.Ja, 0), ret}, "ja L2 / ja L2 / L2: / ret 1"},
		{"behind an answer", []api.Insn{ret, op(insn.Ja, 0), ret}, "ret 1 / ja L2 / L2: / ret 1"},
		{"what is none but has its fields", []api.Insn{op(insn.LdI, 1), op(insn.Ret, 1), ret, ret}, "ldi 1 / ret 1 / ret 1 / ret 1"},
		{"X", []api.Insn{{Code: insn.JgeX, JT: 1}, op(insn.AddX, 0), ret}, "jgex L2 L1 / L1: / addx / L2: / ret 1"},
		{"what the checker does not accept", []api.Insn{op(insn.LdAbs, 77), op(insn.Div, 0), op(insn.St, 16), op(insn.Lsh, 32)}, "ldabs 77 / div 0 / st 16 / lsh 32"},
	} {
		wantText(t, c.what, c.p, slashed(c.text), true)
		wantProgram(t, c.what, c.p)
	}
}

// TestWrongTexts is of P7.2: strings beside a text.
func TestWrongTexts(t *testing.T) {
	for _, c := range []struct{ what, s string }{
		{"a label that no jump leads to", "tax / L1: / ret 1"},
		{"a label that no jump leads to", "L0: / ret 1"},
		{"a label that no jump leads to", "jeq 5 L2 L2 / L1: / tax / L2: / ret 1"},
		{"a label behind the last instruction", "ret 1 / L1:"},
		{"a label behind the last instruction", "ja L1 / L1:"},
		{"a label behind the last instruction", "ja L1 / L1: / ret 1 / L2:"},
		{"labels alone", "L0:"},
		{"a label that is missing", "jeq 5 L1 L2 / L1: / tax / ret 1"},
		{"a label that is missing", "jeq 5 L1 L2 / tax / L2: / ret 1"},
		{"a label that is missing", "ja L1 / ret 1"},
		{"labels out of order", "jeq 5 L1 L2 / L2: / tax / L1: / ret 1"},
		{"labels out of order", "jeq 5 L1 L2 / L2: / L1: / tax / ret 1"},
		{"labels together", "jeq 5 L1 L2 / L1: / L2: / tax / ret 1"},
		{"a label given twice", "ja L1 / L1: / L1: / ret 1"},
		{"a label given twice", "ja L1 / L1: / tax / L1: / ret 1"},
		{"a label ahead of its place", "ja L2 / L2: / tax / ret 1"},
		{"a label behind its place", "ja L1 / tax / L1: / ret 1"},
		{"a label of the wrong number", "ja L1 / L2: / ret 1"},
		{"a label of the wrong number", "ja L2 / L1: / ret 1"},
		{"a label of the wrong number", "ja L1 / L0: / ret 1"},
		{"a label of the wrong number", "ja L1 / L01: / ret 1"},
		{"a label of the wrong number", "ja L01 / L1: / ret 1"},
		{"a label of the wrong number", "ja L01 / L01: / ret 1"},
		{"a label of a number of 2^32 and more", "ja L4294967297 / L1: / ret 1"},
		{"a label of a number of 2^64 and more", "ja L18446744073709551617 / L1: / ret 1"},
		{"a label without a number", "ja L / L1: / ret 1"},
		{"a label without a number", "ja L1 / L: / ret 1"},
		{"a label that is small", "ja l1 / l1: / ret 1"},
		{"a label without L", "ja 1 / L1: / ret 1"},
		{"a label without L", "ja L1 / 1: / ret 1"},
		{"a label of two L", "ja LL1 / L1: / ret 1"},
		{"a label with a sign", "ja L+1 / L1: / ret 1"},
		{"a label with a sign", "ja L-1 / L1: / ret 1"},
		{"a label without :", "ja L1 / L1 / ret 1"},
		{"a label with two :", "ja L1 / L1:: / ret 1"},
		{"a label with : in a jump", "ja L1: / L1: / ret 1"},
		{"a label and an instruction on a line", "ja L1 / L1: ret 1"},
		{"a space ahead of :", "ja L1 / L1 : / ret 1"},
		{"a space ahead of a label", "ja L1 /  L1: / ret 1"},
		{"a space behind a label", "ja L1 / L1:  / ret 1"},
		{"a jump back", "tax / ja L0"},
		{"a jump to itself", "ja L0"},
		{"a jump to itself, with a label", "L0: / ja L0"},
		{"a jump back, with a label", "L0: / tax / ja L0"},
		{"a fork back", "L0: / tax / jeq 5 L0 L2 / L2: / ret 1"},
		{"a fork to itself", "tax / L1: / jeq 5 L1 L2 / L2: / ret 1"},
		{"a jump behind the last", "ja L2 / ret 1"},
		{"leading zeros", "ret 01"},
		{"leading zeros", "ret 00"},
		{"leading zeros", "ret 0000000000000000000000000000001"},
		{"2^32", "ret 4294967296"},
		{"2^32 + 1", "ret 4294967297"},
		{"a sum of 2^32 and more", "ret 42949672950"},
		{"2^64", "ret 18446744073709551616"},
		{"2^64 + 1", "ret 18446744073709551617"},
		{"many digits", "ret " + strings.Repeat("9", 1000)},
		{"a sign", "ret +1"},
		{"a sign", "ret -1"},
		{"a sign", "ret -0"},
		{"a sign alone", "ret -"},
		{"a base", "ret 0x1"},
		{"a base", "ret 0b1"},
		{"a letter as a digit", "ret f"},
		{"a fraction", "ret 1.0"},
		{"a fraction", "ret 1e0"},
		{"an underscore", "ret 1_0"},
		{"a space too many", "ret  1"},
		{"a space too many", " ret 1"},
		{"a space too many", "ret 1 "},
		{"a space too many", "tax "},
		{"a space too many", " tax"},
		{"a space too many", "ja  L1 / L1: / ret 1"},
		{"a space too many", "jeq 5  L1 L1 / L1: / ret 1"},
		{"a space too many", "jeq 5 L1  L1 / L1: / ret 1"},
		{"a space too many", "jeq 5 L1 L1  / L1: / ret 1"},
		{"a space too few", "ret1"},
		{"a space too few", "jeq 5 L1L1 / L1: / ret 1"},
		{"a tab", "ret\t1"},
		{"a comma", "jeq 5, L1, L1 / L1: / ret 1"},
		{"an operand too many", "ret 1 1"},
		{"an operand too many", "tax 0"},
		{"an operand too many", "neg 0"},
		{"an operand too many", "addx 0"},
		{"an operand too many", "reta 0"},
		{"an operand too many", "ja L1 L1 / L1: / ret 1"},
		{"an operand too many", "ja 0 L1 / L1: / ret 1"},
		{"an operand too many", "jeq 5 L1 L1 L1 / L1: / ret 1"},
		{"an operand too many", "jeqx 0 L1 L1 / L1: / ret 1"},
		{"an operand too few", "ret"},
		{"an operand too few", "ret "},
		{"an operand too few", "ja / ret 1"},
		{"an operand too few", "jeq / ret 1"},
		{"an operand too few", "jeq 5 / ret 1"},
		{"an operand too few", "jeq 5 L1 / L1: / ret 1"},
		{"an operand too few", "jeq L1 L1 / L1: / ret 1"},
		{"an operand too few", "jeqx / ret 1"},
		{"an operand too few", "jeqx L1 / L1: / ret 1"},
		{"a label for a number", "ret L1"},
		{"a label for a number", "ja L1 / L1: / ret L1"},
		{"numbers for labels", "jeq 5 0 0 / ret 1"},
		{"operands out of order", "jeq L1 L1 5 / L1: / ret 1"},
		{"a name that is none", "mod 3"},
		{"a name that is none", "nop"},
		{"a name in capitals", "RET 1"},
		{"a name in capitals", "Tax"},
		{"a part of a name", "re 1"},
		{"a part of a name", "ta"},
		{"a name and more", "retb"},
		{"a code", "06 1"},
		{"no name", "1"},
		{"an empty line", " / ret 1"},
		{"an empty line", "tax /  / ret 1"},
		{"a comment", "ret 1 # allow"},
		{"a comment", "# allow / ret 1"},
		{"a slash", "ret 1 /"},
	} {
		wantRead(t, c.what, slashed(c.s), nil, false)
	}
	// A fork of 256 and of 255.
	wantRead(t, "a fork that is too far", "jeq 5 L257 L1\nL1:\n"+strings.Repeat("tax\n", 256)+"L257:\nret 1\n", nil, false)
	wantRead(t, "a fork that is too far", "jeq 5 L1 L257\nL1:\n"+strings.Repeat("tax\n", 256)+"L257:\nret 1\n", nil, false)
	wantRead(t, "a fork that is far", "jeq 5 L1 L256\nL1:\n"+strings.Repeat("tax\n", 255)+"L256:\nret 1\n", slices.Concat([]api.Insn{fork(0, 255)}, slices.Repeat([]api.Insn{tax}, 255), []api.Insn{ret}), true)
	wantRead(t, "labels without end", strings.Repeat("L0:\n", 100000), nil, false)
	wantRead(t, "a line without end", "ret "+strings.Repeat(" ", 100000)+"\n", nil, false)
}

// TestBytes is of P7.2: a text's ends, and each byte in each place of it.
func TestBytes(t *testing.T) {
	for _, s := range []string{
		"\n", "\n\n", " ", " \n", "\r\n", "\x00", "\x00\n", "L", ":", ":\n", "tax", "tax\r\n", "tax\n\r", "tax\n\n", "\ntax\n", "tax\n ", "tax\n\x00", "tax\x00\n", "ret 1\x00\n", "tax\nt", "tax\ntax", "tax tax\n",
		"ret 1", "ret 1\r\n", "ret 1\r", "ret 1\n\n", "ret 1\nL1:", "ja L1\nL1:\nret 1", "ja L1\nL1:\r\nret 1\n", "ja L1\r\nL1:\nret 1\n", "\ufefftax\n", "tax\u2028", "tax\u0085", "t\u00e4x\n", "tax\xff\n", "\xfftax\n", "ret \u0661\n", "ret \uff11\n", "ret\u00a01\n", "tax\v\n", "tax\f\n", "tax\\n", "tax;\n", "tax\n;",
	} {
		wantRead(t, "no text", s, nil, false)
	}
	wantRead(t, "the empty string", "", nil, true)
	read := 0
	check := func(s string) {
		if wantString(t, "a byte in some place", s) {
			read++
		}
	}
	for _, base := range []string{"", "tax\n", "ret 10\n", "ja L1\nL1:\nneg\n", "jgt 9 L1 L2\nL1:\nst 1\nL2:\nreta\n", "jsetx L2 L1\nL1:\ntxa\nL2:\nret 0\n"} {
		for at := range len(base) + 1 {
			for b := range 256 {
				check(base[:at] + string([]byte{byte(b)}) + base[at:])
				if at < len(base) {
					check(base[:at] + string([]byte{byte(b)}) + base[at+1:])
				}
			}
			if at < len(base) {
				check(base[:at] + base[at+1:])
				check(base[:at])
				check(base[at:])
			}
		}
		if t.Failed() {
			return
		}
	}
	if read < 100 {
		t.Errorf("%d texts alone", read)
	}
}

// maker makes programs and strings. Its seed is fixed, so that each run of the tests sees the same ones.
type maker struct{ *rand.Rand }

func newMaker() maker { return maker{rand.New(rand.NewSource(7))} }

// any makes a number of any size.
func (m maker) any() uint32 {
	switch m.Intn(6) {
	case 0:
		return m.Uint32()
	case 1:
		return math.MaxUint32 - uint32(m.Intn(3))
	case 2:
		return uint32(m.Intn(300))
	}
	return uint32(m.Intn(12))
}

// right makes an instruction that can be written, if left further ones follow.
func (m maker) right(left int) api.Insn {
	for {
		e := table[m.Intn(len(table))]
		if m.Intn(3) == 0 {
			e = table[len(table)-1-m.Intn(9)]
		}
		if e.kind != far && !e.usesWays() {
			return e.instruction(m.any(), 0, 0)
		}
		if left == 0 {
			continue
		}
		near := min(left, 1+m.Intn(6))
		if m.Intn(5) == 0 {
			near = min(left, 256)
		}
		if e.kind == far {
			return e.instruction(uint32(m.Intn(near)), 0, 0)
		}
		return e.instruction(m.any(), uint8(m.Intn(near)), uint8(m.Intn(near)))
	}
}

// program makes a program of n instructions that can be written.
func (m maker) program(n int) []api.Insn {
	p := make([]api.Insn, n)
	for at := range p {
		p[at] = m.right(n - 1 - at)
	}
	return p
}

// harm changes a field of some instruction.
func (m maker) harm(p []api.Insn) {
	i := &p[m.Intn(len(p))]
	switch m.Intn(5) {
	case 0:
		i.Code = uint16(m.Intn(1 << 8))
	case 1:
		i.Code = uint16(m.Intn(1 << 16))
	case 2:
		i.JT = uint8(m.Intn(256))
	case 3:
		i.JF = uint8(m.Intn(4))
	case 4:
		i.K = m.any()
	}
}

// word makes a piece of a line.
func (m maker) word() string {
	switch m.Intn(6) {
	case 0:
		return table[m.Intn(len(table))].name
	case 1, 2:
		return "L" + strconv.Itoa(m.Intn(9))
	case 3:
		return []string{"", " ", "00", "-1", "+1", "L", ":", "L1:", "x", "4294967296", "\x00", "\xff"}[m.Intn(12)]
	}
	return strconv.Itoa(m.Intn(20))
}

// changed makes a string beside a text: lines and words of it are taken out, doubled, exchanged or made anew.
func (m maker) changed(s string) string {
	lines := strings.Split(s, "\n")
	a, b := m.Intn(len(lines)), m.Intn(len(lines))
	switch m.Intn(8) {
	case 0:
		lines = slices.Delete(lines, a, a+1)
	case 1:
		lines = slices.Insert(lines, a, lines[b])
	case 2:
		lines[a], lines[b] = lines[b], lines[a]
	case 3:
		lines = slices.Insert(lines, a, fmt.Sprintf("L%d:", m.Intn(len(lines))))
	case 4:
		lines[a] = m.word()
	default:
		words := strings.Split(lines[a], " ")
		at := m.Intn(len(words))
		switch m.Intn(4) {
		case 0:
			words = slices.Delete(words, at, at+1)
		case 1:
			words = slices.Insert(words, at, m.word())
		default:
			words[at] = m.word()
		}
		lines[a] = strings.Join(words, " ")
	}
	return strings.Join(lines, "\n")
}

// TestMadePrograms is of P7.1 and P7.4: programs that can be written are read from their texts, and those with a field that is changed are what the chapter says.
func TestMadePrograms(t *testing.T) {
	m := newMaker()
	can, not := 0, 0
	for n := range 20000 {
		p := m.program(m.Intn(16))
		if len(p) > 0 && n%2 == 1 {
			m.harm(p)
		}
		text, ok := textByChapter(p)
		wantText(t, "a program", p, text, ok)
		if n%2 == 0 && !ok {
			t.Errorf("%v can't be written", p)
		}
		if ok {
			can++
		} else {
			not++
		}
		if t.Failed() {
			return
		}
	}
	for n := range 20 {
		p := m.program(4096 - n)
		wantProgram(t, "a long program", p)
		m.harm(p)
		wantProgram(t, "a long program", p)
	}
	if can < 10000 || not < 2000 {
		t.Errorf("%d programs that can be written, %d others", can, not)
	}
}

// TestMadeLines is of P7.3: instructions of all kinds, at all indices.
func TestMadeLines(t *testing.T) {
	m := newMaker()
	count := 0
	for range 100000 {
		p := []api.Insn{m.right(1000)}
		if m.Intn(3) == 0 {
			m.harm(p)
		}
		at := m.Intn(5000) - 20
		if m.Intn(10) == 0 {
			at = int(m.Uint64())
		}
		line := lineByChapter(p[0], at)
		wantLine(t, p[0], at, line)
		if line != "" {
			count++
		}
	}
	if count < 10000 {
		t.Errorf("%d lines alone", count)
	}
}

// TestMadeStrings is of P7.2 and P7.4: strings beside texts against a reading of the chapter that writes none.
func TestMadeStrings(t *testing.T) {
	m := newMaker()
	texts, others := 0, 0
	for range 60000 {
		s, _ := textByChapter(m.program(1 + m.Intn(9)))
		for range 1 + m.Intn(2) {
			s = m.changed(s)
		}
		if wantString(t, "a changed text", s) {
			texts++
		} else {
			others++
		}
		if t.Failed() {
			return
		}
	}
	if texts < 1000 || others < 10000 {
		t.Errorf("%d texts, %d other strings", texts, others)
	}
	for range 20000 {
		var b strings.Builder
		for range m.Intn(12) {
			b.WriteString(m.word() + []string{" ", "\n", "\n", ":\n", ""}[m.Intn(5)])
		}
		wantString(t, "words", b.String())
	}
}

// TestStructure is of P7.5: a text's lines that are no labels are those of the instructions in their order, the others the labels of where jumps lead, each ahead of its instruction.
func TestStructure(t *testing.T) {
	m := newMaker()
	for n := range 2000 {
		p := m.program(m.Intn(40))
		if n < 3 {
			p = m.program(4096)
		}
		led := map[int]bool{}
		for at, i := range p {
			for _, k := range jumpsOf(i) {
				led[at+1+k] = true
			}
		}
		text, e := asm.Text(p)
		if e != api.OK || len(text) > 0 && text[len(text)-1] != '\n' {
			t.Fatalf("Text of %v: %q, %d", p, short(text), e)
		}
		at, labelled := 0, 0
		for _, line := range strings.Split(text, "\n")[:strings.Count(text, "\n")] {
			if line == fmt.Sprintf("L%d:", at) && led[at] {
				delete(led, at)
				labelled++
				continue
			}
			if at >= len(p) || led[at] || line != asm.Line(p[at], at) {
				t.Fatalf("line %d of %q: %q", at+labelled, short(text), line)
			}
			at++
		}
		if at != len(p) || len(led) != 0 {
			t.Fatalf("%q: %d lines of %d instructions, without labels of %v", short(text), at, len(p), led)
		}
	}
}

// TestPassedStays is of P0.4: what is passed stays as it is, behind its length too, and nothing is kept of it.
func TestPassedStays(t *testing.T) {
	m := newMaker()
	for n := range 3000 {
		all := m.program(1 + m.Intn(30))
		if n%3 == 0 {
			m.harm(all)
		}
		was := slices.Clone(all)
		p := all[:m.Intn(len(all)+1)]
		text, can := textByChapter(p)
		wantText(t, "a program", p, text, can)
		if !slices.Equal(all, was) {
			t.Fatalf("%v is changed: %v", was, all)
		}
		for i := range all {
			all[i] = api.Insn{Code: 0xffff, JT: 1, JF: 1, K: 1}
		}
		if can {
			wantRead(t, "the text of a program that is there no more", text, was[:len(p)], true)
		}
		wantProgram(t, "other instructions in the same memory", p)
		copy(all, was)
		wantText(t, "the same program once more", p, text, can)
		if t.Failed() {
			return
		}
	}
}

// TestReturnedIsNew is of P0.4: programs that are read share no memory, up to their capacity.
func TestReturnedIsNew(t *testing.T) {
	for _, n := range []int{0, 1, 2, 3, 5, 100, 4096} {
		s := strings.Repeat("ret 1\n", n)
		a, _ := asm.Parse(s)
		b, _ := asm.Parse(s)
		b = b[:cap(b)]
		was := slices.Clone(b)
		for i := range a[:cap(a)] {
			a[:cap(a)][i] = api.Insn{Code: 0xffff, K: 9}
		}
		if !slices.Equal(b, was) {
			t.Errorf("a program of %d that was read changes another one", n)
		}
		wantRead(t, "the same text once more", s, slices.Repeat([]api.Insn{ret}, n), true)
	}
}

// TestErrorsHaveNothing is of P0.2: beside an error there is no program and no text.
func TestErrorsHaveNothing(t *testing.T) {
	for _, s := range []string{"tax\nret 1", "tax\nret 1\nL2:\n", "tax\nnop\n", "ja L2\ntax\nret 1\n", strings.Repeat("tax\n", 4097)} {
		if p, e := asm.Parse(s); len(p) != 0 || e != api.ErrAsm {
			t.Errorf("Parse of %q: %v, %d", short(s), p[:min(len(p), 9)], e)
		}
	}
	for _, p := range [][]api.Insn{{tax, {Code: 0x94}}, {tax, op(insn.Ja, 0)}, {tax, op(insn.Tax, 1)}, slices.Repeat([]api.Insn{tax}, 4097)} {
		if s, e := asm.Text(p); s != "" || e != api.ErrAsm {
			t.Errorf("Text of %v: %q, %d", p[:min(len(p), 9)], short(s), e)
		}
	}
}
