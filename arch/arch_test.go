package arch_test

import (
	"math"
	"math/bits"
	"math/rand"
	"slices"
	"strings"
	"testing"

	"vestibule/api"
	"vestibule/arch"
)

// entry is a row of the chapter's table.
type entry struct {
	a     int
	name  string
	token uint32
	of64  bool
}

// table is the chapter's table, in the order of the architectures' numbers.
var table = []entry{
	{api.X8664, "x86-64", 0xc000003e, true},
	{api.X86, "x86", 0x40000003, false},
	{api.X32, "x32", 0xc000003e, false},
	{api.Arm, "arm", 0x40000028, false},
	{api.Arm64, "arm64", 0xc00000b7, true},
	{api.RiscV64, "riscv64", 0xc00000f3, true},
}

// ofByChapter is the architecture of a token and a number, by the chapter's words.
func ofByChapter(token, nr uint32) (int, bool) {
	switch token {
	case 0xc000003e:
		if nr>>30%2 == 1 {
			return 2, true
		}
		return 0, true
	case 0x40000003:
		return 1, true
	case 0x40000028:
		return 3, true
	case 0xc00000b7:
		return 4, true
	case 0xc00000f3:
		return 5, true
	}
	return 0, false
}

// parsedByChapter is the architecture that a string names, by the chapter's words.
func parsedByChapter(s string) (int, bool) {
	if s == "native" {
		return 0, true
	}
	n := slices.IndexFunc(table, func(e entry) bool { return e.name == s })
	return max(n, 0), n >= 0
}

// nowhere are numbers that are no architecture, among them those that would be one if some of their bits were lost.
func nowhere() []int {
	l := []int{-1, 6, -2, -5, -6, -7, 7, 8, 100, math.MinInt, math.MinInt + 1, math.MinInt + 5, math.MaxInt, math.MaxInt - 1, math.MaxInt - 5}
	for i := 3; i < bits.UintSize; i++ {
		for a := range 6 {
			l = append(l, 1<<i+a, -(1<<i)+a)
		}
	}
	return l
}

// numbers are call numbers without and with the bit of x32, among them each bit alone and all but it.
func numbers() []uint32 {
	l := []uint32{0, 5, 0x3fffffff, 0x40000000, 0x40000005, 0xffffffff, 1, 0x3ffffffe, 0x40000001, 0x7fffffff, 0x80000000, 0x80000005, 0xbfffffff, 0xc0000000, 0xc000003e, 0xfffffffe}
	for i := range 32 {
		l = append(l, 1<<i, ^uint32(1<<i))
	}
	return l
}

// tokens are those of the table, those beside them, those that differ from one in one bit or two, and others.
func tokens() []uint32 {
	l := []uint32{0, 7, math.MaxUint32, math.MaxInt32, 1 << 31, 0xc0000000, 0x40000000, 0x3e, 0x03, 0x28, 0xb7, 0xf3, 0x3e0000c0, 0x8000003e}
	for _, e := range table {
		l = append(l, e.token, e.token+1, e.token-1, -e.token, ^e.token)
		for i := range 32 {
			l = append(l, e.token^1<<i)
			for j := range i {
				l = append(l, e.token^1<<i^1<<j)
			}
		}
	}
	return l
}

// wantParsed holds what is parsed from a string against the chapter's words; it tells whether it names an architecture.
func wantParsed(t *testing.T, s string) bool {
	t.Helper()
	want, ok := parsedByChapter(s)
	var e api.Errno
	if !ok {
		e = api.ErrArch
	}
	if got, gotE := arch.Parse(s); got != want || gotE != e {
		t.Errorf("Parse of %q: %d, %d; want %d, %d", s, got, gotE, want, e)
	}
	return ok
}

// wantOf holds the architecture of a token and a number against the chapter's words.
func wantOf(t *testing.T, token, nr uint32) {
	t.Helper()
	want, wantOK := ofByChapter(token, nr)
	if got, ok := arch.Of(token, nr); got != want || ok != wantOK {
		t.Errorf("Of %#x, %#x: %d, %t; want %d, %t", token, nr, got, ok, want, wantOK)
	}
}

// wantIn holds what is told of a list against what it should be, and the list against what was passed, up to its capacity.
func wantIn(t *testing.T, l []int, a int, want bool) {
	t.Helper()
	before := slices.Clone(l[:cap(l)])
	if got := arch.In(l, a); got != want {
		t.Errorf("In of %v and %d: %t", l, a, got)
	}
	if !slices.Equal(l[:cap(l)], before) {
		t.Errorf("In of %v and %d changes the list: %v", before, a, l[:cap(l)])
	}
}

// TestExamples is of P8.1 and P8.2: the chapter's examples.
func TestExamples(t *testing.T) {
	for a, want := range map[int]string{0: "x86-64", 5: "riscv64", 6: ""} {
		if got := arch.Name(a); got != want {
			t.Errorf("Name of %d: %q; want %q", a, got, want)
		}
	}
	for _, c := range []struct {
		s    string
		want int
		e    api.Errno
	}{{"x32", 2, api.OK}, {"native", 0, api.OK}, {"X86", 0, api.ErrArch}} {
		if got, e := arch.Parse(c.s); got != c.want || e != c.e {
			t.Errorf("Parse of %q: %d, %d; want %d, %d", c.s, got, e, c.want, c.e)
		}
	}
	for _, c := range []struct {
		token, nr uint32
		want      int
		ok        bool
	}{
		{0xc000003e, 5, api.X8664, true},
		{0xc000003e, 0x40000005, api.X32, true},
		{0x40000028, 0x40000005, api.Arm, true},
		{7, 5, 0, false},
	} {
		if got, ok := arch.Of(c.token, c.nr); got != c.want || ok != c.ok {
			t.Errorf("Of %#x, %#x: %d, %t; want %d, %t", c.token, c.nr, got, ok, c.want, c.ok)
		}
	}
}

// TestName is of P8.1: the names of the chapter's table, and none of a number that is no architecture.
func TestName(t *testing.T) {
	for _, e := range table {
		if got := arch.Name(e.a); got != e.name {
			t.Errorf("Name of %d: %q; want %q", e.a, got, e.name)
		}
	}
	for _, a := range nowhere() {
		if got := arch.Name(a); got != "" {
			t.Errorf("Name of %d: %q", a, got)
		}
	}
}

// TestParse is of P8.1: the names of the chapter's table, and the other name of one of them.
func TestParse(t *testing.T) {
	for _, e := range table {
		if got, err := arch.Parse(e.name); got != e.a || err != api.OK {
			t.Errorf("Parse of %q: %d, %d; want %d", e.name, got, err, e.a)
		}
	}
	if got, e := arch.Parse("native"); got != api.X8664 || e != api.OK {
		t.Errorf("Parse of native: %d, %d", got, e)
	}
}

// TestParseOfNoName is of P8.1 and P0.2: ErrArch and nothing beside it for all other strings, however near to a name.
func TestParseOfNoName(t *testing.T) {
	l := []string{
		"", " ", "\x00", "-", "x", "86", "64", "x86_64", "x8664", "x86 64", "x86-32", "x86\u201364", "amd64", "i386", "i686", "ia32", "aarch64", "armv7", "arm-64", "arm_64", "riscv", "riscv32", "risc-v64", "rv64", "ppc64", "mips", "s390x", "vax", "nat", "nativ", "natives", "local", "host",
		"0", "1", "2", "5", "6", "-1", "X8664", "0xc000003e", "3221225534", "none", "all", "~x86", "x86,x32", "x86 x32", "x86:x32", "\xff", "\xc3\x28", "\uff5886", "x\u0663\u0662", "ar\u217f", strings.Repeat("x", 1<<16), strings.Repeat("x86-64", 1000),
	}
	for _, name := range []string{"x86-64", "x86", "x32", "arm", "arm64", "riscv64", "native"} {
		l = append(l, strings.ToUpper(name), strings.ToUpper(name[:1])+name[1:], name[:len(name)-1]+strings.ToUpper(name[len(name)-1:])+"x")
		for _, blank := range []string{" ", "\t", "\n", "\r", "\v", "\f", "\x00", "\u00a0", "\u200b", "\ufeff", "~", "-", "_", "\"", "'"} {
			l = append(l, blank+name, name+blank, blank+name+blank)
		}
		for _, other := range table {
			l = append(l, name+other.name, name+" "+other.name, name+"-"+other.name)
		}
	}
	for _, s := range l {
		if wantParsed(t, s) {
			t.Errorf("%q names an architecture", s)
		}
	}
}

// TestParseNearNames is of P8.1: each name with a byte more, less or another one, at each place; few of them are names.
func TestParseNearNames(t *testing.T) {
	parsed := 0
	want := func(s string) {
		if wantParsed(t, s) {
			parsed++
		}
	}
	for _, name := range []string{"x86-64", "x86", "x32", "arm", "arm64", "riscv64", "native"} {
		for at := range len(name) + 1 {
			want(name[:at])
			want(name[at:])
			for c := range 256 {
				want(name[:at] + string([]byte{byte(c)}) + name[at:])
				if at < len(name) && byte(c) != name[at] {
					want(name[:at] + string([]byte{byte(c)}) + name[at+1:])
				}
			}
			if at < len(name) {
				want(name[:at] + name[at+1:])
			}
		}
	}
	// Each name is gone through whole twice, and two of them begin with another one: x86-64 and arm64.
	if parsed != 2*7+2 {
		t.Errorf("%d strings near a name are names", parsed)
	}
}

// TestToken is of P8.2: the tokens of the chapter's table, and none of a number that is no architecture.
func TestToken(t *testing.T) {
	for _, e := range table {
		if got, err := arch.Token(e.a); got != e.token || err != api.OK {
			t.Errorf("Token of %d: %#x, %d; want %#x", e.a, got, err, e.token)
		}
	}
	for _, a := range nowhere() {
		if got, e := arch.Token(a); got != 0 || e != api.ErrArch {
			t.Errorf("Token of %d: %#x, %d", a, got, e)
		}
	}
}

// TestOf is of P8.2: by hand, each token of the table with numbers around the bit of x32, which counts for one token alone.
func TestOf(t *testing.T) {
	for _, c := range []struct {
		token uint32
		// without and with are the architectures of numbers without and with the bit.
		without, with int
	}{
		{0xc000003e, api.X8664, api.X32},
		{0x40000003, api.X86, api.X86},
		{0x40000028, api.Arm, api.Arm},
		{0xc00000b7, api.Arm64, api.Arm64},
		{0xc00000f3, api.RiscV64, api.RiscV64},
	} {
		for _, nr := range []uint32{0, 5, 0x3fffffff, 0x80000000, 0xbfffffff} {
			if got, ok := arch.Of(c.token, nr); got != c.without || !ok {
				t.Errorf("Of %#x, %#x: %d, %t; want %d", c.token, nr, got, ok, c.without)
			}
		}
		for _, nr := range []uint32{0x40000000, 0x40000005, 0x7fffffff, 0xc0000000, 0xffffffff} {
			if got, ok := arch.Of(c.token, nr); got != c.with || !ok {
				t.Errorf("Of %#x, %#x: %d, %t; want %d", c.token, nr, got, ok, c.with)
			}
		}
	}
}

// TestOfNoToken is of P8.2 and P0.2: tokens in the table and not, however near, with all kinds of numbers.
func TestOfNoToken(t *testing.T) {
	for _, e := range table {
		for i := range 32 {
			for _, nr := range numbers() {
				if got, ok := arch.Of(e.token^1<<i, nr); got != 0 || ok {
					t.Errorf("Of %#x, which is beside %#x, and %#x: %d, %t", e.token^1<<i, e.token, nr, got, ok)
				}
			}
		}
	}
	for _, token := range tokens() {
		for _, nr := range numbers() {
			wantOf(t, token, nr)
		}
	}
	for _, top := range []uint32{0, 0x4000, 0x8000, 0xc000, 0xffff} {
		for low := range uint32(1 << 16) {
			wantOf(t, top<<16|low, 5)
			wantOf(t, top<<16|low, 0x40000005)
		}
	}
	r := rand.New(rand.NewSource(8))
	for range 100000 {
		wantOf(t, r.Uint32(), r.Uint32())
		wantOf(t, table[r.Intn(len(table))].token, r.Uint32())
	}
}

// TestAll is of P8.3 and P0.4: all architectures, ascending, each once, in a list of the caller's own.
func TestAll(t *testing.T) {
	want := []int{api.X8664, api.X86, api.X32, api.Arm, api.Arm64, api.RiscV64}
	first, second := arch.All(), arch.All()
	if !slices.Equal(first, want) || len(first) != api.Arches {
		t.Errorf("All: %v; want %v", first, want)
	}
	first = append(first, 77)
	first = first[:cap(first)]
	for i := range first {
		first[i] = -9
	}
	again := arch.All()
	again = again[:cap(again)]
	for i := range again {
		again[i] = 99
	}
	if !slices.Equal(second, want) || !slices.Equal(arch.All(), want) {
		t.Errorf("All returns memory that was returned before: %v, %v", second, arch.All())
	}
	for _, e := range table {
		if got, ok := arch.Of(e.token, 0); arch.Name(e.a) != e.name || !ok || got == api.X32 {
			t.Errorf("what is written into the list of all changes %s", e.name)
		}
	}
}

// TestInNoList is of P8.3: every number is in a list without elements, whatever stands behind its length.
func TestInNoList(t *testing.T) {
	all := append(nowhere(), 0, 1, 2, 3, 4, 5)
	for _, l := range [][]int{nil, {}, make([]int, 0, 6), []int{1, 2, 3}[:0], []int{3, 4, 5}[3:]} {
		for _, a := range all {
			wantIn(t, l, a, true)
		}
	}
}

// TestIn is of P8.3: lists with the number first, last, between, twice and alone, and lists without it.
func TestIn(t *testing.T) {
	for a := range 6 {
		b, c := (a+1)%6, (a+3)%6
		for _, l := range [][]int{{a}, {a, b}, {b, a}, {a, b, c}, {b, a, c}, {b, c, a}, {c, b, a}, {a, a}, {a, b, a}, {b, a, a}, {0, 1, 2, 3, 4, 5}, {5, 4, 3, 2, 1, 0}, {-1, a}, {a, 6}, {math.MinInt, a, math.MaxInt}} {
			wantIn(t, l, a, true)
		}
		for _, l := range [][]int{{b}, {b, c}, {c, b}, {b, b}, {-1}, {6}, {-a - 1}, {a + 6}, {a - 6}, {^a}, {a + 1<<8}, {a + 1<<16}, {math.MinInt + a}, []int{b, a}[:1], []int{b, c, a}[:2], []int{a, b}[1:], slices.Repeat([]int{b, c}, 1000)} {
			wantIn(t, l, a, false)
		}
		wantIn(t, append(slices.Repeat([]int{b, c}, 1000), a), a, true)
	}
}

// TestInOfAnyNumber is of P8.3: a number that is no architecture is an element like others.
func TestInOfAnyNumber(t *testing.T) {
	l := nowhere()
	for _, a := range l {
		wantIn(t, []int{a}, a, true)
		wantIn(t, []int{0, a, 5}, a, true)
		wantIn(t, l, a, true)
		wantIn(t, []int{0, 1, 2, 3, 4, 5}, a, false)
		wantIn(t, []int{a - 1, a + 1, -a}, a, a == -a)
		wantIn(t, arch.All(), a, false)
	}
	for a := range 6 {
		wantIn(t, l, a, false)
	}
}

// TestInMadeLists is of P8.3: made lists, in no order, against a search through them.
func TestInMadeLists(t *testing.T) {
	r := rand.New(rand.NewSource(83))
	for range 20000 {
		l := make([]int, r.Intn(8), 10)
		for i := range l[:cap(l)] {
			l[:cap(l)][i] = r.Intn(12) - 3
		}
		a := r.Intn(12) - 3
		found := len(l) == 0
		for _, x := range l {
			found = found || x == a
		}
		wantIn(t, l, a, found)
	}
}

// TestOf64 is of P8.3: three architectures, those whose tokens have the most significant bit, except x32.
func TestOf64(t *testing.T) {
	for _, e := range table {
		if got := arch.Of64(e.a); got != e.of64 {
			t.Errorf("Of64 of %s: %t", e.name, got)
		}
		if token, _ := arch.Token(e.a); e.of64 != (token >= 1<<31 && e.a != api.X32) {
			t.Errorf("%s has the token %#x", e.name, token)
		}
	}
	for _, a := range nowhere() {
		if arch.Of64(a) {
			t.Errorf("Of64 of %d, which is no architecture", a)
		}
	}
}

// TestRoundTrip is of P8.4: names of their own that parse, and tokens whose architecture they are.
func TestRoundTrip(t *testing.T) {
	names := map[string]int{}
	for _, a := range arch.All() {
		name := arch.Name(a)
		if before, ok := names[name]; ok || name == "" || name == "native" {
			t.Errorf("%d and %d are named %q", a, before, name)
		}
		names[name] = a
		if got, e := arch.Parse(name); got != a || e != api.OK {
			t.Errorf("Parse of Name of %d: %d, %d", a, got, e)
		}
		token, e := arch.Token(a)
		if e != api.OK {
			t.Errorf("Token of %d: %d", a, e)
		}
		for _, nr := range numbers() {
			got, ok := arch.Of(token, nr)
			belongs := (a != api.X8664 || nr&api.X32Bit == 0) && (a != api.X32 || nr&api.X32Bit != 0)
			if !ok || belongs != (got == a) {
				t.Errorf("Of %#x, the token of %d, and %#x: %d, %t", token, a, nr, got, ok)
			}
		}
	}
	if len(names) != 6 {
		t.Errorf("%d names", len(names))
	}
}
