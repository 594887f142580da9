package calls_test

import (
	"bytes"
	"math"
	"math/bits"
	"math/rand"
	"slices"
	"sort"
	"strconv"
	"strings"
	"testing"

	"vestibule/api"
	"vestibule/calls"
)

// chapter is the chapter's table, row by row: a name, then the numbers on x86-64, x86, x32 (without the bit), arm, arm64 and riscv64.
const chapter = `
| bind | 49 | 361 | 49 | 282 | 200 | 200 |
| bpf | 321 | 357 | 321 | 386 | 280 | 280 |
| brk | 12 | 45 | 12 | 45 | 214 | 214 |
| clock_settime | 227 | 264 | 227 | 262 | 112 | 112 |
| clone | 56 | 120 | 56 | 120 | 220 | 220 |
| clone3 | 435 | 435 | - | 435 | 435 | 435 |
| close | 3 | 6 | 3 | 6 | 57 | 57 |
| connect | 42 | 362 | 42 | 283 | 203 | 203 |
| delete_module | 176 | 129 | 176 | 129 | 106 | 106 |
| execve | 59 | 11 | 520 | 11 | 221 | 221 |
| exit | 60 | 1 | 60 | 1 | 93 | 93 |
| finit_module | 313 | 350 | 313 | 379 | 273 | 273 |
| fork | 57 | 2 | 57 | 2 | - | - |
| getuid | 102 | 24 | 102 | 24 | 174 | 174 |
| init_module | 175 | 128 | - | 128 | 105 | 105 |
| ioctl | 16 | 54 | 514 | 54 | 29 | 29 |
| kill | 62 | 37 | 62 | 37 | 129 | 129 |
| listen | 50 | 363 | 50 | 284 | 201 | 201 |
| mmap | 9 | 90 | 9 | - | 222 | 222 |
| mount | 165 | 21 | 165 | 21 | 40 | 40 |
| mprotect | 10 | 125 | 10 | 125 | 226 | 226 |
| munmap | 11 | 91 | 11 | 91 | 215 | 215 |
| open | 2 | 5 | 2 | 5 | - | - |
| openat | 257 | 295 | 257 | 322 | 56 | 56 |
| personality | 135 | 136 | 135 | 136 | 92 | 92 |
| pkey_mprotect | 329 | 380 | 329 | 394 | 288 | - |
| ptrace | 101 | 26 | 521 | 26 | 117 | 117 |
| read | 0 | 3 | 0 | 3 | 63 | 63 |
| reboot | 169 | 88 | 169 | 88 | 142 | 142 |
| sched_setattr | 314 | 351 | 314 | 380 | 274 | 274 |
| sched_setscheduler | 144 | 156 | 144 | 156 | 119 | 119 |
| seccomp | 317 | 354 | 317 | 383 | 277 | 277 |
| setns | 308 | 346 | 308 | 375 | 268 | 268 |
| settimeofday | 164 | 79 | 164 | 79 | 170 | 170 |
| setuid | 105 | 23 | 105 | 23 | 146 | 146 |
| shmat | 30 | 397 | - | 305 | 196 | 196 |
| socket | 41 | 359 | 41 | 281 | 198 | 198 |
| umount2 | 166 | 52 | 166 | 52 | 39 | 39 |
| unshare | 272 | 310 | 272 | 337 | 97 | 97 |
| write | 1 | 4 | 1 | 4 | 64 | 64 |
`

// place is where a call stands: an architecture and the number there.
type place struct {
	a  int
	nr uint32
}

// reading is what the chapter's table says.
type reading struct {
	names   []string
	numbers map[string]map[int]uint32
	at      map[place]string
}

// read reads the chapter's table.
func read(t *testing.T) reading {
	t.Helper()
	c := reading{numbers: map[string]map[int]uint32{}, at: map[place]string{}}
	for line := range strings.Lines(strings.TrimSpace(chapter)) {
		cells := strings.Split(strings.Trim(strings.TrimSpace(line), "|"), "|")
		if len(cells) != 7 {
			t.Fatalf("%q has %d cells", line, len(cells))
		}
		name := strings.TrimSpace(cells[0])
		c.names = append(c.names, name)
		c.numbers[name] = map[int]uint32{}
		for a, cell := range cells[1:] {
			cell = strings.TrimSpace(cell)
			if cell == "-" {
				continue
			}
			n, err := strconv.Atoi(cell)
			if err != nil {
				t.Fatal(err)
			}
			nr := uint32(n)
			if a == 2 {
				nr += 0x40000000
			}
			c.numbers[name][a] = nr
			c.at[place{a, nr}] = name
		}
	}
	return c
}

// nowhere are numbers that are no architecture, among them those that would be one if some of their bits were lost.
func nowhere() []int {
	l := []int{-1, 6, -2, -5, -6, -7, 7, 8, 100, math.MinInt, math.MinInt + 1, math.MinInt + 5, math.MaxInt, math.MaxInt - 1, math.MaxInt - 5}
	for i := 3; i < bits.UintSize; i++ {
		for a := range 6 {
			l = append(l, 1<<i+a, -(1<<i)+a)
		}
	}
	return l
}

// wantNumber holds the number of a name on an architecture, or that there is none, against the chapter's table.
func (c reading) wantNumber(t *testing.T, a int, name string) {
	t.Helper()
	var e api.Errno
	want, ok := c.numbers[name][a]
	if !ok {
		e = api.ErrCall
	}
	if got, gotE := calls.Number(a, name); got != want || gotE != e {
		t.Errorf("Number of %d, %q: %#x, %d; want %#x, %d", a, name, got, gotE, want, e)
	}
}

// wantName holds the name of a number on an architecture, or that there is none, against the chapter's table.
func (c reading) wantName(t *testing.T, a int, nr uint32) {
	t.Helper()
	if got, want := calls.Name(a, nr), c.at[place{a, nr}]; got != want {
		t.Errorf("Name of %d, %#x: %q; want %q", a, nr, got, want)
	}
}

// wantUnknown holds that a string is no call's name: not to Known, and not on any architecture.
func wantUnknown(t *testing.T, s string) {
	t.Helper()
	if calls.Known(s) {
		t.Errorf("%q is known", s)
	}
	for a := -1; a <= 6; a++ {
		if got, e := calls.Number(a, s); got != 0 || e != api.ErrCall {
			t.Errorf("Number of %d, %q: %#x, %d", a, s, got, e)
		}
	}
}

// TestExamples is of P9.1 and P9.2: the chapter's examples.
func TestExamples(t *testing.T) {
	for _, c := range []struct {
		a    int
		name string
		want uint32
		e    api.Errno
	}{
		{api.X8664, "read", 0, api.OK},
		{api.X32, "read", 0x40000000, api.OK},
		{api.X32, "shmat", 0, api.ErrCall},
		{api.Arm, "mmap", 0, api.ErrCall},
	} {
		if got, e := calls.Number(c.a, c.name); got != c.want || e != c.e {
			t.Errorf("Number of %d, %q: %#x, %d; want %#x, %d", c.a, c.name, got, e, c.want, c.e)
		}
	}
	for a, want := range map[int]string{api.RiscV64: "close", api.X8664: "fork", api.X32: ""} {
		if got := calls.Name(a, 57); got != want {
			t.Errorf("Name of %d, 57: %q; want %q", a, got, want)
		}
	}
	if !calls.Known("write") || calls.Known("Write") {
		t.Errorf("Known of write and Write: %t, %t", calls.Known("write"), calls.Known("Write"))
	}
}

// TestNames is of P9.1: all forty names, ascending, each once.
func TestNames(t *testing.T) {
	c := read(t)
	got := calls.Names()
	if !slices.Equal(got, c.names) || len(got) != 40 {
		t.Errorf("Names: %q; want %q", got, c.names)
	}
	for i := range len(got) - 1 {
		if got[i] >= got[i+1] {
			t.Errorf("%q stands ahead of %q", got[i], got[i+1])
		}
	}
}

// TestNamesAreTheCallers is of P9.1 and P0.4: what is written into the list, up to its capacity, changes no later answer and no earlier one.
func TestNamesAreTheCallers(t *testing.T) {
	c := read(t)
	first, second := calls.Names(), calls.Names()
	_ = append(first, "ahead")
	first = first[:cap(first)]
	for i := range first {
		first[i] = "written"
	}
	if third := calls.Names(); !slices.Equal(second, c.names) || !slices.Equal(third, c.names) {
		t.Errorf("Names returns memory that was returned before: %q, %q", second, third)
	}
	if calls.Known("written") || !calls.Known("bind") || calls.Name(api.X8664, 49) != "bind" {
		t.Error("what is written into the list of names changes the calls")
	}
}

// TestKnown is of P9.1: each name of the chapter's table is known.
func TestKnown(t *testing.T) {
	for _, name := range read(t).names {
		if !calls.Known(name) {
			t.Errorf("%q isn't known", name)
		}
	}
}

// others are strings that are no names of calls: those of other things, and calls that the chapter does not list.
func others() []string {
	return []string{
		"", " ", "\x00", "-", "~", "@", "*", "0", "1", "435", "-1", "0x40000000", "none", "all", "native", "x32", "EPERM", "@basic-io", "@clock", "net",
		"clone2", "umount", "sched", "mmap2", "openat2", "socketcall", "sched_getattr", "set", "get", "vfork", "execveat", "exit_group", "setns2", "reads", "sys_read", "__NR_read",
		"read write", "read,write", "read:EIO", "~read", "read\x00write", "\xff", "\xc3\x28", "\uff52ead", "re\u0430d", "\u017fetns", "\u212aill", "\u00a0read", "read\u200b", "\ufeffread",
		strings.Repeat("r", 1<<16), strings.Repeat("read", 1000),
	}
}

// TestOtherStrings is of P9.1, P9.2 and P0.2: strings that are no names of calls.
func TestOtherStrings(t *testing.T) {
	for _, s := range others() {
		wantUnknown(t, s)
	}
}

// TestOtherLetters is of P9.1: names are told apart by their letters, capitals among them.
func TestOtherLetters(t *testing.T) {
	for _, name := range read(t).names {
		wantUnknown(t, strings.ToUpper(name))
		for at := range len(name) {
			if other := strings.ToUpper(name[at : at+1]); other != name[at:at+1] {
				wantUnknown(t, name[:at]+other+name[at+1:])
			}
		}
		if other := strings.ReplaceAll(name, "_", "-"); other != name {
			wantUnknown(t, other)
		}
	}
}

// TestBlanks is of P9.1: no blank, and nothing else, may stand ahead of a name or behind it.
func TestBlanks(t *testing.T) {
	for _, name := range read(t).names {
		for _, blank := range []string{" ", "\t", "\n", "\r", "\v", "\f", "\x00", "\u00a0", "\u2003", "\ufeff", "~", "@", ":", "_", "\"", "'"} {
			wantUnknown(t, blank+name)
			wantUnknown(t, name+blank)
			wantUnknown(t, blank+name+blank)
		}
	}
}

// TestNearNames is of P9.1 and P9.2: each name with a byte more, less or another one, at each place; few of them are names.
func TestNearNames(t *testing.T) {
	c := read(t)
	known := map[string]bool{}
	want := func(s string) {
		if !slices.Contains(c.names, s) {
			wantUnknown(t, s)
			return
		}
		known[s] = true
		if !calls.Known(s) {
			t.Errorf("%q isn't known", s)
		}
	}
	for _, name := range c.names {
		for at := range len(name) + 1 {
			want(name[:at])
			want(name[at:])
			if at < len(name) {
				want(name[:at] + name[at+1:])
			}
			for b := byte('0'); b <= 'z'; b++ {
				want(name[:at] + string([]byte{b}) + name[at:])
				if at < len(name) {
					want(name[:at] + string([]byte{b}) + name[at+1:])
				}
			}
		}
	}
	if len(known) != 40 {
		t.Errorf("%d names were met", len(known))
	}
}

// TestPairs is of P9.1: two names one behind the other are no name.
func TestPairs(t *testing.T) {
	c := read(t)
	for _, a := range c.names {
		for _, b := range c.names {
			for _, s := range []string{a + b, a + " " + b, a + "_" + b} {
				if calls.Known(s) {
					t.Errorf("%q is known", s)
				}
			}
		}
	}
}

// TestNumber is of P9.2: each name on each architecture.
func TestNumber(t *testing.T) {
	c := read(t)
	for _, name := range c.names {
		for a := range 6 {
			c.wantNumber(t, a, name)
		}
	}
}

// TestNumberByHand is of P9.2: calls that exist on all architectures, and one of each column's own numbers.
func TestNumberByHand(t *testing.T) {
	for _, c := range []struct {
		name string
		want [6]uint32
	}{
		{"read", [6]uint32{0, 3, 0x40000000, 3, 63, 63}},
		{"write", [6]uint32{1, 4, 0x40000001, 4, 64, 64}},
		{"execve", [6]uint32{59, 11, 0x40000208, 11, 221, 221}},
		{"ioctl", [6]uint32{16, 54, 0x40000202, 54, 29, 29}},
		{"ptrace", [6]uint32{101, 26, 0x40000209, 26, 117, 117}},
		{"bind", [6]uint32{49, 361, 0x40000031, 282, 200, 200}},
		{"openat", [6]uint32{257, 295, 0x40000101, 322, 56, 56}},
		{"unshare", [6]uint32{272, 310, 0x40000110, 337, 97, 97}},
	} {
		for a, want := range c.want {
			if got, e := calls.Number(a, c.name); got != want || e != api.OK {
				t.Errorf("Number of %d, %q: %#x, %d; want %#x", a, c.name, got, e, want)
			}
		}
	}
}

// missing are the calls that do not exist on an architecture, by hand.
func missing() map[int][]string {
	return map[int][]string{
		api.X8664:   {},
		api.X86:     {},
		api.X32:     {"clone3", "init_module", "shmat"},
		api.Arm:     {"mmap"},
		api.Arm64:   {"fork", "open"},
		api.RiscV64: {"fork", "open", "pkey_mprotect"},
	}
}

// TestMissing is of P9.2 and P0.2: a known call has no number where it does not exist, and all others have one.
func TestMissing(t *testing.T) {
	for a, names := range missing() {
		for _, name := range calls.Names() {
			nr, e := calls.Number(a, name)
			if !slices.Contains(names, name) {
				if e != api.OK {
					t.Errorf("Number of %d, %q: %d", a, name, e)
				}
				continue
			}
			if nr != 0 || e != api.ErrCall {
				t.Errorf("Number of %d, %q: %#x, %d", a, name, nr, e)
			}
			if !calls.Known(name) {
				t.Errorf("%q isn't known", name)
			}
			if slices.ContainsFunc(calls.All(a), func(c api.Call) bool { return c.Name == name }) {
				t.Errorf("All of %d has %q", a, name)
			}
		}
	}
}

// TestBit is of P9.2: all numbers of x32 have the bit 0x40000000, which changes nothing else of them, and no others have it.
func TestBit(t *testing.T) {
	seen := 0
	for _, name := range calls.Names() {
		for a := range 6 {
			nr, e := calls.Number(a, name)
			if e != api.OK {
				continue
			}
			seen++
			if (nr&0x40000000 != 0) != (a == api.X32) || nr&^uint32(0x40000000) >= 1<<10 {
				t.Errorf("Number of %d, %q: %#x", a, name, nr)
			}
		}
	}
	if seen != 6*40-9 {
		t.Errorf("%d numbers", seen)
	}
}

// TestNowhere is of P9.2, P9.3 and P0.2: a number that is no architecture has no calls.
func TestNowhere(t *testing.T) {
	c := read(t)
	for _, a := range nowhere() {
		for _, name := range append(calls.Names(), "", "Read", "nothing") {
			if got, e := calls.Number(a, name); got != 0 || e != api.ErrCall {
				t.Errorf("Number of %d, %q: %#x, %d", a, name, got, e)
			}
		}
		for p := range c.at {
			if got := calls.Name(a, p.nr); got != "" {
				t.Errorf("Name of %d, %#x: %q", a, p.nr, got)
			}
		}
		for _, nr := range []uint32{0, 0x3fffffff, 0x40000000, 0xffffffff} {
			if got := calls.Name(a, nr); got != "" {
				t.Errorf("Name of %d, %#x: %q", a, nr, got)
			}
		}
		if got := calls.All(a); len(got) != 0 {
			t.Errorf("All of %d: %v", a, got)
		}
	}
}

// TestName is of P9.2: each number of the chapter's table on its architecture.
func TestName(t *testing.T) {
	for p, want := range read(t).at {
		if got := calls.Name(p.a, p.nr); got != want {
			t.Errorf("Name of %d, %#x: %q; want %q", p.a, p.nr, got, want)
		}
	}
}

// TestNameOfNoNumber is of P9.2: by hand, numbers that are those of no call on any architecture.
func TestNameOfNoNumber(t *testing.T) {
	for a := range 6 {
		for _, nr := range []uint32{0x3fffffff, 0xffffffff, 0xfffffffe, 0x7fffffff, 0x80000000, 0xbfffffff, 0xc0000000, 0xffff, 0x10000, 1000, 522} {
			if got := calls.Name(a, nr); got != "" {
				t.Errorf("Name of %d, %#x: %q", a, nr, got)
			}
		}
	}
	for a, want := range map[int]string{api.X8664: "read", api.X86: "", api.X32: "", api.Arm: "", api.Arm64: "", api.RiscV64: ""} {
		if got := calls.Name(a, 0); got != want {
			t.Errorf("Name of %d, 0: %q; want %q", a, got, want)
		}
	}
	for a, want := range map[int]string{api.X8664: "", api.X86: "", api.X32: "read", api.Arm: "", api.Arm64: "", api.RiscV64: ""} {
		if got := calls.Name(a, 0x40000000); got != want {
			t.Errorf("Name of %d, 0x40000000: %q; want %q", a, got, want)
		}
	}
}

// TestNameOfTheBit is of P9.2: numbers of x32 without the bit, and those of the others with it, are no calls'.
func TestNameOfTheBit(t *testing.T) {
	for p := range read(t).at {
		if got := calls.Name(p.a, p.nr^0x40000000); got != "" {
			t.Errorf("Name of %d, %#x: %q", p.a, p.nr^0x40000000, got)
		}
	}
}

// TestNameOfNearNumbers is of P9.2: the numbers of the table and those beside them, or with another bit, on all architectures.
func TestNameOfNearNumbers(t *testing.T) {
	c := read(t)
	for p := range c.at {
		for a := range 6 {
			c.wantName(t, a, p.nr)
			c.wantName(t, a, p.nr+1)
			c.wantName(t, a, p.nr-1)
			c.wantName(t, a, -p.nr)
			c.wantName(t, a, ^p.nr)
			for i := range 32 {
				c.wantName(t, a, p.nr^1<<i)
			}
		}
	}
}

// TestNameOfAllNumbers is of P9.2: all small numbers, below each of the upper bits, and others.
func TestNameOfAllNumbers(t *testing.T) {
	c := read(t)
	for a := range 6 {
		found := 0
		for nr := range uint32(1 << 12) {
			for _, top := range []uint32{0, 0x40000000, 0x80000000, 0xc0000000, 0x3ffff000, 0x7ffff000, 0xfffff000, 0x10000} {
				c.wantName(t, a, top+nr)
				if calls.Name(a, top+nr) != "" {
					found++
				}
			}
		}
		if want := 40 - len(missing()[a]); found != want {
			t.Errorf("%d calls on %d; want %d", found, a, want)
		}
	}
	r := rand.New(rand.NewSource(9))
	for range 100000 {
		c.wantName(t, r.Intn(6), r.Uint32())
	}
}

// TestAll is of P9.3: each call that exists on the architecture, just once, ascending by the numbers, which are the actions.
func TestAll(t *testing.T) {
	c := read(t)
	for a := range 6 {
		var want []api.Call
		for _, name := range c.names {
			if nr, ok := c.numbers[name][a]; ok {
				want = append(want, api.Call{Name: name, Action: nr})
			}
		}
		sort.Slice(want, func(i, j int) bool { return want[i].Action < want[j].Action })
		got := calls.All(a)
		if !slices.Equal(got, want) || len(got) != 40-len(missing()[a]) {
			t.Errorf("All of %d: %v; want %v", a, got, want)
		}
		for i := range len(got) - 1 {
			if got[i].Action >= got[i+1].Action {
				t.Errorf("All of %d: %v stands ahead of %v", a, got[i], got[i+1])
			}
		}
	}
}

// TestAllByHand is of P9.3: the first and the last calls of each architecture.
func TestAllByHand(t *testing.T) {
	for a, want := range map[int][4]api.Call{
		api.X8664:   {{Name: "read", Action: 0}, {Name: "write", Action: 1}, {Name: "pkey_mprotect", Action: 329}, {Name: "clone3", Action: 435}},
		api.X86:     {{Name: "exit", Action: 1}, {Name: "fork", Action: 2}, {Name: "shmat", Action: 397}, {Name: "clone3", Action: 435}},
		api.X32:     {{Name: "read", Action: 0x40000000}, {Name: "write", Action: 0x40000001}, {Name: "execve", Action: 0x40000208}, {Name: "ptrace", Action: 0x40000209}},
		api.Arm:     {{Name: "exit", Action: 1}, {Name: "fork", Action: 2}, {Name: "pkey_mprotect", Action: 394}, {Name: "clone3", Action: 435}},
		api.Arm64:   {{Name: "ioctl", Action: 29}, {Name: "umount2", Action: 39}, {Name: "pkey_mprotect", Action: 288}, {Name: "clone3", Action: 435}},
		api.RiscV64: {{Name: "ioctl", Action: 29}, {Name: "umount2", Action: 39}, {Name: "bpf", Action: 280}, {Name: "clone3", Action: 435}},
	} {
		got := calls.All(a)
		if len(got) < 4 {
			t.Errorf("All of %d: %v", a, got)
			continue
		}
		n := len(got)
		if ends := [4]api.Call{got[0], got[1], got[n-2], got[n-1]}; ends != want {
			t.Errorf("All of %d begins and ends with %v; want %v", a, ends, want)
		}
	}
}

// TestAllIsTheCallers is of P9.3 and P0.4: what is written into the list, up to its capacity, changes no later answer and no earlier one.
func TestAllIsTheCallers(t *testing.T) {
	for a := range 6 {
		before := slices.Clone(calls.All(a))
		first, second := calls.All(a), calls.All(a)
		_ = append(first, api.Call{Name: "ahead"})
		first = first[:cap(first)]
		for i := range first {
			first[i] = api.Call{Name: "written", Action: 7777}
		}
		if third := calls.All(a); !slices.Equal(second, before) || !slices.Equal(third, before) {
			t.Errorf("All of %d returns memory that was returned before: %v, %v", a, second, third)
		}
		if calls.Known("written") || calls.Name(a, 7777) != "" || calls.Name(a, before[0].Action) != before[0].Name {
			t.Errorf("what is written into the list of all of %d changes the calls", a)
		}
	}
}

// TestUniqueNumbers is of P9.4: no two calls of one number on an architecture, and Name of what Number returns is the call.
func TestUniqueNumbers(t *testing.T) {
	for a := range 6 {
		names := map[uint32]string{}
		for _, name := range calls.Names() {
			nr, e := calls.Number(a, name)
			if e != api.OK {
				continue
			}
			if before, ok := names[nr]; ok {
				t.Errorf("%q and %q have the number %#x on %d", before, name, nr, a)
			}
			names[nr] = name
			if got := calls.Name(a, nr); got != name {
				t.Errorf("Name of %d, %#x, the number of %q: %q", a, nr, name, got)
			}
		}
		all := calls.All(a)
		if len(all) != len(names) || len(names) < 37 {
			t.Errorf("All of %d has %d calls, and %d have a number", a, len(all), len(names))
		}
		for _, c := range all {
			if nr, e := calls.Number(a, c.Name); nr != c.Action || e != api.OK || names[nr] != c.Name {
				t.Errorf("All of %d has %v; Number of it: %#x, %d", a, c, nr, e)
			}
		}
	}
}

// TestPassedNames is of P0.4: a name that is passed is not changed, and what is passed first changes no later answer.
func TestPassedNames(t *testing.T) {
	c := read(t)
	for _, name := range append(slices.Clone(c.names), others()...) {
		b := []byte(name)
		passed := string(b)
		known := calls.Known(passed)
		for a := -1; a <= 6; a++ {
			c.wantNumber(t, a, passed)
		}
		if !bytes.Equal([]byte(passed), b) || calls.Known(passed) != known || known != slices.Contains(c.names, name) {
			t.Errorf("%q is %q after it was passed", name, passed)
		}
	}
	if got := calls.Names(); !slices.Equal(got, c.names) {
		t.Errorf("Names after all of these: %q", got)
	}
}
