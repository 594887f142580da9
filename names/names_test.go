package names_test

import (
	"fmt"
	"math"
	"math/bits"
	"math/rand"
	"slices"
	"strconv"
	"strings"
	"testing"

	"vestibule/api"
	"vestibule/names"
)

// chapter is the chapter's table, row by row: an errno and its number, a family and its number, a namespace and its flag.
const chapter = `
| EPERM | 1 | | AF_UNIX | 1 | | time | 0x80 |
| ENOENT | 2 | | AF_INET | 2 | | mnt | 0x20000 |
| EIO | 5 | | AF_INET6 | 10 | | cgroup | 0x2000000 |
| EBADF | 9 | | AF_NETLINK | 16 | | uts | 0x4000000 |
| EAGAIN | 11 | | AF_PACKET | 17 | | ipc | 0x8000000 |
| ENOMEM | 12 | | AF_BLUETOOTH | 31 | | user | 0x10000000 |
| EACCES | 13 | | AF_ALG | 38 | | pid | 0x20000000 |
| EFAULT | 14 | | AF_VSOCK | 40 | | net | 0x40000000 |
| EBUSY | 16 | | | | | | |
| ENODEV | 19 | | | | | | |
| EINVAL | 22 | | | | | | |
| ENOSYS | 38 | | | | | | |
| EOPNOTSUPP | 95 | | | | | | |
| EAFNOSUPPORT | 97 | | | | | | |
| ETIMEDOUT | 110 | | | | | | |
`

// table is what the chapter lists of one kind: the names in order, and the number of each.
type table struct {
	names   []string
	numbers map[string]uint64
	of      map[uint64]string
}

// column reads the column of names that begins at a cell, with the numbers in the cell after it.
func column(at int) table {
	c := table{numbers: map[string]uint64{}, of: map[uint64]string{}}
	for line := range strings.Lines(strings.TrimSpace(chapter)) {
		cells := strings.Split(strings.TrimSpace(line), "|")
		if len(cells) != 10 {
			panic(line)
		}
		name := strings.TrimSpace(cells[at])
		if name == "" {
			continue
		}
		n, err := strconv.ParseUint(strings.TrimSpace(cells[at+1]), 0, 64)
		if err != nil {
			panic(err)
		}
		c.names = append(c.names, name)
		c.numbers[name] = n
		c.of[n] = name
	}
	return c
}

// errnos, families and spaces are the chapter's three tables.
var errnos, families, spaces = column(1), column(4), column(7)

// allNames are the names of the three tables.
func allNames() []string {
	return slices.Concat(errnos.names, families.names, spaces.names)
}

// errnoByChapter is the errno that a string writes, by the chapter's words.
func errnoByChapter(s string) (uint32, api.Errno) {
	if n, ok := errnos.numbers[s]; ok {
		return uint32(n), api.OK
	}
	if len(s) < 1 || len(s) > 4 || strings.Trim(s, "0123456789") != "" {
		return 0, api.ErrErrno
	}
	n := 0
	for _, d := range s {
		n = 10*n + int(d) - 48
	}
	if n > 4095 {
		return 0, api.ErrErrno
	}
	return uint32(n), api.OK
}

// wantErrno holds what a string writes as an errno against a number and an error.
func wantErrno(t *testing.T, s string, want uint32, e api.Errno) {
	t.Helper()
	if got, gotE := names.Errno(s); got != want || gotE != e {
		t.Errorf("Errno of %q: %d, %d; want %d, %d", s, got, gotE, want, e)
	}
}

// wantFamily holds what a string names as a family against a number and an error.
func wantFamily(t *testing.T, s string, want uint32, e api.Errno) {
	t.Helper()
	if got, gotE := names.Family(s); got != want || gotE != e {
		t.Errorf("Family of %q: %d, %d; want %d, %d", s, got, gotE, want, e)
	}
}

// wantSpace holds what a string names as a namespace against a flag and an error.
func wantSpace(t *testing.T, s string, want uint64, e api.Errno) {
	t.Helper()
	if got, gotE := names.Space(s); got != want || gotE != e {
		t.Errorf("Space of %q: %#x, %d; want %#x, %d", s, got, gotE, want, e)
	}
}

// wantAsChapter holds what a string is to each of the three calls against the chapter's words.
func wantAsChapter(t *testing.T, s string) {
	t.Helper()
	n, e := errnoByChapter(s)
	wantErrno(t, s, n, e)
	f, e := families.numbers[s], api.OK
	if f == 0 {
		e = api.ErrFam
	}
	wantFamily(t, s, uint32(f), e)
	flag, e := spaces.numbers[s], api.OK
	if flag == 0 {
		e = api.ErrSpace
	}
	wantSpace(t, s, flag, e)
}

// wantNothing holds that a string is neither an errno, nor a family, nor a namespace.
func wantNothing(t *testing.T, s string) {
	t.Helper()
	wantErrno(t, s, 0, api.ErrErrno)
	wantFamily(t, s, 0, api.ErrFam)
	wantSpace(t, s, 0, api.ErrSpace)
}

// wantFlags holds the flags of a number against a list, and looks for any that is there twice, is not ascending, or is not by itself.
func wantFlags(t *testing.T, all uint64, want []uint64) {
	t.Helper()
	got := names.Flags(all)
	if !slices.Equal(got, want) {
		t.Errorf("Flags of %#x: %#x; want %#x", all, got, want)
	}
	for i, flag := range got {
		if bits.OnesCount64(flag) != 1 || flag&all == 0 || i > 0 && got[i-1] >= flag {
			t.Errorf("Flags of %#x: %#x", all, got)
		}
	}
}

// flags are the eight flags by hand, ascending.
func flags() []uint64 {
	return []uint64{0x80, 0x20000, 0x2000000, 0x4000000, 0x8000000, 0x10000000, 0x20000000, 0x40000000}
}

// set is the set of flags that the bits of a number from 0 to 255 choose: as one number, and each by itself.
func set(chosen int) (uint64, []uint64) {
	var all uint64
	var each []uint64
	for i, flag := range flags() {
		if chosen>>i&1 != 0 {
			all += flag
			each = append(each, flag)
		}
	}
	return all, each
}

// TestExamples is of P10.1 to P10.3: the chapter's examples.
func TestExamples(t *testing.T) {
	wantErrno(t, "EPERM", 1, api.OK)
	wantErrno(t, "4095", 4095, api.OK)
	wantErrno(t, "0", 0, api.OK)
	wantErrno(t, "4096", 0, api.ErrErrno)
	wantErrno(t, "00001", 0, api.ErrErrno)
	wantErrno(t, "eperm", 0, api.ErrErrno)
	wantFamily(t, "AF_INET6", 10, api.OK)
	wantFamily(t, "INET6", 0, api.ErrFam)
	wantSpace(t, "net", 0x40000000, api.OK)
	wantSpace(t, "Net", 0, api.ErrSpace)
	wantFlags(t, 0x20081, []uint64{0x80, 0x20000})
	for n, want := range map[uint32]string{38: "ENOSYS", 39: "39", 4096: ""} {
		if got := names.ErrnoName(n); got != want {
			t.Errorf("ErrnoName of %d: %q; want %q", n, got, want)
		}
	}
}

// TestErrnoByName is of P10.1: each errno by its name, by hand.
func TestErrnoByName(t *testing.T) {
	for name, want := range map[string]uint32{
		"EPERM": 1, "ENOENT": 2, "EIO": 5, "EBADF": 9, "EAGAIN": 11, "ENOMEM": 12, "EACCES": 13, "EFAULT": 14,
		"EBUSY": 16, "ENODEV": 19, "EINVAL": 22, "ENOSYS": 38, "EOPNOTSUPP": 95, "EAFNOSUPPORT": 97, "ETIMEDOUT": 110,
	} {
		wantErrno(t, name, want, api.OK)
		wantFamily(t, name, 0, api.ErrFam)
		wantSpace(t, name, 0, api.ErrSpace)
	}
}

// TestErrnoByDigits is of P10.1: all numbers up to 9999, with as many zeros ahead as there may be, and one or more too many.
func TestErrnoByDigits(t *testing.T) {
	for n := range uint32(10000) {
		for width := 1; width <= 8; width++ {
			s := fmt.Sprintf("%0*d", width, n)
			if len(s) <= 4 && n <= 4095 {
				wantErrno(t, s, n, api.OK)
			} else {
				wantErrno(t, s, 0, api.ErrErrno)
			}
		}
	}
}

// TestErrnoDigitsByHand is of P10.1: the edges of what digits may write.
func TestErrnoDigitsByHand(t *testing.T) {
	for s, want := range map[string]uint32{
		"0": 0, "00": 0, "000": 0, "0000": 0, "1": 1, "01": 1, "001": 1, "0001": 1, "9": 9, "10": 10, "010": 10, "0010": 10,
		"99": 99, "099": 99, "0099": 99, "100": 100, "999": 999, "0999": 999, "1000": 1000, "4094": 4094, "4095": 4095, "017": 17, "08": 8, "0777": 777,
	} {
		wantErrno(t, s, want, api.OK)
	}
	for _, s := range []string{
		"", "4096", "4097", "4100", "5000", "9999", "10000", "00001", "00000", "04095", "40950", "000000001", "65535", "65536", "65537", "131071",
		"4294967295", "4294967296", "4294967297", "18446744073709551615", "18446744073709551616", "18446744073709551617", strings.Repeat("0", 1<<16), strings.Repeat("1", 1<<16),
	} {
		wantNothing(t, s)
	}
}

// others are bytes and runes that are no decimal digits, among them digits of other scripts.
func others() []string {
	l := []string{"\u0660", "\u0661", "\u06f1", "\u0967", "\uff10", "\uff11", "\u00b2", "\u00b9", "\u2460", "\u2212", "\u00a0", "\u2003", "\ufeff", "\u200b", "e1", "0x", "0b", "0o"}
	for b := range 256 {
		if b < '0' || b > '9' {
			l = append(l, string([]byte{byte(b)}))
		}
	}
	return l
}

// TestErrnoNoDigits is of P10.1: a sign, a blank, a letter or any other byte ahead of digits, within them or behind them.
func TestErrnoNoDigits(t *testing.T) {
	for _, digits := range []string{"1", "5", "12", "38", "110", "4095", "0", "00"} {
		for _, other := range others() {
			for at := range len(digits) + 1 {
				wantNothing(t, digits[:at]+other+digits[at:])
			}
			wantNothing(t, other)
			wantNothing(t, other+other)
			wantNothing(t, other+digits+other)
		}
	}
	for _, s := range []string{"+1", "-1", "-0", "+0", "1_0", "1.0", "1e1", "0x1", "0x10", "0b1", "0o7", "1,0", "1 0", " 1", "1 ", "1\x00", "\x001", "a", "ff", "kill", "+", "-", "_", "1h", "Inf", "NaN", "nil"} {
		wantNothing(t, s)
	}
}

// TestFamily is of P10.1: each family by its name, by hand.
func TestFamily(t *testing.T) {
	for name, want := range map[string]uint32{
		"AF_UNIX": 1, "AF_INET": 2, "AF_INET6": 10, "AF_NETLINK": 16, "AF_PACKET": 17, "AF_BLUETOOTH": 31, "AF_ALG": 38, "AF_VSOCK": 40,
	} {
		wantFamily(t, name, want, api.OK)
		wantErrno(t, name, 0, api.ErrErrno)
		wantSpace(t, name, 0, api.ErrSpace)
	}
}

// TestSpace is of P10.1: each namespace by its name, by hand.
func TestSpace(t *testing.T) {
	for name, want := range map[string]uint64{
		"time": 0x80, "mnt": 0x20000, "cgroup": 0x2000000, "uts": 0x4000000, "ipc": 0x8000000, "user": 0x10000000, "pid": 0x20000000, "net": 0x40000000,
	} {
		wantSpace(t, name, want, api.OK)
		wantErrno(t, name, 0, api.ErrErrno)
		wantFamily(t, name, 0, api.ErrFam)
	}
}

// TestDigitsNameNothing is of P10.1: families and namespaces have no digits, their own numbers' among them.
func TestDigitsNameNothing(t *testing.T) {
	l := []string{"128", "0x80", "131072", "1073741824", "0x40000000", "40000000"}
	for n := range 4200 {
		l = append(l, strconv.Itoa(n), fmt.Sprintf("%04d", n))
	}
	for _, s := range l {
		wantFamily(t, s, 0, api.ErrFam)
		wantSpace(t, s, 0, api.ErrSpace)
	}
}

// TestNoNames is of P10.1 and P0.2: strings that are no names, the empty one among them, and names that the chapter does not list.
func TestNoNames(t *testing.T) {
	for _, s := range []string{
		"", " ", "\x00", "\xff", "~", "@", ":", "*", "none", "all", "yes", "no", "native", "read", "@basic-io", "kill",
		"ESRCH", "EWOULDBLOCK", "ENOTSUP", "EEXIST", "ERANGE", "OK", "E", "PERM", "EPERM EIO", "EPERM,EIO", "EPERM:EIO", "~EPERM", "ErrErrno",
		"AF_", "AF", "UNIX", "INET", "INET6", "AF_LOCAL", "AF_UNSPEC", "AF_INET5", "AF_INET16", "AF-UNIX", "AF_UNIX AF_INET", "~AF_UNIX", "PF_UNIX", "AFUNIX",
		"mount", "network", "CLONE_NEWNET", "netns", "net pid", "net,pid", "~net", "process", "namespace", "tim", "cgroup2",
		"\uff25PERM", "\u0395PERM", "n\u0435t", "t\u0131me", "\ufefftime", "EINTR", strings.Repeat("net", 1<<14), strings.Repeat("E", 1<<16),
	} {
		wantNothing(t, s)
	}
}

// swapped is a letter in the other case, or the byte itself if it is none.
func swapped(b byte) byte {
	if 'a' <= b && b <= 'z' || 'A' <= b && b <= 'Z' {
		return b ^ 0x20
	}
	return b
}

// TestOtherLetters is of P10.1: a name in other letters is no name, whichever of them differ.
func TestOtherLetters(t *testing.T) {
	for _, name := range allNames() {
		for from := range len(name) {
			for to := from + 1; to <= len(name); to++ {
				b := []byte(name)
				for at := from; at < to; at++ {
					b[at] = swapped(b[at])
				}
				if string(b) != name {
					wantNothing(t, string(b))
				}
			}
		}
	}
}

// TestBlanks is of P10.1: no blank, and nothing else, may stand ahead of a name or behind it.
func TestBlanks(t *testing.T) {
	for _, name := range allNames() {
		for _, blank := range []string{" ", "\t", "\n", "\r", "\v", "\f", "\x00", "\u00a0", "\u2003", "\ufeff", "~", "@", ":", "\"", "'", "-", "+", "="} {
			wantNothing(t, blank+name)
			wantNothing(t, name+blank)
			wantNothing(t, blank+name+blank)
		}
	}
}

// TestNearNames is of P10.1: each name with a byte more, less or another one, at each place; few of them are names.
func TestNearNames(t *testing.T) {
	all := allNames()
	met := map[string]bool{}
	want := func(s string) {
		if slices.Contains(all, s) {
			met[s] = true
		}
		wantAsChapter(t, s)
	}
	for _, name := range all {
		for at := range len(name) + 1 {
			want(name[:at])
			want(name[at:])
			if at < len(name) {
				want(name[:at] + name[at+1:])
			}
			for b := byte('0'); b <= 'z'; b++ {
				want(name[:at] + string([]byte{b}) + name[at:])
				if at < len(name) {
					want(name[:at] + string([]byte{b}) + name[at+1:])
				}
			}
		}
	}
	if len(met) != 31 {
		t.Errorf("%d names were met", len(met))
	}
}

// TestPairs is of P10.1: two names one behind the other are no name.
func TestPairs(t *testing.T) {
	for _, a := range allNames() {
		for _, b := range allNames() {
			for _, s := range []string{a + b, a + " " + b, a + "_" + b} {
				wantNothing(t, s)
			}
		}
	}
}

// TestMadeStrings is of P10.1: made strings of the names' own letters and of digits, against the chapter's words.
func TestMadeStrings(t *testing.T) {
	const letters = "0123456789 -+_EPRMAFINTX6ntmeipdus"
	r := rand.New(rand.NewSource(10))
	for range 20000 {
		b := make([]byte, r.Intn(6))
		for i := range b {
			b[i] = letters[r.Intn(len(letters))]
		}
		wantAsChapter(t, string(b))
	}
}

// TestSpaces is of P10.2: the eight flags as one number.
func TestSpaces(t *testing.T) {
	if got := names.Spaces(); got != 0x7e020080 {
		t.Errorf("Spaces: %#x", got)
	}
	var all uint64
	for _, flag := range spaces.numbers {
		all += flag
	}
	if got := names.Spaces(); got != all || bits.OnesCount64(got) != 8 {
		t.Errorf("Spaces: %#x; want %#x", got, all)
	}
}

// TestFlagsByHand is of P10.2: no flag, each flag, all of them, and bits that are none.
func TestFlagsByHand(t *testing.T) {
	wantFlags(t, 0, nil)
	for _, flag := range flags() {
		wantFlags(t, flag, []uint64{flag})
		wantFlags(t, ^flag, slices.DeleteFunc(flags(), func(f uint64) bool { return f == flag }))
	}
	wantFlags(t, 0x7e020080, flags())
	wantFlags(t, names.Spaces(), flags())
	wantFlags(t, ^uint64(0), flags())
	wantFlags(t, ^names.Spaces(), nil)
	wantFlags(t, 0x40000080, []uint64{0x80, 0x40000000})
	wantFlags(t, 0x60000000, []uint64{0x20000000, 0x40000000})
	wantFlags(t, 0x7e02008000000000, nil)
	wantFlags(t, 0x4000000000000000, nil)
	wantFlags(t, 0x100000000, nil)
}

// TestFlagsOfAllSets is of P10.2: every set of flags, by itself and with bits that are no flags beside it.
func TestFlagsOfAllSets(t *testing.T) {
	r := rand.New(rand.NewSource(10))
	for chosen := range 256 {
		all, each := set(chosen)
		wantFlags(t, all, each)
		wantFlags(t, all|^uint64(0x7e020080), each)
		for i := range 64 {
			if bit := uint64(1) << i; bit&0x7e020080 == 0 {
				wantFlags(t, all|bit, each)
			}
		}
		for range 100 {
			wantFlags(t, all|r.Uint64()&^0x7e020080, each)
		}
	}
}

// TestFlagsAreTheCallers is of P10.2 and P0.4: what is written into the list, up to its capacity, changes no later answer and no earlier one.
func TestFlagsAreTheCallers(t *testing.T) {
	for chosen := range 256 {
		all, each := set(chosen)
		first, second := names.Flags(all), names.Flags(all)
		_ = append(first, 1)
		first = first[:cap(first)]
		for i := range first {
			first[i] = 7777
		}
		// Ahead of any further call, which would write over what is shared.
		if !slices.Equal(second, each) {
			t.Errorf("two answers to Flags of %#x share memory: %#x", all, second)
		}
		wantFlags(t, all, each)
		names.Flags(math.MaxUint64)
		if !slices.Equal(second, each) {
			t.Errorf("a later call changes what Flags of %#x returned: %#x", all, second)
		}
	}
	if got := names.Spaces(); got != 0x7e020080 || names.SpaceName(7777) != "" || names.SpaceName(0x80) != "time" {
		t.Errorf("what is written into the list of flags changes the namespaces: %#x", got)
	}
	wantSpace(t, "time", 0x80, api.OK)
}

// TestErrnoName is of P10.3: every number up to 4095, by its name or else its digits.
func TestErrnoName(t *testing.T) {
	named := 0
	for n := range uint32(4096) {
		want, ok := errnos.of[uint64(n)]
		if ok {
			named++
		} else {
			want = fmt.Sprint(n)
		}
		if got := names.ErrnoName(n); got != want {
			t.Errorf("ErrnoName of %d: %q; want %q", n, got, want)
		}
	}
	if named != 15 {
		t.Errorf("%d errnos have names", named)
	}
}

// TestErrnoNameByHand is of P10.3: the edges.
func TestErrnoNameByHand(t *testing.T) {
	for n, want := range map[uint32]string{
		0: "0", 1: "EPERM", 2: "ENOENT", 3: "3", 4: "4", 5: "EIO", 6: "6", 9: "EBADF", 10: "10", 11: "EAGAIN", 12: "ENOMEM", 13: "EACCES", 14: "EFAULT", 15: "15",
		16: "EBUSY", 19: "ENODEV", 22: "EINVAL", 38: "ENOSYS", 39: "39", 95: "EOPNOTSUPP", 97: "EAFNOSUPPORT", 110: "ETIMEDOUT", 111: "111", 999: "999", 1000: "1000", 4094: "4094", 4095: "4095",
	} {
		if got := names.ErrnoName(n); got != want {
			t.Errorf("ErrnoName of %d: %q; want %q", n, got, want)
		}
	}
}

// TestErrnoNameOfNone is of P10.3: numbers above 4095 are no errnos, those that would be one if some of their bits were lost among them.
func TestErrnoNameOfNone(t *testing.T) {
	l := []uint32{4096, 4097, 5000, 8191, 9999, 65535, math.MaxInt32, math.MaxInt32 + 1, math.MaxUint32, math.MaxUint32 - 1}
	for i := 12; i < 32; i++ {
		for n := range uint32(4096) {
			l = append(l, 1<<i+n)
		}
	}
	for _, n := range l {
		if got := names.ErrnoName(n); got != "" {
			t.Errorf("ErrnoName of %d: %q", n, got)
		}
	}
}

// TestFamilyName is of P10.3: the numbers of the table, those beside them, and all others.
func TestFamilyName(t *testing.T) {
	for n, want := range map[uint32]string{
		0: "", 1: "AF_UNIX", 2: "AF_INET", 3: "", 9: "", 10: "AF_INET6", 11: "", 15: "", 16: "AF_NETLINK", 17: "AF_PACKET", 18: "",
		30: "", 31: "AF_BLUETOOTH", 32: "", 37: "", 38: "AF_ALG", 39: "", 40: "AF_VSOCK", 41: "", 4095: "", 4096: "", math.MaxUint32: "",
	} {
		if got := names.FamilyName(n); got != want {
			t.Errorf("FamilyName of %d: %q; want %q", n, got, want)
		}
	}
	found := 0
	for n := range uint32(1 << 16) {
		got := names.FamilyName(n)
		if got != families.of[uint64(n)] {
			t.Errorf("FamilyName of %d: %q", n, got)
		}
		if got != "" {
			found++
		}
	}
	if found != 8 {
		t.Errorf("%d families have names", found)
	}
	for n := range families.of {
		for i := 8; i < 32; i++ {
			if got := names.FamilyName(uint32(n) + 1<<i); got != "" {
				t.Errorf("FamilyName of %#x: %q", uint32(n)+1<<i, got)
			}
		}
		for _, other := range []uint32{-uint32(n), ^uint32(n)} {
			if got := names.FamilyName(other); got != "" {
				t.Errorf("FamilyName of %#x: %q", other, got)
			}
		}
	}
}

// wantSpaceName holds the name of a flag against the chapter's table.
func wantSpaceName(t *testing.T, flag uint64) {
	t.Helper()
	if got := names.SpaceName(flag); got != spaces.of[flag] {
		t.Errorf("SpaceName of %#x: %q; want %q", flag, got, spaces.of[flag])
	}
}

// TestSpaceName is of P10.3: each flag has a name; nothing, more flags than one, and other numbers have none.
func TestSpaceName(t *testing.T) {
	for flag, want := range map[uint64]string{
		0x80: "time", 0x20000: "mnt", 0x2000000: "cgroup", 0x4000000: "uts", 0x8000000: "ipc", 0x10000000: "user", 0x20000000: "pid", 0x40000000: "net",
		0: "", 0x7e020080: "", 0x20080: "", 0x60000000: "", 0x40: "", 0x100: "", 0x10000: "", 0x40000: "", 0x80000000: "", 0x100000000: "", math.MaxUint32: "", math.MaxUint64: "",
	} {
		if got := names.SpaceName(flag); got != want {
			t.Errorf("SpaceName of %#x: %q; want %q", flag, got, want)
		}
	}
	for i := range 64 {
		wantSpaceName(t, 1<<i)
		for j := range i {
			wantSpaceName(t, 1<<i|1<<j)
		}
	}
	for chosen := range 256 {
		all, _ := set(chosen)
		for _, n := range []uint64{all, ^all, all + 1, all - 1, all << 1, all >> 1, all << 32, all | all<<32, -all} {
			wantSpaceName(t, n)
		}
	}
	for n := range uint64(1 << 12) {
		wantSpaceName(t, n)
	}
}

// TestErrnoRoundTrip is of P10.4: each errno is that of its name, and each name is that of its number.
func TestErrnoRoundTrip(t *testing.T) {
	met := map[string]uint32{}
	for n := range uint32(4096) {
		s := names.ErrnoName(n)
		wantErrno(t, s, n, api.OK)
		if before, ok := met[s]; ok {
			t.Errorf("%q is the name of %d and of %d", s, before, n)
		}
		met[s] = n
	}
	for _, name := range errnos.names {
		n, _ := names.Errno(name)
		if got := names.ErrnoName(n); got != name {
			t.Errorf("ErrnoName of %d: %q; want %q", n, got, name)
		}
	}
}

// TestFamilyRoundTrip is of P10.4: each family is that of its name, and each name is that of its number.
func TestFamilyRoundTrip(t *testing.T) {
	found := 0
	for n := range uint32(4096) {
		if s := names.FamilyName(n); s != "" {
			wantFamily(t, s, n, api.OK)
			found++
		}
	}
	for _, name := range families.names {
		n, _ := names.Family(name)
		if got := names.FamilyName(n); got != name {
			t.Errorf("FamilyName of %d: %q; want %q", n, got, name)
		}
	}
	if found != 8 {
		t.Errorf("%d families", found)
	}
}

// TestSpaceRoundTrip is of P10.4: each namespace is that of its name, and each name is that of its flag.
func TestSpaceRoundTrip(t *testing.T) {
	l := names.Flags(math.MaxUint64)
	if len(l) != 8 {
		t.Errorf("%d flags", len(l))
	}
	for _, flag := range l {
		wantSpace(t, names.SpaceName(flag), flag, api.OK)
	}
	for _, name := range spaces.names {
		flag, _ := names.Space(name)
		if got := names.SpaceName(flag); got != name {
			t.Errorf("SpaceName of %#x: %q; want %q", flag, got, name)
		}
	}
}

// TestFlagsAreSingleBits is of P10.4: each flag is a bit, and no two are the same.
func TestFlagsAreSingleBits(t *testing.T) {
	var all uint64
	for _, name := range spaces.names {
		flag, e := names.Space(name)
		if e != api.OK || bits.OnesCount64(flag) != 1 || all&flag != 0 {
			t.Errorf("Space of %q: %#x, %d", name, flag, e)
		}
		all |= flag
	}
	if all != names.Spaces() {
		t.Errorf("the flags together: %#x; Spaces: %#x", all, names.Spaces())
	}
}

// TestPassedStays is of P0.4: what is passed stays as it is, around it too, and changes no later answer.
func TestPassedStays(t *testing.T) {
	passed := append(allNames(), "", "0", "4095", "4096", "00001", "eperm", "Net", "INET6", "nothing")
	for range 2 {
		for _, s := range passed {
			whole := " " + s + "1"
			before := strings.Clone(whole)
			piece := whole[1 : 1+len(s)]
			wantAsChapter(t, piece)
			wantAsChapter(t, s)
			if whole != before || piece != s {
				t.Errorf("%q is %q after it was passed", before, whole)
			}
		}
		for _, n := range []uint64{0, 1, 38, 39, 0x80, 4096, 0x7e020080, math.MaxUint64} {
			before := n
			names.Flags(n)
			names.SpaceName(n)
			names.ErrnoName(uint32(n))
			names.FamilyName(uint32(n))
			if n != before {
				t.Errorf("%#x is %#x after it was passed", before, n)
			}
		}
	}
	if got := names.Spaces(); got != 0x7e020080 {
		t.Errorf("Spaces after all of these: %#x", got)
	}
}
