package action_test

import (
	"fmt"
	"math"
	"math/rand"
	"slices"
	"strings"
	"testing"

	"vestibule/action"
	"vestibule/api"
)

// entry is a known action of the chapter.
type entry struct {
	name   string
	action uint32
}

// table is the chapter's known actions, in order of precedence.
func table() []entry {
	return []entry{
		{"kill", 0x80000000},
		{"killthread", 0x00000000},
		{"trap", 0x00030000},
		{"errno", 0x00050000},
		{"notify", 0x7fc00000},
		{"trace", 0x7ff00000},
		{"log", 0x7ffc0000},
		{"allow", 0x7fff0000},
	}
}

const allow = 0x7fff0000

// actions are the known actions, in order of precedence.
func actions() []uint32 {
	var l []uint32
	for _, e := range table() {
		l = append(l, e.action)
	}
	return l
}

// knownByChapter reports whether an action is one of the table.
func knownByChapter(top uint32) bool { return slices.Contains(actions(), top) }

// strangers are actions that are none of the table: by hand, each of the table with one of the upper 16 bits changed, and the actions beside it.
func strangers() []uint32 {
	all := []uint32{
		0x00010000, 0x00020000, 0x00040000, 0x00060000, 0x00070000, 0x3fff0000, 0x7fbf0000, 0x7fc10000, 0x7fef0000,
		0x7ff10000, 0x7ffb0000, 0x7ffd0000, 0x7ffe0000, 0x80010000, 0x80030000, 0x80050000, 0xc0000000, 0xffff0000,
	}
	for _, a := range actions() {
		for bit := 16; bit < 32; bit++ {
			all = append(all, a^1<<bit)
		}
		all = append(all, a+0x10000, a-0x10000)
	}
	slices.Sort(all)
	return slices.DeleteFunc(slices.Compact(all), knownByChapter)
}

// someData is data at and beside the bounds, and such as changes the number of digits.
func someData() []uint32 {
	return []uint32{0, 1, 2, 9, 10, 11, 13, 99, 100, 255, 256, 999, 1000, 4095, 4096, 9999, 10000, 32767, 32768, 65534, 65535}
}

// signed is an action as a signed number.
func signed(ret uint32) int64 {
	top := int64(ret / 0x10000)
	if top >= 0x8000 {
		top -= 0x10000
	}
	return top
}

// combinedByChapter is the combined answer: Allow, unless an action is less; the last answer with the least action.
func combinedByChapter(l []uint32) uint32 {
	lowest := signed(allow)
	for _, ret := range l {
		lowest = min(lowest, signed(ret))
	}
	if lowest == signed(allow) {
		return allow
	}
	var last uint32
	for _, ret := range l {
		if signed(ret) == lowest {
			last = ret
		}
	}
	return last
}

// textByChapter is the text of an answer.
func textByChapter(ret uint32) string {
	for _, e := range table() {
		if e.action != ret-ret%0x10000 {
			continue
		}
		if ret%0x10000 == 0 && e.name != "errno" {
			return e.name
		}
		return fmt.Sprintf("%s %d", e.name, ret%0x10000)
	}
	return ""
}

// texts are the answers of all texts that there are.
func texts() map[string]uint32 {
	all := map[string]uint32{}
	for _, a := range actions() {
		for data := range uint32(0x10000) {
			all[textByChapter(a+data)] = a + data
		}
	}
	return all
}

// roomy is a list that has room behind its length, with numbers in it that would count.
func roomy(l ...uint32) []uint32 {
	whole := append(slices.Clone(l), 0x80000007, 0x80000008, 0x80000009)
	return whole[:len(l)]
}

// wantCombined holds the combined answer of a list against what it should be, and the list, up to its capacity, against what was passed.
func wantCombined(t *testing.T, want uint32, l ...uint32) {
	t.Helper()
	for _, passed := range [][]uint32{slices.Clip(slices.Clone(l)), roomy(l...)} {
		before := slices.Clone(passed[:cap(passed)])
		if got := action.Combine(passed); got != want {
			t.Errorf("Combine of %#x: %#x; want %#x", l, got, want)
		}
		if after := passed[:cap(passed)]; !slices.Equal(after, before) {
			t.Errorf("Combine of %#x changes its list: %#x; it was %#x", l, after, before)
		}
	}
}

// wantParsed holds what is parsed from a string against the texts that there are; it reports whether it is one.
func wantParsed(t *testing.T, all map[string]uint32, s string) bool {
	t.Helper()
	want, is := all[s]
	e := api.OK
	if !is {
		e = api.ErrArg
	}
	if got, gotE := action.Parse(s); got != want || gotE != e {
		t.Errorf("Parse of %q: %#x, %d; want %#x, %d", s, got, gotE, want, e)
	}
	return is
}

// TestExamples is of P20.1 to P20.3: the chapter's examples.
func TestExamples(t *testing.T) {
	wantCombined(t, api.Fail|13, api.Allow, api.Fail|13, api.Log)
	wantCombined(t, api.Fail|1, api.Fail|13, api.Fail|1)
	wantCombined(t, api.Allow)
	wantCombined(t, api.KillProcess, api.KillThread, api.KillProcess)
	if !action.Less(api.KillProcess, api.KillThread) || action.Less(api.Fail|1, api.Fail|2) {
		t.Error("Less of the examples")
	}
	for ret, want := range map[uint32]string{api.Fail: "errno 0", api.Fail | 13: "errno 13", api.Allow: "allow", api.Trap | 7: "trap 7", 0x00040000: ""} {
		if got := action.Text(ret); got != want {
			t.Errorf("Text of %#x: %q; want %q", ret, got, want)
		}
	}
	if got, e := action.Parse("allow 0"); got != 0 || e != api.ErrArg {
		t.Errorf("Parse of allow 0: %#x, %d", got, e)
	}
}

// TestOnlyData is of P20.1: the upper and the lower 16 bits, whatever they are.
func TestOnlyData(t *testing.T) {
	want := func(top, data uint32) {
		if got := action.Only(top + data); got != top {
			t.Errorf("Only of %#x: %#x; want %#x", top+data, got, top)
		}
		if got := action.Data(top + data); got != data {
			t.Errorf("Data of %#x: %#x; want %#x", top+data, got, data)
		}
	}
	for _, top := range append(actions(), strangers()...) {
		for _, data := range someData() {
			want(top, data)
		}
	}
	for n := range uint32(0x10000) {
		want(0x00050000, n)
		want(n<<16, 0)
		want(n<<16, 0xffff)
		want(n<<16, n)
	}
}

// TestOnlyDataByHand is of P20.1: single numbers, among them 0 and the greatest one.
func TestOnlyDataByHand(t *testing.T) {
	for _, c := range []struct {
		ret, only, data uint32
		known           bool
	}{
		{0, 0, 0, true},
		{1, 0, 1, true},
		{0xffff, 0, 0xffff, true},
		{0x10000, 0x10000, 0, false},
		{0x80000000, 0x80000000, 0, true},
		{0x80000001, 0x80000000, 1, true},
		{0x8000ffff, 0x80000000, 0xffff, true},
		{0x7fffffff, 0x7fff0000, 0xffff, true},
		{0x7ffeffff, 0x7ffe0000, 0xffff, false},
		{0x00040000, 0x00040000, 0, false},
		{0x0004000d, 0x00040000, 13, false},
		{0x0005000d, 0x00050000, 13, true},
		{0xfffeffff, 0xfffe0000, 0xffff, false},
		{math.MaxUint32, 0xffff0000, 0xffff, false},
	} {
		if only, data, known := action.Only(c.ret), action.Data(c.ret), action.Known(c.ret); only != c.only || data != c.data || known != c.known {
			t.Errorf("Only, Data, Known of %#x: %#x, %#x, %t; want %#x, %#x, %t", c.ret, only, data, known, c.only, c.data, c.known)
		}
	}
}

// TestKnown is of P20.1: the eight actions with all data, and none of the others.
func TestKnown(t *testing.T) {
	for _, a := range actions() {
		for data := range uint32(0x10000) {
			if !action.Known(a + data) {
				t.Errorf("%#x is not known", a+data)
			}
		}
	}
	for _, top := range strangers() {
		for _, data := range someData() {
			if action.Known(top + data) {
				t.Errorf("%#x is known", top+data)
			}
		}
	}
	known := 0
	for n := range uint32(0x10000) {
		for _, data := range []uint32{0, 1, 0xffff} {
			if action.Known(n<<16 | data) {
				known++
			}
		}
	}
	if known != 3*8 {
		t.Errorf("of all actions with three data %d are known", known)
	}
}

// TestLessOfKnown is of P20.1: every two of the eight actions, by their places, whatever their data.
func TestLessOfKnown(t *testing.T) {
	for i, a := range actions() {
		for j, b := range actions() {
			for _, aData := range someData() {
				for _, bData := range someData() {
					if got := action.Less(a+aData, b+bData); got != (i < j) {
						t.Errorf("Less of %#x, %#x: %t", a+aData, b+bData, got)
					}
				}
			}
		}
	}
}

// TestLessByHand is of P20.1: actions that are not known, with and without the highest bit, and data that does not count.
func TestLessByHand(t *testing.T) {
	for _, c := range []struct {
		a, b uint32
		want bool
	}{
		{0x80000000, 0, true},
		{0, 0x80000000, false},
		{0x80000000, math.MaxUint32, true},
		{math.MaxUint32, 0x80000000, false},
		{math.MaxUint32, 0, true},
		{0, math.MaxUint32, false},
		{0xffff0000, 0x0000ffff, true},
		{0x0000ffff, 0xffff0000, false},
		{0xfffeffff, 0xffff0000, true},
		{0xffff0000, 0xfffeffff, false},
		{0x8000ffff, 0x80010000, true},
		{0x80010000, 0x8000ffff, false},
		{0x8000ffff, 0x80000000, false},
		{0x80000000, 0x8000ffff, false},
		{0x80010000, 0x7fff0000, true},
		{0x7fff0000, 0x80010000, false},
		{0x7fffffff, 0x80000000, false},
		{0x80000000, 0x7fffffff, true},
		{0x00040000, 0x00050000, true},
		{0x00040000, 0x00030000, false},
		{0x0003ffff, 0x00040000, true},
		{0x00040000, 0x0003ffff, false},
		{0x7ffe0000, 0x7fff0000, true},
		{0x7ffeffff, 0x7fff0000, true},
		{0x7ffe0000, 0x7ffcffff, false},
		{0x0000ffff, 0x00010000, true},
		{0x00010000, 0x0000ffff, false},
		{0x0000ffff, 0x00000000, false},
		{0x00000000, 0x0000ffff, false},
		{0xffffffff, 0xffff0000, false},
		{0xffff0000, 0xffffffff, false},
		{0x0004ffff, 0x00040000, false},
		{0x00040000, 0x0004ffff, false},
	} {
		if got := action.Less(c.a, c.b); got != c.want {
			t.Errorf("Less of %#x, %#x: %t", c.a, c.b, got)
		}
	}
}

// TestLess is of P20.1: known actions and others, and made numbers, against signed numbers.
func TestLess(t *testing.T) {
	want := func(a, b uint32) {
		if got := action.Less(a, b); got != (signed(a) < signed(b)) {
			t.Errorf("Less of %#x, %#x: %t", a, b, got)
		}
	}
	all := append(actions(), strangers()...)
	for _, a := range all {
		for _, b := range all {
			want(a, b)
			want(a+1, b)
			want(a, b+1)
			want(a+0xffff, b)
			want(a, b+0xffff)
		}
	}
	r := rand.New(rand.NewSource(20))
	for range 200000 {
		a := r.Uint32()
		want(a, r.Uint32())
		want(a, a^1<<r.Intn(32))
		want(a, a+0x10000)
	}
}

// TestCombineOfFew is of P20.2: no answers, and one of each kind.
func TestCombineOfFew(t *testing.T) {
	if got := action.Combine(nil); got != allow {
		t.Errorf("Combine of nil: %#x", got)
	}
	wantCombined(t, allow)
	for _, top := range append(actions(), strangers()...) {
		for _, data := range someData() {
			want := top + data
			if top == allow {
				want = allow
			}
			wantCombined(t, want, top+data)
		}
	}
}

// TestCombineOfTwo is of P20.2 and P20.5: every two of the eight actions in both orders, and of two with one action the later one.
func TestCombineOfTwo(t *testing.T) {
	for i, a := range actions() {
		for _, b := range actions()[i+1:] {
			wantCombined(t, a, a, b)
			wantCombined(t, a, b, a)
			wantCombined(t, a+7, a+7, b+9)
			wantCombined(t, a+7, b+9, a+7)
			wantCombined(t, a+0xffff, a+0xffff, b)
			wantCombined(t, a+0xffff, b, a+0xffff)
			wantCombined(t, a, a, b+0xffff)
			wantCombined(t, a, b+0xffff, a)
		}
		if a != allow {
			wantCombined(t, a+1, a+13, a+1)
			wantCombined(t, a+13, a+1, a+13)
			wantCombined(t, a, a+0xffff, a)
			wantCombined(t, a+0xffff, a, a+0xffff)
			wantCombined(t, a+5, a+5, a+5)
		}
	}
}

// TestCombineOfStrangers is of P20.2: actions that are not known count as numbers like the others.
func TestCombineOfStrangers(t *testing.T) {
	wantCombined(t, 0x00040000, 0x00040000, 0x00050001)
	wantCombined(t, 0x00040000, 0x00050001, 0x00040000)
	wantCombined(t, 0x00030007, 0x00040000, 0x00030007)
	wantCombined(t, 0x00030007, 0x00030007, 0x00040000)
	wantCombined(t, 0x7ffe0001, 0x7fff0000, 0x7ffe0001, 0x7fff0002)
	wantCombined(t, 0x7ffc0000, 0x7ffe0001, 0x7ffc0000)
	wantCombined(t, 0xffffffff, 0, 0xffffffff)
	wantCombined(t, 0xffffffff, 0xffffffff, 0)
	wantCombined(t, 0x80000000, 0xffffffff, 0x80000000, 0x80010000)
	wantCombined(t, 0x00040002, 0x00040001, 0x00040002)
	wantCombined(t, 0x00040001, 0x00040002, 0x00040001)
	all := append(actions(), strangers()...)
	for i, a := range all {
		for j, b := range all {
			l := []uint32{a + uint32(i), b + uint32(j)}
			wantCombined(t, combinedByChapter(l), l...)
		}
	}
}

// TestCombineOfAllow is of P20.2 and P20.4: Allow with data gives way to Allow without data, and to all that is less.
func TestCombineOfAllow(t *testing.T) {
	for _, data := range someData() {
		a := allow + data
		wantCombined(t, allow, a)
		wantCombined(t, allow, a, a)
		wantCombined(t, allow, a, allow)
		wantCombined(t, allow, allow, a)
		wantCombined(t, allow, a, allow+1, allow+2)
		wantCombined(t, allow, allow+0xffff, a, allow+1)
		wantCombined(t, 0x7ffc0003, a, 0x7ffc0003)
		wantCombined(t, 0x7ffc0003, 0x7ffc0003, a)
		wantCombined(t, 0x7ffc0003, a, 0x7ffc0003, a)
		wantCombined(t, 0x7ffe0000, a, 0x7ffe0000, a)
		wantCombined(t, 0, a, 0, a)
		wantCombined(t, 0x80000000, a, 0x80000000, a)
	}
}

// TestCombineOfMany is of P20.2: longer lists, by hand.
func TestCombineOfMany(t *testing.T) {
	wantCombined(t, 0x80000002, 0x7fff0000, 0x80000001, 0x00000005, 0x80000002, 0x7ffc0000)
	wantCombined(t, 0x00000004, 0x00000001, 0x00030001, 0x00000004, 0x00050001, 0x00030002)
	wantCombined(t, 0x00030002, 0x00050001, 0x00030001, 0x00050002, 0x00030002, 0x7fc00000)
	wantCombined(t, 0x7fc00000, 0x7ff00000, 0x7fc00001, 0x7fc00000, 0x7ff00001, 0x7fff0000)
	wantCombined(t, 0x7ff00009, 0x7ffc0000, 0x7ff00003, 0x7fff0000, 0x7ff00009, 0x7ffc0001, 0x7fff0001)
	wantCombined(t, 0x00050001, append(slices.Repeat([]uint32{0x00050002, 0x7fff0000}, 1000), 0x00050001, 0x7ffc0000)...)
	wantCombined(t, 0x00050002, append([]uint32{0x00050001}, slices.Repeat([]uint32{0x00050002, 0x7fff0000}, 1000)...)...)
	wantCombined(t, 0x80000003, append([]uint32{0x80000003}, slices.Repeat([]uint32{0x00050002, 0xffff0000}, 1000)...)...)
	wantCombined(t, allow, slices.Repeat([]uint32{allow + 1}, 1000)...)
}

// TestCombineOfShortLists is of P20.2 and P20.4: all lists of up to five of some answers.
func TestCombineOfShortLists(t *testing.T) {
	some := []uint32{0x80000000, 0x80000001, 0xffff0000, 0, 1, 0x00040000, 0x00050000, 0x0005000d, allow, allow + 1}
	var extend func(l []uint32)
	extend = func(l []uint32) {
		if got, want := action.Combine(l), combinedByChapter(l); got != want {
			t.Errorf("Combine of %#x: %#x; want %#x", l, got, want)
		}
		if len(l) == 5 {
			return
		}
		for _, ret := range some {
			extend(append(slices.Clone(l), ret))
		}
	}
	extend(nil)
}

// made makes answers: known actions, others, few data, so that some are alike.
func made(r *rand.Rand, count int) []uint32 {
	all := append(actions(), strangers()...)
	l := make([]uint32, count)
	for i := range l {
		switch r.Intn(4) {
		case 0:
			l[i] = r.Uint32()
		case 1:
			l[i] = all[r.Intn(len(all))] + uint32(r.Intn(3))
		default:
			l[i] = actions()[r.Intn(8)] + uint32(r.Intn(3))
		}
	}
	return l
}

// TestCombineMade is of P20.2 and P0.4: made lists against the chapter's words.
func TestCombineMade(t *testing.T) {
	r := rand.New(rand.NewSource(202))
	for range 30000 {
		l := made(r, r.Intn(9))
		wantCombined(t, combinedByChapter(l), l...)
	}
	for range 100 {
		l := made(r, r.Intn(3000))
		wantCombined(t, combinedByChapter(l), l...)
	}
}

// TestLeast is of P20.4: the combined answer is the least of all actions and Allow, and one of the answers, or Allow.
func TestLeast(t *testing.T) {
	r := rand.New(rand.NewSource(204))
	for range 30000 {
		l := made(r, r.Intn(9))
		got := action.Combine(l)
		for _, ret := range append(slices.Clone(l), allow) {
			if action.Less(ret, got) || signed(ret) < signed(got) {
				t.Errorf("Combine of %#x: %#x, though %#x is less", l, got, ret)
			}
		}
		if got != allow && !slices.Contains(l, got) {
			t.Errorf("Combine of %#x: %#x, which is none of them", l, got)
		}
	}
}

// TestOrderOfDistinct is of P20.5: all orders of answers with distinct actions have one combined answer.
func TestOrderOfDistinct(t *testing.T) {
	permuted := func(l []uint32) {
		want := combinedByChapter(l)
		var from func(i int)
		from = func(i int) {
			if i == len(l) {
				if got := action.Combine(l); got != want {
					t.Errorf("Combine of %#x: %#x; want %#x", l, got, want)
				}
				return
			}
			for j := i; j < len(l); j++ {
				l[i], l[j] = l[j], l[i]
				from(i + 1)
				l[i], l[j] = l[j], l[i]
			}
		}
		from(0)
	}
	for bits := range 1 << 8 {
		var l []uint32
		for i, a := range actions() {
			if bits>>i&1 == 1 {
				l = append(l, a+uint32(i*7))
			}
		}
		permuted(l)
	}
	all := strangers()
	r := rand.New(rand.NewSource(205))
	for range 300 {
		var l []uint32
		for _, i := range r.Perm(len(all))[:5] {
			l = append(l, all[i]+uint32(r.Intn(3)))
		}
		permuted(append(l, actions()[r.Intn(8)]))
	}
}

// TestOrderOfSame is of P20.5: of two with the same action the later one takes precedence, also with others around them.
func TestOrderOfSame(t *testing.T) {
	others := func(a uint32) []uint32 {
		var l []uint32
		for _, b := range append(actions(), strangers()...) {
			if signed(b) > signed(a) {
				l = append(l, b+3)
			}
		}
		return l
	}
	for _, a := range append(actions(), strangers()...) {
		if signed(a) >= signed(allow) {
			continue
		}
		behind := others(a)
		for _, data := range [][2]uint32{{1, 2}, {2, 1}, {0, 0xffff}, {0xffff, 0}} {
			first, second := a+data[0], a+data[1]
			wantCombined(t, second, first, second)
			wantCombined(t, second, slices.Concat(behind, []uint32{first, second}, behind)...)
			wantCombined(t, second, slices.Concat([]uint32{first}, behind, []uint32{second})...)
			wantCombined(t, second, slices.Concat([]uint32{first, first}, behind, []uint32{first, second}, behind)...)
		}
	}
}

// TestComposition is of P20.6: lists one behind the other have the combined answer of their combined answers.
func TestComposition(t *testing.T) {
	want := func(l []uint32) {
		t.Helper()
		whole := action.Combine(l)
		for at := range len(l) + 1 {
			if got := action.Combine([]uint32{action.Combine(l[:at]), action.Combine(l[at:])}); got != whole {
				t.Errorf("Combine of %#x: %#x; of its parts at %d: %#x", l, whole, at, got)
			}
		}
	}
	want(nil)
	want([]uint32{allow + 1})
	want([]uint32{allow + 1, allow + 2})
	want([]uint32{api.Fail | 13, api.Fail | 1})
	want([]uint32{api.Fail | 13, api.Allow, api.Fail | 1})
	want([]uint32{api.KillProcess, api.KillThread, api.KillProcess | 1})
	r := rand.New(rand.NewSource(206))
	for range 20000 {
		want(made(r, r.Intn(9)))
	}
}

// TestText is of P20.3: each of the eight actions with data around the bounds, by hand.
func TestText(t *testing.T) {
	for _, c := range []struct {
		name   string
		action uint32
	}{
		{"kill", api.KillProcess},
		{"killthread", api.KillThread},
		{"trap", api.Trap},
		{"notify", api.Notify},
		{"trace", api.Trace},
		{"log", api.Log},
		{"allow", api.Allow},
		{"errno", api.Fail},
	} {
		bare := c.name
		if c.action == api.Fail {
			bare = "errno 0"
		}
		for _, d := range []struct {
			data uint32
			want string
		}{{0, bare}, {1, c.name + " 1"}, {9, c.name + " 9"}, {10, c.name + " 10"}, {65535, c.name + " 65535"}} {
			ret := c.action | d.data
			if got := action.Text(ret); got != d.want {
				t.Errorf("Text of %#x: %q; want %q", ret, got, d.want)
			}
			if got, e := action.Parse(d.want); got != ret || e != api.OK {
				t.Errorf("Parse of %q: %#x, %d; want %#x", d.want, got, e, ret)
			}
		}
	}
}

// TestTextOfStrangers is of P20.3: numbers whose action is not known have no text.
func TestTextOfStrangers(t *testing.T) {
	for _, top := range strangers() {
		for _, data := range someData() {
			if got := action.Text(top + data); got != "" {
				t.Errorf("Text of %#x: %q", top+data, got)
			}
		}
	}
	for n := range uint32(0x10000) {
		for _, ret := range []uint32{n << 16, n<<16 | 13, n<<16 | n} {
			if got, want := action.Text(ret), textByChapter(ret); got != want {
				t.Errorf("Text of %#x: %q; want %q", ret, got, want)
			}
		}
	}
}

// TestRoundTrip is of P20.3: all answers with known actions have texts of their own, which are read back.
func TestRoundTrip(t *testing.T) {
	all := texts()
	if len(all) != 8<<16 {
		t.Fatalf("%d texts", len(all))
	}
	for text, ret := range all {
		if got := action.Text(ret); got != text {
			t.Errorf("Text of %#x: %q; want %q", ret, got, text)
		}
		if got, e := action.Parse(text); got != ret || e != api.OK {
			t.Errorf("Parse of %q: %#x, %d; want %#x", text, got, e, ret)
		}
	}
}

// TestParseOfNoText is of P20.3 and P0.2: ErrArg and nothing beside it for strings that are no text.
func TestParseOfNoText(t *testing.T) {
	all := texts()
	l := []string{
		"", " ", "  ", "\t", "\n", "\x00", "0", "1", "13", "65535", " 13", "13 errno", "EPERM", "errno EPERM", "errno:13", "errno=13", "errno,13", "errno-13", "errno13", "errno",
		"allow 0", "kill 0", "killthread 0", "trap 0", "notify 0", "trace 0", "log 0", "errno ", "errno  0", "errno 0 ", " errno 0",
		"errno 00", "errno 01", "errno 013", "errno 000000013", "errno +1", "errno -1", "errno -0", "errno +0", "errno 1_0", "errno 0x1", "errno 0b1", "errno 0o1", "errno 1e1", "errno 1.0", "errno 1,0", "errno a", "errno d",
		"errno 65536", "errno 65537", "errno 65549", "errno 99999", "errno 100000", "errno 131072", "errno 4294967295", "errno 4294967296", "errno 4294967309", "errno 18446744073709551615", "errno 18446744073709551616", "errno 18446744073709551629", "errno 340282366920938463463374607431768211469",
		"errno " + strings.Repeat("9", 1000), "errno " + strings.Repeat("0", 1000), "errno " + strings.Repeat("0", 1000) + "13", strings.Repeat("kill", 1000), strings.Repeat("kill ", 1000), "kill" + strings.Repeat(" ", 1<<16), strings.Repeat("x", 1<<20), "errno " + strings.Repeat("1", 1<<20),
		"KILL", "Kill", "kILL", "ALLOW", "Allow", "Errno 1", "ERRNO 1", "killprocess", "kill_process", "kill-process", "kill process", "kill thread", "killthread thread", "thread", "user_notif", "fail", "fail 1", "Fail 13", "deny", "none", "unknown",
		"errno \u0661", "errno \uff11", "\uff45rrno 1", "errno\u00a01", "errno\u20091", "errno\u20281", "\ufefferrno 1", "errno\t1", "errno\n1", "errno\v1", "errno\f1", "errno\r1", "errno\x001", "\xff", "\xc3\x28", "0x00050001", "327681", "0x7fff0000", "2147418112",
	}
	for _, name := range []string{"kill", "killthread", "trap", "errno", "notify", "trace", "log", "allow"} {
		l = append(l, strings.ToUpper(name), strings.ToUpper(name)+" 1", strings.ToUpper(name[:1])+name[1:], strings.ToUpper(name[:1])+name[1:]+" 1", name+name, name+" "+name, name+" 1 1", name+" 1 "+name, name+"s", "s"+name, name+"1", name+" x", "1 "+name)
		for _, blank := range []string{" ", "  ", "\t", "\n", "\r", "\v", "\f", "\x00", "\u00a0", "\u200b", "\ufeff", "~", "-", "_", ":", "\"", "'"} {
			l = append(l, blank+name, name+blank, blank+name+blank, blank+name+" 1", name+" 1"+blank, name+" "+blank+"1", name+blank+" 1", blank+name+" 1"+blank)
		}
		for _, digits := range []string{"00", "01", "007", "065535", "65536", "65537", "70000", "131071", "4294967296", "4294967297", "18446744073709551617", "-1", "+1", "-0", "-65535", "0x7", "1_0", "1 ", " 1", "1.", ".1", "1e3"} {
			l = append(l, name+" "+digits)
		}
	}
	for _, s := range l {
		if wantParsed(t, all, s) {
			t.Errorf("%q is a text", s)
		}
	}
}

// TestParseNearTexts is of P20.3: texts with a byte more, less or another one, at each place, and their beginnings and ends.
func TestParseNearTexts(t *testing.T) {
	all := texts()
	want := func(s string) { wantParsed(t, all, s) }
	for _, e := range table() {
		for _, text := range []string{e.name, e.name + " ", e.name + " 0", e.name + " 1", e.name + " 10", e.name + " 909", e.name + " 6553", e.name + " 65535", e.name + " 65536"} {
			for at := range len(text) + 1 {
				want(text[:at])
				want(text[at:])
				for c := range 256 {
					want(text[:at] + string([]byte{byte(c)}) + text[at:])
					if at < len(text) {
						want(text[:at] + string([]byte{byte(c)}) + text[at+1:])
					}
				}
				if at < len(text) {
					want(text[:at] + text[at+1:])
				}
			}
		}
	}
}

// TestParseShort is of P20.3: each name with all that is short of the bytes that count behind it.
func TestParseShort(t *testing.T) {
	all := texts()
	names := []string{"", " ", "kil", "killt", "errn", "Kill", "allow "}
	for _, e := range table() {
		names = append(names, e.name)
	}
	var extend func(s string, left int)
	extend = func(s string, left int) {
		wantParsed(t, all, s)
		if left == 0 {
			return
		}
		for _, c := range " 0169+-_\tk" {
			extend(s+string(c), left-1)
		}
	}
	for _, name := range names {
		extend(name, 4)
	}
	for _, name := range names {
		for n := range 200000 {
			wantParsed(t, all, fmt.Sprintf("%s %d", name, n))
		}
	}
}
