package fold_test

import (
	"fmt"
	"math"
	"math/rand"
	"slices"
	"strings"
	"testing"

	"vestibule/api"
	"vestibule/calls"
	"vestibule/fold"
	"vestibule/groups"
	"vestibule/values"
)

// book is a list as the chapter speaks of it: a mode, and the calls that are in the list with their actions.
type book struct {
	mode uint8
	in   map[string]uint32
}

// bookOf is the book of a valid list, list the list of a book.
func bookOf(l api.List) book {
	b := book{l.Mode, map[string]uint32{}}
	for _, c := range l.Calls {
		b.in[c.Name] = c.Action
	}
	return b
}

func (b book) list() api.List {
	l := api.List{Mode: b.mode}
	for _, name := range calls.Names() {
		if action, ok := b.in[name]; ok {
			l.Calls = append(l.Calls, api.Call{Name: name, Action: action})
		}
	}
	return l
}

// callsByChapter are the calls of an entry's name, or the error to be noted.
func callsByChapter(name string) ([]string, api.Errno) {
	switch {
	case name[0] == '@':
		return groups.Expand(name)
	case slices.Contains(calls.Names(), name):
		return []string{name}, 0
	}
	return nil, 90
}

// noteByChapter is the note of an error in a word.
func noteByChapter(e api.Errno, word string) api.Note {
	if len(word) > 60 {
		word = word[:60]
	}
	return api.Note{Err: e, Text: word}
}

// row does what the chapter's table says in the row of a mode, a kind of value and a suffix.
func (b book) row(name string, turned, suffixed bool, action uint32) {
	switch {
	case b.mode == 1 && !turned:
		b.in[name] = 0
	case b.mode == 1 && turned && !suffixed:
		delete(b.in, name)
	case b.mode == 1 && turned && suffixed:
		b.in[name] = action
	case b.mode == 2 && turned && suffixed:
		b.in[name] = action
	case b.mode == 2 && turned && !suffixed:
		b.in[name] = 0
	case b.mode == 2 && !turned:
		delete(b.in, name)
	}
}

// apply applies a value to the list.
func (b book) apply(value string, suffixes bool) (book, []api.Note) {
	var notes []api.Note
	if len(values.Words(value)) == 0 {
		return book{0, map[string]uint32{}}, nil
	}
	turned := strings.HasPrefix(value, "~")
	if b.mode == 0 && turned {
		b.mode = 2
	} else if b.mode == 0 {
		b.mode = 1
	}
	for _, word := range values.Words(strings.TrimPrefix(value, "~")) {
		entry, e := values.Read(word)
		if e != 0 {
			notes = append(notes, noteByChapter(e, word))
			continue
		}
		all, e := callsByChapter(entry.Name)
		if e != 0 {
			notes = append(notes, noteByChapter(e, word))
			continue
		}
		suffixed := entry.Has
		if suffixed && (!suffixes || !turned) {
			notes = append(notes, noteByChapter(161, word))
			suffixed = false
		}
		for _, name := range all {
			b.row(name, turned, suffixed, entry.Action)
		}
	}
	return b, notes
}

// stepByChapter is what Step should return for a valid list.
func stepByChapter(l api.List, value string, suffixes bool) (api.List, []api.Note) {
	b, notes := bookOf(l).apply(value, suffixes)
	return b.list(), notes
}

// foldByChapter is what Fold should return.
func foldByChapter(l []string, suffixes bool) (api.List, []api.Note) {
	b := bookOf(api.List{})
	var all []api.Note
	for _, value := range l {
		next, notes := b.apply(value, suffixes)
		b, all = next, append(all, notes...)
	}
	return b.list(), all
}

// mayByChapter is what May should return.
func mayByChapter(l api.List) bool {
	if l.Mode > 2 || l.Mode == 0 && len(l.Calls) > 0 {
		return false
	}
	known := calls.Names()
	for i, c := range l.Calls {
		if !slices.Contains(known, c.Name) {
			return false
		}
		if i > 0 && !(l.Calls[i-1].Name < c.Name) {
			return false
		}
		if c.Action != 0 && c.Action != 0x80000000 && (c.Action>>16 != 5 || c.Action&0xffff > 4095) {
			return false
		}
	}
	return true
}

// plain is a call with the list's own action, failing one that fails, killing one that kills, with another action.
func plain(name string) api.Call { return api.Call{Name: name} }
func failing(name string, errno uint32) api.Call {
	return api.Call{Name: name, Action: 0x50000 + errno}
}
func killing(name string) api.Call               { return api.Call{Name: name, Action: 0x80000000} }
func acting(name string, action uint32) api.Call { return api.Call{Name: name, Action: action} }
func listOf(mode uint8, l ...api.Call) api.List  { return api.List{Mode: mode, Calls: l} }
func none() api.List                             { return api.List{} }
func allow(l ...api.Call) api.List               { return listOf(api.AllowList, l...) }
func deny(l ...api.Call) api.List                { return listOf(api.DenyList, l...) }
func same(a, b api.List) bool                    { return a.Mode == b.Mode && slices.Equal(a.Calls, b.Calls) }
func noted(e api.Errno, text string) api.Note    { return api.Note{Err: e, Text: text} }
func plains(names ...string) (l []api.Call)      { return actings(0, names...) }
func actings(a uint32, names ...string) (l []api.Call) {
	for _, n := range names {
		l = append(l, acting(n, a))
	}
	return l
}

// short is a thing for a message.
func short(x any) string {
	s := fmt.Sprintf("%+q", x)
	if l, ok := x.(api.List); ok {
		s = fmt.Sprint(l)
	}
	if len(s) > 400 {
		return s[:400] + ".."
	}
	return s
}

// The helpers below end a test at its first difference: those that go through many values would tell thousands.

// wantMay holds whether a list is valid.
func wantMay(t *testing.T, l api.List, want bool) {
	t.Helper()
	if got := fold.May(l); got != want {
		t.Fatalf("May of %s: %t; want %t", short(l), got, want)
	}
	if by := mayByChapter(l); by != want {
		t.Fatalf("the test's own reading of %s: %t; want %t", short(l), by, want)
	}
}

// wantFind holds what is found in a list.
func wantFind(t *testing.T, l api.List, name string, action uint32, there bool) {
	t.Helper()
	if got, ok := fold.Find(l, name); got != action || ok != there {
		t.Fatalf("Find of %q in %s: %#x, %t; want %#x, %t", name, short(l), got, ok, action, there)
	}
}

// wantPut and wantTake hold what becomes of a list.
func wantPut(t *testing.T, l api.List, name string, action uint32, want api.List) {
	t.Helper()
	if got := fold.Put(l, name, action); !same(got, want) {
		t.Fatalf("Put of %q %#x into %s: %s; want %s", name, action, short(l), short(got), short(want))
	}
}

func wantTake(t *testing.T, l api.List, name string, want api.List) {
	t.Helper()
	if got := fold.Take(l, name); !same(got, want) {
		t.Fatalf("Take of %q from %s: %s; want %s", name, short(l), short(got), short(want))
	}
}

// wantStep holds what a value makes of a list.
func wantStep(t *testing.T, l api.List, value string, suffixes bool, want api.List, notes ...api.Note) {
	t.Helper()
	got, gotNotes := fold.Step(l, value, suffixes)
	if !same(got, want) || !slices.Equal(gotNotes, notes) {
		t.Fatalf("Step of %s by %s, suffixes %t:\n%s %s; want\n%s %s", short(l), short(value), suffixes, short(got), short(gotNotes), short(want), short(notes))
	}
}

// wantBoth is wantStep with suffixes and without them.
func wantBoth(t *testing.T, l api.List, value string, want api.List, notes ...api.Note) {
	t.Helper()
	wantStep(t, l, value, true, want, notes...)
	wantStep(t, l, value, false, want, notes...)
}

// wantStepAsChapter holds what a value makes of a valid list against the chapter's words; it tells the list.
func wantStepAsChapter(t *testing.T, l api.List, value string, suffixes bool) api.List {
	t.Helper()
	want, notes := stepByChapter(l, value, suffixes)
	wantStep(t, l, value, suffixes, want, notes...)
	return want
}

// wantFold holds what values make.
func wantFold(t *testing.T, suffixes bool, l []string, want api.List, notes ...api.Note) {
	t.Helper()
	got, gotNotes := fold.Fold(l, suffixes)
	if !same(got, want) || !slices.Equal(gotNotes, notes) {
		t.Fatalf("Fold of %s, suffixes %t:\n%s %s; want\n%s %s", short(l), suffixes, short(got), short(gotNotes), short(want), short(notes))
	}
}

// validLists are lists of each mode.
func validLists() []api.List {
	all := deny(plains(calls.Names()...)...)
	return []api.List{
		none(), allow(), deny(),
		allow(plain("read")), deny(plain("read")), allow(killing("read")), deny(killing("read")), allow(failing("read", 1)), deny(failing("read", 4095)),
		allow(plain("close"), failing("read", 0), killing("write")), deny(failing("close", 22), plain("read"), killing("write")),
		all, allow(all.Calls...),
	}
}

// invalidLists are lists that are not valid, of each kind.
func invalidLists() []api.List {
	return []api.List{
		listOf(api.NoList, plain("read")), listOf(api.NoList, killing("read"), failing("write", 1)), listOf(api.NoList, plain("")),
		listOf(3), listOf(255), listOf(4), listOf(128), listOf(3, plain("read")), listOf(255, plain("read")),
		allow(plain("")), deny(plain("")), allow(plain("nothing")), deny(plain("@file")), allow(plain("@none")), allow(plain("Read")), deny(plain("read ")), deny(plain("read\x00")), deny(plain("~read")), deny(plain("rea")), deny(plain("reads")),
		allow(plain("write"), plain("read")), deny(plain("read"), plain("read")), allow(failing("read", 1), killing("read")), deny(plain("close"), plain("write"), plain("read")), deny(plain("read"), plain("close"), plain("write")), allow(plain("read"), plain("nothing"), plain("write")), allow(plain("close"), plain("read"), plain("zebra")),
		allow(failing("read", 4096)), deny(failing("read", 4096)), deny(acting("read", api.Allow)), deny(acting("read", 1)), allow(plain("close"), acting("read", api.Log)), allow(acting("close", api.Trap), plain("read")),
	}
}

// TestExamples is of P16.3: the chapter's examples.
func TestExamples(t *testing.T) {
	wantFold(t, true, []string{"read write", "~write"}, allow(plain("read")))
	wantFold(t, true, []string{"~@clock:EPERM ptrace", "settimeofday"}, deny(failing("clock_settime", 1), plain("ptrace")))
	wantFold(t, true, []string{"read", "~read:kill"}, allow(killing("read")))
	wantFold(t, true, []string{"read", "", "~read"}, deny(plain("read")))
	wantFold(t, true, []string{"nothing @none read:5 @nest"}, allow(plain("read")), noted(90, "nothing"), noted(110, "@none"), noted(161, "read:5"), noted(111, "@nest"))
}

// TestMayModes is of P16.1: modes with calls and without.
func TestMayModes(t *testing.T) {
	for mode := range 256 {
		wantMay(t, listOf(uint8(mode)), mode <= 2)
		wantMay(t, api.List{Mode: uint8(mode), Calls: []api.Call{}}, mode <= 2)
		wantMay(t, listOf(uint8(mode), plain("read")), mode == 1 || mode == 2)
		wantMay(t, listOf(uint8(mode), failing("close", 1), plain("read"), killing("write")), mode == 1 || mode == 2)
		wantMay(t, listOf(uint8(mode), plain("nothing")), false)
	}
	for _, l := range validLists() {
		wantMay(t, l, true)
	}
	for _, l := range invalidLists() {
		wantMay(t, l, false)
	}
}

// TestMayNames is of P16.1: which calls there may be, and in which order.
func TestMayNames(t *testing.T) {
	names := calls.Names()
	for _, mode := range []uint8{api.AllowList, api.DenyList} {
		for i, a := range names {
			wantMay(t, listOf(mode, plain(a)), true)
			wantMay(t, listOf(mode, plain(a+"x")), false)
			wantMay(t, listOf(mode, plain(a[1:])), slices.Contains(names, a[1:]))
			wantMay(t, listOf(mode, plain(strings.ToUpper(a))), false)
			for j, b := range names {
				wantMay(t, listOf(mode, plain(a), killing(b)), i < j)
				wantMay(t, listOf(mode, plain("bind"), plain(a), plain(b), plain("write")), 0 < i && i < j && j < len(names)-1)
			}
		}
		for _, g := range groups.Names() {
			wantMay(t, listOf(mode, plain(g)), false)
			wantMay(t, listOf(mode, plain(g), plain("read")), false)
		}
		wantMay(t, listOf(mode, plains(names...)...), true)
		for i := range names {
			wantMay(t, listOf(mode, plains(slices.Delete(slices.Clone(names), i, i+1)...)...), true)
			wantMay(t, listOf(mode, plains(slices.Insert(slices.Clone(names), i, names[i])...)...), false)
		}
		slices.Reverse(names)
		wantMay(t, listOf(mode, plains(names...)...), false)
		slices.Reverse(names)
	}
}

// allowedAction tells whether an action may stand in a list, by its number.
func allowedAction(a uint32) bool {
	return a == 0 || a == 0x80000000 || a >= 0x50000 && a <= 0x50fff
}

// someActions are actions of all kinds, with their neighbours.
func someActions() []uint32 {
	l := []uint32{api.KillProcess, api.KillThread, api.Trap, api.Fail, api.Notify, api.Trace, api.Log, api.Allow, api.Fail + 4095, 0x5ffff, math.MaxUint32, 0x7fffffff, 1, 5, 22, 0x500, 0x5000, 0x500000, 0x1050000, 0x80050000, 0x80050001, 0xffff, 0x10000}
	for _, a := range slices.Clone(l) {
		l = append(l, a-1, a+1, a|0x8000, a&0xffff0000)
	}
	return l
}

// TestMayActions is of P16.1: which actions calls may have.
func TestMayActions(t *testing.T) {
	for _, mode := range []uint8{api.AllowList, api.DenyList} {
		for _, a := range someActions() {
			wantMay(t, listOf(mode, acting("read", a)), allowedAction(a))
			wantMay(t, listOf(mode, plain("close"), acting("read", a), killing("write")), allowedAction(a))
			wantMay(t, listOf(mode, plain("close"), killing("read"), acting("write", a)), allowedAction(a))
		}
		for a := uint32(0x4fff0); a < 0x60010; a++ {
			wantMay(t, listOf(mode, acting("read", a)), allowedAction(a))
		}
		for a := range uint32(0x2000) {
			wantMay(t, listOf(mode, acting("read", a)), a == 0)
			wantMay(t, listOf(mode, acting("read", 0x80000000+a)), a == 0)
			wantMay(t, listOf(mode, acting("read", a<<16)), a == 0 || a == 5)
		}
		for bit := range 32 {
			wantMay(t, listOf(mode, acting("read", 1<<bit)), bit == 31)
			wantMay(t, listOf(mode, acting("read", api.Fail|1<<bit)), bit < 12 || bit == 16 || bit == 18)
		}
	}
}

// TestFind is of P16.1: lists of any kind.
func TestFind(t *testing.T) {
	for mode := range 256 {
		l := listOf(uint8(mode), killing("write"), failing("read", 7), plain("close"), acting("read", 9), acting("write", 3), acting("nothing", math.MaxUint32), acting("", 77), acting("@file", 4))
		wantFind(t, l, "write", api.KillProcess, true)
		wantFind(t, l, "read", 0x50007, true)
		wantFind(t, l, "close", 0, true)
		wantFind(t, l, "nothing", math.MaxUint32, true)
		wantFind(t, l, "", 77, true)
		wantFind(t, l, "@file", 4, true)
		for _, name := range []string{"kill", "rea", "reads", "Read", "read ", "@", "file", "\x00"} {
			wantFind(t, l, name, 0, false)
		}
		wantFind(t, listOf(uint8(mode)), "read", 0, false)
		wantFind(t, listOf(uint8(mode)), "", 0, false)
		wantFind(t, listOf(uint8(mode), acting("read", 5)), "", 0, false)
	}
	for _, a := range someActions() {
		wantFind(t, allow(acting("read", a), acting("read", ^a)), "read", a, true)
		wantFind(t, allow(acting("write", ^a), acting("read", a)), "read", a, true)
	}
	all := deny(plains(calls.Names()...)...)
	for i, name := range calls.Names() {
		all.Calls[i].Action = uint32(i) + 1
		wantFind(t, all, name, uint32(i)+1, true)
		wantFind(t, all, name+"x", 0, false)
	}
}

// TestWarns is of P16.1: each number, errors and others.
func TestWarns(t *testing.T) {
	for _, n := range []int{90, 100, 110, 161} {
		if !fold.Warns(api.Errno(n)) {
			t.Errorf("Warns of %d: false", n)
		}
	}
	for n := -400; n <= 1000; n++ {
		want := n == 90 || n == 100 || n == 110 || n == 161
		if got := fold.Warns(api.Errno(n)); got != want {
			t.Errorf("Warns of %d: %t", n, got)
		}
	}
	for _, e := range []api.Errno{api.OK, api.ErrNil, api.ErrArg, api.ErrLong, api.ErrFull, api.ErrInsn, api.ErrData, api.ErrOp, api.ErrLoad, api.ErrJump, api.ErrCell, api.ErrDiv, api.ErrShift, api.ErrEnd, api.ErrSize, api.ErrUnset, api.ErrAsm, api.ErrArch, api.ErrDeep, api.ErrLine, api.ErrUnit, api.ErrFile, api.ErrBool, api.ErrErrno, api.ErrFam, api.ErrSpace, api.ErrIR, api.ErrTree, api.ErrCode, api.ErrBig, api.ErrStack, math.MaxInt, math.MinInt} {
		if fold.Warns(e) {
			t.Errorf("Warns of %d: true", int(e))
		}
	}
}

// TestPut is of P16.2: at each place, and in place of a call.
func TestPut(t *testing.T) {
	for _, mode := range []uint8{api.AllowList, api.DenyList} {
		l := listOf(mode, plain("close"), failing("read", 1), killing("socket"))
		for _, a := range someActions() {
			wantPut(t, l, "bind", a, listOf(mode, acting("bind", a), plain("close"), failing("read", 1), killing("socket")))
			wantPut(t, l, "close", a, listOf(mode, acting("close", a), failing("read", 1), killing("socket")))
			wantPut(t, l, "kill", a, listOf(mode, plain("close"), acting("kill", a), failing("read", 1), killing("socket")))
			wantPut(t, l, "read", a, listOf(mode, plain("close"), acting("read", a), killing("socket")))
			wantPut(t, l, "reboot", a, listOf(mode, plain("close"), failing("read", 1), acting("reboot", a), killing("socket")))
			wantPut(t, l, "socket", a, listOf(mode, plain("close"), failing("read", 1), acting("socket", a)))
			wantPut(t, l, "write", a, listOf(mode, plain("close"), failing("read", 1), killing("socket"), acting("write", a)))
		}
	}
	for mode := range uint8(3) {
		for _, a := range someActions() {
			for _, name := range []string{"read", "", "nothing", "@file", "~read", "\xff", "a", strings.Repeat("z", 1000)} {
				wantPut(t, listOf(mode), name, a, listOf(mode, acting(name, a)))
			}
		}
	}
}

// TestPutUnknown is of P16.2: names that are none of a call go to their place byte by byte.
func TestPutUnknown(t *testing.T) {
	l := deny(plain("close"), plain("read"), plain("write"))
	for name, at := range map[string]int{"": 0, "@file": 0, "Z": 0, "clos": 0, "closE": 0, "close ": 1, "closea": 1, "nothing": 1, "rea": 1, "rdad": 1, "reaD": 1, "read\x00": 2, "reada": 2, "writ": 2, "writf": 3, "write2": 3, "zebra": 3, "\xff": 3, "é": 3, "~write": 3} {
		want := listOf(l.Mode, slices.Insert(slices.Clone(l.Calls), at, acting(name, 8))...)
		wantPut(t, l, name, 8, want)
	}
}

// TestTake is of P16.2: each call, and names that are not there.
func TestTake(t *testing.T) {
	for _, mode := range []uint8{api.AllowList, api.DenyList} {
		l := listOf(mode, plain("close"), failing("read", 1), killing("socket"))
		wantTake(t, l, "close", listOf(mode, failing("read", 1), killing("socket")))
		wantTake(t, l, "read", listOf(mode, plain("close"), killing("socket")))
		wantTake(t, l, "socket", listOf(mode, plain("close"), failing("read", 1)))
		for _, name := range []string{"", "bind", "kill", "write", "nothing", "@basic-io", "clos", "close ", "closes", "rea", "Read", "\xff", "socket\x00"} {
			wantTake(t, l, name, l)
		}
		wantTake(t, listOf(mode, killing("read")), "read", listOf(mode))
		wantTake(t, listOf(mode, killing("read")), "write", listOf(mode, killing("read")))
	}
	for mode := range uint8(3) {
		for _, name := range []string{"", "read", "nothing"} {
			wantTake(t, listOf(mode), name, listOf(mode))
		}
	}
}

// TestInvalid is of P16.2 and P16.3: lists that are not valid come back as they were, and nothing is noted.
func TestInvalid(t *testing.T) {
	for _, l := range invalidLists() {
		for _, name := range []string{"read", "write", "close", "bind", "", "nothing", "@file", "zebra"} {
			for _, a := range []uint32{0, api.KillProcess, api.Fail, api.Allow, 7} {
				wantPut(t, l, name, a, l)
			}
			wantTake(t, l, name, l)
		}
		for _, value := range []string{"", " ", "~", "~ ", "read", "~read", "~read:5", "read:5", "nothing", "@nest", ":", "a:x", "~@file"} {
			wantBoth(t, l, value, l)
		}
	}
}

// TestPutTakeAll is of P16.2: in any order all calls come in to their places, and go.
func TestPutTakeAll(t *testing.T) {
	r := rand.New(rand.NewSource(162))
	for range 200 {
		l := listOf(uint8(1 + r.Intn(2)))
		b := bookOf(l)
		names := calls.Names()
		for range 100 {
			name := names[r.Intn(len(names))]
			a := []uint32{0, api.KillProcess, api.Fail, api.Fail + 4095, api.Fail + uint32(r.Intn(4096))}[r.Intn(5)]
			if r.Intn(2) == 0 {
				b.in[name] = a
				wantPut(t, l, name, a, b.list())
				l = fold.Put(l, name, a)
			} else {
				delete(b.in, name)
				wantTake(t, l, name, b.list())
				l = fold.Take(l, name)
			}
			wantMay(t, l, true)
		}
	}
}

// TestNoWords is of P16.3: a value without words clears the list and its mode.
func TestNoWords(t *testing.T) {
	for _, l := range validLists() {
		for _, value := range []string{"", " ", "\t", "\r", " \t\r ", strings.Repeat(" ", 1000)} {
			wantBoth(t, l, value, none())
		}
	}
}

// TestTildeAlone is of P16.3: the words are those of the whole value, of which `~` is one, though nothing is behind it.
func TestTildeAlone(t *testing.T) {
	for _, value := range []string{"~", "~ ", "~\t", "~ \r\t"} {
		for _, l := range validLists() {
			want := l
			if l.Mode == api.NoList {
				want = deny()
			}
			wantBoth(t, l, value, want)
		}
	}
	wantBoth(t, none(), " ~", allow(), noted(90, "~"))
	wantBoth(t, deny(plain("read")), " ~ read", deny(), noted(90, "~"))
	wantBoth(t, none(), "~~", deny(), noted(90, "~"))
	wantBoth(t, none(), "~ ~read read", deny(plain("read")), noted(90, "~read"))
	wantBoth(t, none(), "~~read", deny(), noted(90, "~read"))
	wantBoth(t, none(), "read ~write", allow(plain("read")), noted(90, "~write"))
	wantBoth(t, none(), "~ read", deny(plain("read")))
	wantBoth(t, none(), "~read write\t", deny(plain("read"), plain("write")))
	// Bytes that are no white space are words.
	for _, word := range []string{"\n", "\v", "\f", "\x00", "\xa0", "\u00a0", "\u2003", "\xff"} {
		wantBoth(t, deny(plain("read")), word, deny(plain("read")), noted(90, word))
		wantBoth(t, none(), word+"~read", allow(), noted(90, word+"~read"))
	}
}

// TestFirstMode is of P16.3: the first value that has words determines the mode, also one that does nothing else.
func TestFirstMode(t *testing.T) {
	for _, value := range []string{"read", " read", "\tread", "read "} {
		wantBoth(t, none(), value, allow(plain("read")))
	}
	wantBoth(t, none(), "~read", deny(plain("read")))
	wantBoth(t, none(), "nothing", allow(), noted(90, "nothing"))
	wantBoth(t, none(), "~nothing", deny(), noted(90, "nothing"))
	wantBoth(t, none(), ":5", allow(), noted(161, ":5"))
	wantBoth(t, none(), "~read:x", deny(), noted(160, "read:x"))
	wantBoth(t, none(), "@nest", allow(), noted(111, "@nest"))
	wantBoth(t, none(), "~@none", deny(), noted(110, "@none"))
}

// TestRows is of P16.3: each row of the table, with the call in the list, with each action, and without it.
func TestRows(t *testing.T) {
	for _, before := range [][]api.Call{nil, {plain("read")}, {killing("read")}, {failing("read", 0)}, {failing("read", 9)}, {failing("read", 4095)}} {
		a, d := allow(before...), deny(before...)
		ignored := noted(161, "read:5")
		wantBoth(t, a, "read", allow(plain("read")))
		wantBoth(t, a, "read:5", allow(plain("read")), ignored)
		wantBoth(t, a, "~read", allow())
		wantStep(t, a, "~read:5", true, allow(failing("read", 5)))
		wantStep(t, a, "~read:5", false, allow(), ignored)
		wantStep(t, a, "~read:kill", true, allow(killing("read")))
		wantStep(t, a, "~read:0", true, allow(failing("read", 0)))
		wantBoth(t, d, "~read", deny(plain("read")))
		wantStep(t, d, "~read:5", true, deny(failing("read", 5)))
		wantStep(t, d, "~read:5", false, deny(plain("read")), ignored)
		wantStep(t, d, "~read:kill", true, deny(killing("read")))
		wantStep(t, d, "~read:0", true, deny(failing("read", 0)))
		wantBoth(t, d, "read", deny())
		wantBoth(t, d, "read:5", deny(), ignored)
	}
}

// TestRowsBeside is of P16.3: the calls beside the one that is named stay, with their actions.
func TestRowsBeside(t *testing.T) {
	l := []api.Call{failing("bind", 1), killing("kill"), plain("write")}
	with := func(c api.Call) []api.Call { return []api.Call{l[0], l[1], c, l[2]} }
	wantBoth(t, allow(l...), "read", allow(with(plain("read"))...))
	wantBoth(t, allow(with(killing("read"))...), "read", allow(with(plain("read"))...))
	wantBoth(t, allow(with(killing("read"))...), "~read", allow(l...))
	wantStep(t, allow(l...), "~read:EIO", true, allow(with(failing("read", 5))...))
	wantStep(t, deny(l...), "~read:EIO", true, deny(with(failing("read", 5))...))
	wantBoth(t, deny(l...), "~read", deny(with(plain("read"))...))
	wantBoth(t, deny(with(killing("read"))...), "read", deny(l...))
	wantBoth(t, allow(l...), "~bind write", allow(killing("kill")))
	wantBoth(t, deny(l...), "write bind", deny(killing("kill")))
}

// TestSuffixes is of P16.3: what suffixes mean, where they count.
func TestSuffixes(t *testing.T) {
	for suffix, action := range map[string]uint32{"kill": 0x80000000, "0": 0x50000, "1": 0x50001, "0005": 0x50005, "4095": 0x50fff, "EPERM": 0x50001, "ENOSYS": 0x50026, "ETIMEDOUT": 0x5006e} {
		word := "read:" + suffix
		wantStep(t, none(), "~"+word, true, deny(acting("read", action)))
		wantStep(t, allow(), "~"+word, true, allow(acting("read", action)))
		wantStep(t, none(), "~"+word, false, deny(plain("read")), noted(161, word))
		wantBoth(t, none(), word, allow(plain("read")), noted(161, word))
		wantBoth(t, deny(killing("read")), word, deny(), noted(161, word))
	}
	for _, suffix := range []string{"", "x", "4096", "00001", "-1", "+1", "Kill", "KILL", "eperm", "5:6", "kill:kill", "EPERM:", "65536"} {
		word := "read:" + suffix
		for _, l := range validLists() {
			if l.Mode != api.NoList {
				wantBoth(t, l, word, l, noted(160, word))
				wantBoth(t, l, "~"+word, l, noted(160, word))
			}
		}
	}
}

// TestManyWords is of P16.3: words count in their order.
func TestManyWords(t *testing.T) {
	wantBoth(t, none(), "write read close", allow(plain("close"), plain("read"), plain("write")))
	wantBoth(t, none(), "~write read close", deny(plain("close"), plain("read"), plain("write")))
	wantBoth(t, none(), "read read read", allow(plain("read")))
	wantBoth(t, none(), "~read read", deny(plain("read")))
	wantStep(t, none(), "~read:5 read:kill", true, deny(killing("read")))
	wantStep(t, none(), "~read:kill read:5", true, deny(failing("read", 5)))
	wantStep(t, none(), "~read:kill read", true, deny(plain("read")))
	wantStep(t, none(), "~read read:kill", true, deny(killing("read")))
	// A call that is put and removed in one value, in both orders.
	wantStep(t, allow(), "~read:5 read", true, allow())
	wantStep(t, allow(plain("read")), "~read read:5", true, allow(failing("read", 5)))
	wantStep(t, allow(plain("read")), "~read read:5 read", true, allow())
	wantStep(t, allow(plain("read")), "~read:5 read read:6", true, allow(failing("read", 6)))
	wantStep(t, allow(), "~@basic-io:5 read", true, allow(failing("close", 5), failing("write", 5)))
	wantStep(t, allow(), "~read @basic-io:5 write:kill", true, allow(failing("close", 5), failing("read", 5), killing("write")))
	wantStep(t, allow(), "~read:5 read", false, allow(), noted(161, "read:5"))
}

// TestGroups is of P16.3: groups, groups within groups, and calls of them beside them.
func TestGroups(t *testing.T) {
	file := []string{"close", "ioctl", "open", "openat", "read", "write"}
	wantBoth(t, none(), "@file", allow(plains(file...)...))
	wantBoth(t, none(), "~@file", deny(plains(file...)...))
	wantStep(t, none(), "~@file:EIO", true, deny(actings(0x50005, file...)...))
	wantStep(t, none(), "~@file:EIO", false, deny(plains(file...)...), noted(161, "@file:EIO"))
	wantBoth(t, none(), "@file:EIO", allow(plains(file...)...), noted(161, "@file:EIO"))
	wantStep(t, allow(), "~@file:kill", true, allow(actings(0x80000000, file...)...))
	wantBoth(t, allow(plains(file...)...), "~@basic-io", allow(plains("ioctl", "open", "openat")...))
	wantBoth(t, deny(plains(file...)...), "@basic-io", deny(plains("ioctl", "open", "openat")...))
	wantBoth(t, deny(plains(file...)...), "@basic-io:5", deny(plains("ioctl", "open", "openat")...), noted(161, "@basic-io:5"))
	wantStep(t, none(), "~@clock:5 settimeofday", true, deny(failing("clock_settime", 5), plain("settimeofday")))
	wantStep(t, none(), "~settimeofday @clock:5", true, deny(failing("clock_settime", 5), failing("settimeofday", 5)))
	wantStep(t, none(), "~@clock:5 settimeofday:kill", true, deny(failing("clock_settime", 5), killing("settimeofday")))
	wantBoth(t, none(), "@nest-2", allow(plains("exit", "getuid", "read", "setuid")...))
	wantBoth(t, none(), "@privileged", allow(plains("bpf", "clock_settime", "delete_module", "finit_module", "init_module", "mount", "reboot", "settimeofday", "setuid", "umount2")...))
	for _, g := range groups.Names() {
		all, e := groups.Expand(g)
		if e != api.OK {
			wantBoth(t, none(), "~"+g, deny(), noted(111, g))
			wantBoth(t, allow(plain("read")), g, allow(plain("read")), noted(111, g))
			wantBoth(t, deny(plain("read")), g, deny(plain("read")), noted(111, g))
			wantBoth(t, allow(plain("read")), "~"+g+":5", allow(plain("read")), noted(111, g+":5"))
			continue
		}
		wantBoth(t, none(), g, allow(plains(all...)...))
		wantStep(t, none(), "~"+g+":kill", true, deny(actings(0x80000000, all...)...))
		wantBoth(t, allow(plains(all...)...), "~"+g, allow())
		wantBoth(t, deny(plains(all...)...), g, deny())
	}
}

// TestNoteKinds is of P16.3: which error is noted of a word, and that the word then has no other effect.
func TestNoteKinds(t *testing.T) {
	for word, e := range map[string]api.Errno{
		":": 161, ":5": 161, ":kill": 161, ":x": 161, "::": 161, "::5": 161,
		"read:": 160, "read:x": 160, "nothing:x": 160, "@none:x": 160, "@nest:x": 160, "@file:x": 160, "@:": 160, "read:5:6": 160, "@:4096": 160,
		"nothing": 90, "Read": 90, "rea": 90, "reads": 90, "nothing:5": 90, "nothing:kill": 90, "~": 90, "~:5": 90, "file": 90, "x@file": 90, "read,write": 90, "read\x00": 90, "\xff": 90, "é": 90,
		"@none": 110, "@": 110, "@read": 110, "@@file": 110, "@FILE": 110, "@fil": 110, "@files": 110, "@none:5": 110, "@none:kill": 110, "@:5": 110,
		"@nest": 111, "@nest:5": 111, "@nest:kill": 111,
	} {
		for _, l := range validLists() {
			if l.Mode == api.NoList {
				continue
			}
			wantBoth(t, l, "~"+word, l, noted(e, word))
			wantBoth(t, l, "~ "+word, l, noted(e, word))
			wantBoth(t, l, " "+word, l, noted(e, word))
			if word[0] != '~' {
				wantBoth(t, l, word, l, noted(e, word))
			}
		}
		wantBoth(t, none(), " "+word+" bind", allow(plain("bind")), noted(e, word))
		wantBoth(t, none(), "~write "+word+" bind", deny(plain("bind"), plain("write")), noted(e, word))
	}
}

// TestNotesInOrder is of P16.3: several notes of a value, and those of several values.
func TestNotesInOrder(t *testing.T) {
	wantBoth(t, none(), "a @a :a read:a @nest read:5 a read b", allow(plain("read")),
		noted(90, "a"), noted(110, "@a"), noted(161, ":a"), noted(160, "read:a"), noted(111, "@nest"), noted(161, "read:5"), noted(90, "a"), noted(90, "b"))
	wantStep(t, none(), "~read:5 @nest write:6 a", true, deny(failing("read", 5), failing("write", 6)), noted(111, "@nest"), noted(90, "a"))
	wantStep(t, none(), "~read:5 @nest write:6 a", false, deny(plain("read"), plain("write")), noted(161, "read:5"), noted(111, "@nest"), noted(161, "write:6"), noted(90, "a"))
	wantFold(t, true, []string{"a", "~b c", "", "~@d read:5 bind", "e:x read:6"}, deny(plain("bind")), noted(90, "a"), noted(90, "b"), noted(90, "c"), noted(110, "@d"), noted(160, "e:x"), noted(161, "read:6"))
	wantFold(t, false, []string{"~read:5", "read:5", "~write:6"}, deny(plain("write")), noted(161, "read:5"), noted(161, "read:5"), noted(161, "write:6"))
	// Once for the word, not for each call of its group.
	wantBoth(t, none(), "@system:5", allow(bookOf(foldOf("@system")).list().Calls...), noted(161, "@system:5"))
	wantBoth(t, none(), "@nest-2:5 @nest-2:5", allow(plains("exit", "getuid", "read", "setuid")...), noted(161, "@nest-2:5"), noted(161, "@nest-2:5"))
}

// foldOf is the list of one value.
func foldOf(value string) api.List {
	l, _ := foldByChapter([]string{value}, true)
	return l
}

// TestNoteTexts is of P16.3: a text is the first 60 bytes of the word, whatever they are.
func TestNoteTexts(t *testing.T) {
	for _, n := range []int{1, 58, 59, 60, 61, 62, 119, 120, 121, 1000, 65536} {
		for _, piece := range []string{"x", "é", "\xff", "\u20ac", "ab"} {
			word := strings.Repeat(piece, n)[:n]
			first := word[:min(n, 60)]
			wantBoth(t, none(), " "+word, allow(), noted(90, first))
			wantBoth(t, none(), "~"+word, deny(), noted(90, first))
			wantBoth(t, none(), "read "+word+" write", allow(plain("read"), plain("write")), noted(90, first))
		}
		long := strings.Repeat("g", n)
		wantBoth(t, none(), "@"+long, allow(), noted(110, ("@" + long)[:min(n+1, 60)]))
		wantBoth(t, none(), ":"+long, allow(), noted(161, (":" + long)[:min(n+1, 60)]))
		wantBoth(t, none(), "read:"+long, allow(), noted(160, ("read:" + long)[:min(n+5, 60)]))
		zeros := strings.Repeat("0", n)
		if n > 4 {
			wantBoth(t, none(), "~read:"+zeros, deny(), noted(160, ("read:" + zeros)[:min(n+5, 60)]))
		}
	}
	// There is no limit to the words: the name of a call behind 60 bytes is not looked for.
	wantBoth(t, none(), "~"+strings.Repeat("x", 60)+":5", deny(), noted(90, strings.Repeat("x", 60)))
	wantBoth(t, none(), "~"+strings.Repeat("x", 60)+":x", deny(), noted(160, strings.Repeat("x", 60)))
}

// TestNoPlace is of P16.3: notes have no file and no line.
func TestNoPlace(t *testing.T) {
	_, notes := fold.Fold([]string{"a @a :a read:a @nest read:5", "~b"}, true)
	if len(notes) != 7 {
		t.Fatalf("%d notes", len(notes))
	}
	for _, n := range notes {
		if n.File != "" || n.Line != 0 {
			t.Errorf("%+v", n)
		}
	}
}

// TestFold is of P16.3: values in their order, from the list of no mode on.
func TestFold(t *testing.T) {
	wantFold(t, true, nil, none())
	wantFold(t, true, []string{}, none())
	wantFold(t, true, []string{""}, none())
	wantFold(t, true, []string{"", "", " "}, none())
	wantFold(t, true, []string{"read", ""}, none())
	wantFold(t, true, []string{"", "read"}, allow(plain("read")))
	wantFold(t, true, []string{"~read", "write"}, deny(plain("read")))
	wantFold(t, true, []string{"read", "~write"}, allow(plain("read")))
	wantFold(t, true, []string{"read", "~write:5"}, allow(plain("read"), failing("write", 5)))
	wantFold(t, false, []string{"read", "~write:5"}, allow(plain("read")), noted(161, "write:5"))
	wantFold(t, true, []string{"~read", "", "write"}, allow(plain("write")))
	wantFold(t, true, []string{"~", "read"}, deny())
	wantFold(t, true, []string{"nothing", "~read"}, allow(), noted(90, "nothing"))
	wantFold(t, true, []string{"~read:5", "~read"}, deny(plain("read")))
	wantFold(t, true, []string{"~read", "~read:5"}, deny(failing("read", 5)))
	wantFold(t, true, []string{"~read:5", "read"}, deny())
	wantFold(t, true, []string{"read", "~read:5", "read"}, allow(plain("read")))
	wantFold(t, true, []string{"@basic-io", "~write"}, allow(plain("close"), plain("read")))
}

// pieces are what values are made of.
func pieces() []string {
	return []string{"read", "write", "close", "~", " ", " ", " ", "\t", "\r", "@basic-io", "@file", "@nest", "@nest-2", "@none", ":5", ":kill", ":EPERM", ":x", ":", "nothing", "@", "kill", "5", "ptrace", "bind"}
}

// made is a value of up to n pieces.
func made(r *rand.Rand, n int) string {
	p := pieces()
	var b strings.Builder
	if r.Intn(3) == 0 {
		b.WriteString("~")
	}
	for range r.Intn(n + 1) {
		b.WriteString(p[r.Intn(len(p))])
	}
	return b.String()
}

// word is a word that does something, or is wrong.
func word(r *rand.Rand) string {
	names := append(calls.Names(), groups.Names()...)
	w := names[r.Intn(len(names))]
	if r.Intn(12) == 0 {
		w = []string{"", "nothing", "@none", "@", "~"}[r.Intn(5)]
	}
	if r.Intn(3) == 0 {
		w += []string{":kill", ":0", ":1", ":4095", ":EPERM", ":ENOSYS", ":x", ":", ":4096"}[r.Intn(9)]
	}
	return w
}

// sensible is a value of up to n words that mostly do something.
func sensible(r *rand.Rand, n int) string {
	var l []string
	for range r.Intn(n + 1) {
		l = append(l, word(r))
	}
	return []string{"", "~", "~", "~ ", " "}[r.Intn(5)] + strings.Join(l, []string{" ", "\t", "\r", "  "}[r.Intn(4)])
}

// someValid is a valid list that is made.
func someValid(r *rand.Rand) api.List {
	l := listOf(uint8(r.Intn(3)))
	if l.Mode == api.NoList {
		return l
	}
	for _, name := range calls.Names() {
		if r.Intn(4) == 0 {
			l.Calls = append(l.Calls, acting(name, []uint32{0, api.KillProcess, api.Fail, api.Fail + 4095, api.Fail + uint32(r.Intn(4096))}[r.Intn(5)]))
		}
	}
	return l
}

// TestShortValues is of P16.3: all values of up to three pieces, on lists of each mode.
func TestShortValues(t *testing.T) {
	lists := []api.List{none(), allow(plain("close"), failing("read", 7)), deny(killing("read"), plain("write"))}
	var from func(s string, n int)
	from = func(s string, n int) {
		for _, l := range lists {
			wantStepAsChapter(t, l, s, true)
			wantStepAsChapter(t, l, s, false)
		}
		for _, p := range pieces() {
			if n > 0 {
				from(s+p, n-1)
			}
		}
	}
	from("", 3)
}

// TestMadeValues is of P16.3 to P16.6: made values on made lists, against the chapter's words, and what they keep to.
func TestMadeValues(t *testing.T) {
	r := rand.New(rand.NewSource(16))
	for i := range 20000 {
		l, value := someValid(r), made(r, 12)
		if i%2 == 0 {
			value = sensible(r, 8)
		}
		suffixes := r.Intn(2) == 0
		wantStepAsChapter(t, l, value, suffixes)
		got, notes := fold.Step(l, value, suffixes)
		wantMay(t, got, true)
		if len(values.Words(value)) == 0 {
			wantStep(t, l, value, suffixes, none())
			continue
		}
		if l.Mode != api.NoList && got.Mode != l.Mode {
			t.Fatalf("the mode of %s after %q: %d", short(l), value, got.Mode)
		}
		wantStep(t, got, value, suffixes, got, notes...)
	}
}

// TestMadeSequences is of P16.3 and P16.4: made values one after another, by Fold and by Step.
func TestMadeSequences(t *testing.T) {
	r := rand.New(rand.NewSource(163))
	for range 4000 {
		var l []string
		for range r.Intn(8) {
			l = append(l, []string{made(r, 6), sensible(r, 4), sensible(r, 2)}[r.Intn(3)])
		}
		suffixes := r.Intn(2) == 0
		want, notes := foldByChapter(l, suffixes)
		wantFold(t, suffixes, l, want, notes...)
		wantMay(t, want, true)
		var step api.List
		var all []api.Note
		for _, value := range l {
			next, more := fold.Step(step, value, suffixes)
			step, all = next, append(all, more...)
		}
		wantFold(t, suffixes, l, step, all...)
	}
}

// TestModeStays is of P16.5: no value that has words changes a mode, whatever it does.
func TestModeStays(t *testing.T) {
	for _, value := range []string{"read", "~read", "~read:5", "nothing", "~nothing", ":", "@nest", "~@nest", "~", "@system", "~@system", "~~", " ~"} {
		for _, l := range validLists() {
			got, _ := fold.Step(l, value, true)
			if l.Mode != api.NoList && got.Mode != l.Mode {
				t.Errorf("the mode %d became %d by %q", l.Mode, got.Mode, value)
			}
			if got.Mode == api.NoList {
				t.Errorf("no mode after %q", value)
			}
		}
	}
}

// TestTwice is of P16.6: by hand, values that both put and remove.
func TestTwice(t *testing.T) {
	for _, value := range []string{"read", "~read", "~read:5 read", "~read read:5", "~@basic-io:5 read write:kill", "read:5 nothing", "~ read:5 nothing @none :5 read:x", "~", "~@file:5 @basic-io close:6", "@nest read @nest-2"} {
		for _, l := range validLists() {
			for _, suffixes := range []bool{false, true} {
				once, notes := fold.Step(l, value, suffixes)
				wantStep(t, once, value, suffixes, once, notes...)
			}
		}
	}
}

// TestLongValue is of P16.3 and P0.1: values as long as files can be.
func TestLongValue(t *testing.T) {
	all := foldOf("@system")
	many := strings.Repeat("@system ", api.MaxBytes/8)
	wantBoth(t, none(), many, all)
	wantBoth(t, none(), "~"+many, deny(all.Calls...))
	got, notes := fold.Step(none(), strings.Repeat(": ", api.MaxBytes/2), true)
	if !same(got, allow()) || len(notes) != api.MaxBytes/2 {
		t.Errorf("%s, %d notes", short(got), len(notes))
	}
	l := slices.Repeat([]string{"~read:5", "read"}, 2000)
	wantFold(t, true, l, deny())
	wantFold(t, true, append(l, "~read:5"), deny(failing("read", 5)))
}

// guarded is a list whose calls have others behind them, up to their capacity.
func guarded(l api.List) (api.List, []api.Call) {
	all := append(slices.Clone(l.Calls), plain("guard"), killing("guard"), acting("guard", 3))
	return api.List{Mode: l.Mode, Calls: all[:len(l.Calls)]}, all
}

// changed overwrites what a list has, up to its capacity.
func changed(l api.List) {
	for i := range l.Calls[:cap(l.Calls)] {
		l.Calls[:cap(l.Calls)][i] = acting("changed", 99)
	}
}

// TestPassed is of P0.4: what is passed stays, also behind its length, and shares nothing with what is returned.
func TestPassed(t *testing.T) {
	for _, l := range append(validLists(), invalidLists()...) {
		for name, do := range map[string]func(api.List) api.List{
			"put before":       func(l api.List) api.List { return fold.Put(l, "bind", 5) },
			"put behind":       func(l api.List) api.List { return fold.Put(l, "write", 5) },
			"put within":       func(l api.List) api.List { return fold.Put(l, "read", api.Fail) },
			"put unknown":      func(l api.List) api.List { return fold.Put(l, "", 5) },
			"take first":       func(l api.List) api.List { return fold.Take(l, "close") },
			"take":             func(l api.List) api.List { return fold.Take(l, "read") },
			"take nothing":     func(l api.List) api.List { return fold.Take(l, "nothing") },
			"step without":     func(l api.List) api.List { l, _ = fold.Step(l, "", true); return l },
			"step":             func(l api.List) api.List { l, _ = fold.Step(l, "read write bind @file", true); return l },
			"step inverted":    func(l api.List) api.List { l, _ = fold.Step(l, "~read:5 write bind @file:kill kill", true); return l },
			"step of notes":    func(l api.List) api.List { l, _ = fold.Step(l, "nothing", true); return l },
			"step of a tilde":  func(l api.List) api.List { l, _ = fold.Step(l, "~", false); return l },
			"step of no words": func(l api.List) api.List { l, _ = fold.Step(l, "\t", false); return l },
			"may and find": func(l api.List) api.List {
				fold.May(l)
				fold.Find(l, "read")
				return none()
			},
		} {
			in, all := guarded(l)
			before := slices.Clone(all)
			got := do(in)
			if !slices.Equal(all, before) {
				t.Fatalf("%s of %s changed it: %v", name, short(l), all)
			}
			again := do(in)
			changed(got)
			if !slices.Equal(all, before) {
				t.Fatalf("%s of %s returned memory of it: %v", name, short(l), all)
			}
			if want := do(in); !same(again, want) {
				t.Fatalf("%s of %s returned memory of what it had returned", name, short(l))
			}
		}
	}
}

// TestReturned is of P0.4: the notes and the lists of one answer are the caller's, and the values that are passed stay.
func TestReturned(t *testing.T) {
	all := []string{"a read", "~b write:5 @none", "guard"}
	l := all[:2]
	one, notes := fold.Fold(l, true)
	two, others := fold.Fold(l, true)
	changed(one)
	for i := range notes[:cap(notes)] {
		notes[:cap(notes)][i] = noted(5, "changed")
	}
	want, wantNotes := foldByChapter(l, true)
	if !same(two, want) || !slices.Equal(others, wantNotes) {
		t.Errorf("%s %s", short(two), short(others))
	}
	wantFold(t, true, l, want, wantNotes...)
	if !slices.Equal(all, []string{"a read", "~b write:5 @none", "guard"}) {
		t.Errorf("%q", all)
	}
	_, stepped := fold.Step(none(), "a b", true)
	_, again := fold.Step(none(), "a b", true)
	for i := range stepped[:cap(stepped)] {
		stepped[:cap(stepped)][i] = noted(5, "changed")
	}
	if !slices.Equal(again, []api.Note{noted(90, "a"), noted(90, "b")}) {
		t.Errorf("%s", short(again))
	}
}

// TestZero is of P0.1 and P0.2: zero values, and nothing but zero values beside false.
func TestZero(t *testing.T) {
	wantMay(t, none(), true)
	wantFind(t, none(), "", 0, false)
	wantPut(t, none(), "", 0, listOf(0, plain("")))
	wantTake(t, none(), "", none())
	wantBoth(t, none(), "", none())
	wantFold(t, false, nil, none())
	wantBoth(t, api.List{Calls: []api.Call{}}, "", none())
	wantBoth(t, api.List{Mode: 1, Calls: []api.Call{}}, "read", allow(plain("read")))
}
