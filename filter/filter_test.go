package filter_test

import (
	"fmt"
	"math"
	"math/rand"
	"slices"
	"strconv"
	"strings"
	"testing"

	"vestibule/api"
	"vestibule/calls"
	"vestibule/filter"
	"vestibule/fold"
	"vestibule/groups"
)

// The keys, and the actions of the chapter by their numbers.
const (
	keyFilter = "SystemCallFilter"
	keyLog    = "SystemCallLog"
	keyErrno  = "SystemCallErrorNumber"
	killed    = 0x80000000
	failed    = 0x50000
)

// keys are the keys of this layer.
func keys() []string { return []string{keyFilter, keyLog, keyErrno} }

// errnosByChapter are the errnos that have names, by layer 10's table.
func errnosByChapter() map[string]uint32 {
	return map[string]uint32{
		"EPERM": 1, "ENOENT": 2, "EIO": 5, "EBADF": 9, "EAGAIN": 11, "ENOMEM": 12, "EACCES": 13, "EFAULT": 14, "EBUSY": 16,
		"ENODEV": 19, "EINVAL": 22, "ENOSYS": 38, "EOPNOTSUPP": 95, "EAFNOSUPPORT": 97, "ETIMEDOUT": 110,
	}
}

// numberByChapter is the number that up to four digits denote, if it is one from 0 to 4095.
func numberByChapter(s string) (uint32, bool) {
	if len(s) < 1 || len(s) > 4 {
		return 0, false
	}
	var n uint32
	for i := range len(s) {
		if s[i] < '0' || s[i] > '9' {
			return 0, false
		}
		n = 10*n + uint32(s[i]-'0')
	}
	return n, n <= 4095
}

// errnoByChapter is what Errno should return.
func errnoByChapter(value string) (uint32, api.Errno) {
	if value == "" || value == "kill" {
		return killed, 0
	}
	if n, ok := errnosByChapter()[value]; ok {
		return failed + n, 0
	}
	if n, ok := numberByChapter(value); ok {
		return failed + n, 0
	}
	return 0, 160
}

// first is the first 60 bytes of a value.
func first(value string) string {
	if len(value) > 60 {
		return value[:60]
	}
	return value
}

// setByChapter is what Set should return, by the chapter's table.
func setByChapter(p api.Policy, a api.Assign) (api.Policy, []api.Note) {
	var notes []api.Note
	switch a.Key {
	case "SystemCallFilter":
		p.Filter, notes = fold.Step(p.Filter, a.Value, true)
	case "SystemCallLog":
		p.Log, notes = fold.Step(p.Log, a.Value, false)
	case "SystemCallErrorNumber":
		if action, e := errnoByChapter(a.Value); e == 0 {
			p.Deny = action
		} else {
			notes = []api.Note{{Err: e, Text: first(a.Value)}}
		}
	}
	for i := range notes {
		notes[i].File, notes[i].Line = a.File, a.Line
	}
	return p, notes
}

// plain is a call with the list's own action, failing one that fails, killing one that kills, with another action.
func plain(name string) api.Call { return api.Call{Name: name} }
func failing(name string, errno uint32) api.Call {
	return api.Call{Name: name, Action: failed + errno}
}
func killing(name string) api.Call               { return api.Call{Name: name, Action: killed} }
func acting(name string, action uint32) api.Call { return api.Call{Name: name, Action: action} }
func listOf(mode uint8, l ...api.Call) api.List  { return api.List{Mode: mode, Calls: l} }
func none() api.List                             { return api.List{} }
func allow(l ...api.Call) api.List               { return listOf(1, l...) }
func deny(l ...api.Call) api.List                { return listOf(2, l...) }
func plains(names ...string) (l []api.Call) {
	for _, n := range names {
		l = append(l, plain(n))
	}
	return l
}

// at is an assignment as the tests mostly have it, noted the note of an error in it.
func at(key, value string) api.Assign {
	return api.Assign{File: "a.service", Line: 7, Section: "Service", Key: key, Value: value}
}

func noted(e api.Errno, text string) api.Note {
	return api.Note{File: "a.service", Line: 7, Err: e, Text: text}
}

// full is a policy of which each part is filled, with lists of the two modes.
func full() api.Policy {
	return api.Policy{
		Arches:       []int{api.X8664, api.X32, api.RiscV64},
		Filter:       allow(failing("close", 3), plain("read"), killing("write")),
		Deny:         failed + 77,
		Log:          deny(plain("bind"), plain("read")),
		Families:     []uint32{1, 10, 40},
		FamiliesMode: api.DenyList,
		Spaces:       0x7e020080,
		WriteExecute: true, Personality: true, Realtime: true, NoPrivileges: true,
	}
}

// other is a policy of which each part differs from that of full.
func other() api.Policy {
	return api.Policy{
		Arches:       []int{api.Arm},
		Filter:       deny(plain("kill"), failing("ptrace", 4095)),
		Deny:         killed,
		Log:          allow(plain("close"), plain("write")),
		Families:     []uint32{2},
		FamiliesMode: api.AllowList,
		Spaces:       0x80,
	}
}

// odd is a policy that no assignments lead to, in the parts that this layer does not look at.
func odd() api.Policy {
	return api.Policy{
		Arches:       []int{9, -1, 3, 3},
		Deny:         123,
		Families:     []uint32{math.MaxUint32, 7, 7, 0},
		FamiliesMode: 200,
		Spaces:       math.MaxUint64,
		Realtime:     true,
	}
}

// policies are policies of all kinds.
func policies() []api.Policy {
	return []api.Policy{{}, {Deny: killed}, full(), other(), odd()}
}

// invalidLists are lists that are not valid, of each kind.
func invalidLists() []api.List {
	return []api.List{
		listOf(0, plain("read")), listOf(3), listOf(255, plain("read")), allow(plain("")), deny(plain("nothing")), allow(plain("@file")),
		allow(plain("write"), plain("read")), deny(plain("read"), plain("read")), allow(failing("read", 4096)), deny(acting("read", api.Allow)), deny(acting("read", 1)),
	}
}

// sameList and samePolicy compare by what is in lists: an empty one is as good as nil.
func sameList(a, b api.List) bool { return a.Mode == b.Mode && slices.Equal(a.Calls, b.Calls) }
func samePolicy(a, b api.Policy) bool {
	return slices.Equal(a.Arches, b.Arches) && sameList(a.Filter, b.Filter) && a.Deny == b.Deny && sameList(a.Log, b.Log) &&
		slices.Equal(a.Families, b.Families) && a.FamiliesMode == b.FamiliesMode && a.Spaces == b.Spaces &&
		a.WriteExecute == b.WriteExecute && a.Personality == b.Personality && a.Realtime == b.Realtime && a.NoPrivileges == b.NoPrivileges
}

// short is a thing for a message.
func short(x any) string {
	s := fmt.Sprintf("%+v", x)
	if len(s) > 600 {
		return s[:600] + ".."
	}
	return s
}

// The helpers below end a test at its first difference: those that go through many values would tell thousands.

// wantKey holds whether a key is of this layer.
func wantKey(t *testing.T, key string, want bool) {
	t.Helper()
	if got := filter.Key(key); got != want {
		t.Fatalf("Key of %q: %t", key, got)
	}
}

// wantErrno holds the action for a value, and that Set makes it the policy's.
func wantErrno(t *testing.T, value string, action uint32, e api.Errno) {
	t.Helper()
	if got, fault := filter.Errno(value); got != action || fault != e {
		t.Fatalf("Errno of %q: %#x, %d; want %#x, %d", value, got, int(fault), action, int(e))
	}
	want, notes := full(), []api.Note(nil)
	if e == 0 {
		want.Deny = action
	} else {
		notes = []api.Note{noted(e, first(value))}
	}
	wantSet(t, full(), at(keyErrno, value), want, notes...)
}

// wantNoErrno holds that a value is none of SystemCallErrorNumber.
func wantNoErrno(t *testing.T, value string) {
	t.Helper()
	wantErrno(t, value, 0, 160)
}

// wantErrnoAsChapter holds a value against the chapter's words.
func wantErrnoAsChapter(t *testing.T, value string) {
	t.Helper()
	action, e := errnoByChapter(value)
	if got, fault := filter.Errno(value); got != action || fault != e {
		t.Fatalf("Errno of %q: %#x, %d; want %#x, %d", value, got, int(fault), action, int(e))
	}
}

// wantSet holds what an assignment makes of a policy.
func wantSet(t *testing.T, p api.Policy, a api.Assign, want api.Policy, notes ...api.Note) {
	t.Helper()
	got, gotNotes := filter.Set(p, a)
	if !samePolicy(got, want) || !slices.Equal(gotNotes, notes) {
		t.Fatalf("Set of %s by %s:\n%s %s; want\n%s %s", short(p), short(a), short(got), short(gotNotes), short(want), short(notes))
	}
}

// wantSetAsChapter holds what an assignment makes of a policy against the chapter's words; it tells the policy.
func wantSetAsChapter(t *testing.T, p api.Policy, a api.Assign) api.Policy {
	t.Helper()
	want, notes := setByChapter(p, a)
	wantSet(t, p, a, want, notes...)
	return want
}

// wantFilter and wantLog hold what a value makes of one list, with all else of the policy filled.
func wantFilter(t *testing.T, l api.List, value string, want api.List, notes ...api.Note) {
	t.Helper()
	p, after := full(), full()
	p.Filter, after.Filter = l, want
	wantSet(t, p, at(keyFilter, value), after, notes...)
}

func wantLog(t *testing.T, l api.List, value string, want api.List, notes ...api.Note) {
	t.Helper()
	p, after := full(), full()
	p.Log, after.Log = l, want
	wantSet(t, p, at(keyLog, value), after, notes...)
}

// inTurn is the policy after assignments, and all their notes.
func inTurn(p api.Policy, l ...api.Assign) (api.Policy, []api.Note) {
	var all []api.Note
	for _, a := range l {
		next, notes := filter.Set(p, a)
		p, all = next, append(all, notes...)
	}
	return p, all
}

// wantInTurn holds what assignments make of a policy one after another.
func wantInTurn(t *testing.T, p api.Policy, l []api.Assign, want api.Policy, notes ...api.Note) {
	t.Helper()
	got, gotNotes := inTurn(p, l...)
	if !samePolicy(got, want) || !slices.Equal(gotNotes, notes) {
		t.Fatalf("%s of %s:\n%s %s; want\n%s %s", short(l), short(p), short(got), short(gotNotes), short(want), short(notes))
	}
}

// TestExamples is of P17.2: the chapter's examples.
func TestExamples(t *testing.T) {
	wantInTurn(t, api.Policy{}, []api.Assign{at(keyFilter, "~kill:EPERM"), at(keyErrno, "ENOSYS")}, api.Policy{Filter: deny(failing("kill", 1)), Deny: failed + 38})
	wantInTurn(t, api.Policy{}, []api.Assign{at(keyLog, "read:5")}, api.Policy{Log: allow(plain("read"))}, noted(161, "read:5"))
	wantInTurn(t, api.Policy{}, []api.Assign{at(keyErrno, "EPERM"), at(keyErrno, "")}, api.Policy{Deny: killed})
	wantInTurn(t, api.Policy{}, []api.Assign{at(keyErrno, "EPERM"), at(keyErrno, ""), at(keyErrno, "5000")}, api.Policy{Deny: killed}, noted(160, "5000"))
	wantErrno(t, "5000", 0, 160)
}

// TestKey is of P17.1: the three keys, and keys near them.
func TestKey(t *testing.T) {
	wantKey(t, "SystemCallFilter", true)
	wantKey(t, "SystemCallLog", true)
	wantKey(t, "SystemCallErrorNumber", true)
	wantKey(t, "", false)
	for _, key := range keys() {
		wantKey(t, key, true)
		wantKey(t, strings.ToLower(key), false)
		wantKey(t, strings.ToUpper(key), false)
		wantKey(t, strings.ToLower(key[:1])+key[1:], false)
		for _, white := range []string{" ", "\t", "\r", "\n", "\x00", "=", "~", "."} {
			wantKey(t, key+white, false)
			wantKey(t, white+key, false)
		}
		for i := range len(key) {
			wantKey(t, key[:i], false)
			wantKey(t, key[i+1:], false)
			wantKey(t, key[:i]+key[i+1:], false)
			wantKey(t, key[:i]+" "+key[i:], false)
			wantKey(t, key[:i]+string(key[i]^0x20)+key[i+1:], false)
			wantKey(t, key[:i]+key[i:i+1]+key[i:], false)
		}
		for _, more := range append(keys(), "s", "Number", "Filters", key, "\xff", "é") {
			wantKey(t, key+more, false)
			wantKey(t, more+key, false)
		}
	}
}

// otherKeys are keys of other layers, and such as no layer has.
func otherKeys() []string {
	l := []string{
		"SystemCallArchitectures", "RestrictAddressFamilies", "RestrictNamespaces", "MemoryDenyWriteExecute", "LockPersonality", "RestrictRealtime", "NoNewPrivileges",
		"", " ", "SystemCall", "SystemCallErrno", "ErrorNumber", "Filter", "Log", "Deny", "Service", "ExecStart", "kill", "EPERM", "\x00", "\xff", strings.Repeat("k", 1000),
	}
	for _, key := range keys() {
		l = append(l, " "+key, key+" ", strings.ToLower(key), strings.ToUpper(key), key+"s", key[1:], key[:len(key)-1], key+key)
	}
	return l
}

// TestOtherKeys is of P17.1 and P17.2: they are not of this layer, and do nothing.
func TestOtherKeys(t *testing.T) {
	for _, key := range otherKeys() {
		wantKey(t, key, false)
		for _, p := range append(policies(), api.Policy{Filter: invalidLists()[0], Log: invalidLists()[1]}) {
			for _, value := range []string{"", " ", "read", "~read:5", "nothing", "EPERM", "kill", "5000", "yes", "~"} {
				wantSet(t, p, at(key, value), p)
			}
		}
	}
}

// TestErrnoNames is of P17.1: names of errnos, and names near them.
func TestErrnoNames(t *testing.T) {
	for name, n := range errnosByChapter() {
		wantErrno(t, name, failed+n, 0)
		wantErrno(t, strconv.Itoa(int(n)), failed+n, 0)
		wantNoErrno(t, strings.ToLower(name))
		wantNoErrno(t, name[:1]+strings.ToLower(name[1:]))
		wantNoErrno(t, strings.ToLower(name[:1])+name[1:])
		for i := range len(name) {
			wantErrnoAsChapter(t, name[:i])
			wantErrnoAsChapter(t, name[i+1:])
			wantErrnoAsChapter(t, name[:i]+name[i+1:])
		}
		for _, piece := range []string{" ", "\t", "\r", "\n", "\x00", "S", "~", ":", "-", "+", "1", "EPERM", "kill"} {
			wantNoErrno(t, name+piece)
			wantNoErrno(t, piece+name)
		}
	}
	for _, name := range []string{"ESRCH", "ENOTHING", "E", "PERM", "nothing", "EPERM EIO", "EPERM,EIO", "~EPERM", "Fail", "KillProcess", "none", "no", "yes", "EWOULDBLOCK", "EOPNOTSUP"} {
		wantNoErrno(t, name)
	}
}

// TestErrnoNumbers is of P17.1: numbers in up to four digits and more.
func TestErrnoNumbers(t *testing.T) {
	for n := range 12000 {
		s := strconv.Itoa(n)
		if n <= 4095 {
			wantErrno(t, s, failed+uint32(n), 0)
			wantErrno(t, fmt.Sprintf("%04d", n), failed+uint32(n), 0)
		} else {
			wantNoErrno(t, s)
		}
		for width := 1; width <= 6; width++ {
			wantErrnoAsChapter(t, fmt.Sprintf("%0*d", width, n))
		}
		wantErrnoAsChapter(t, "-"+s)
		wantErrnoAsChapter(t, "+"+s)
	}
	for s, n := range map[string]uint32{"0": 0, "00": 0, "000": 0, "0000": 0, "1": 1, "01": 1, "001": 1, "0001": 1, "010": 10, "0077": 77, "4095": 4095, "999": 999} {
		wantErrno(t, s, failed+n, 0)
	}
	for _, s := range []string{
		"4096", "5000", "9999", "65535", "65536", "65537", "10000", "4294967296", "4294967297", "18446744073709551616", "18446744073709551617", strings.Repeat("0", 61), strings.Repeat("1", 1000),
		"00000", "00001", "04095", "000000", "-0", "-1", "+0", "+1", "-4095", "+4095", "- 1", "--1", "-", "+", "0x1", "0X1", "1_0", "0b1", "0o7", "1.0", "1.", ".5", "1e1", "1 ", " 1", "1\t", "\t1", "1\r", "1\n", "1 1", "1,1", "1a", "a1", "\u0661", "\uff11",
	} {
		wantNoErrno(t, s)
	}
}

// TestErrnoKill is of P17.1: the empty value and `kill`, and values near them.
func TestErrnoKill(t *testing.T) {
	wantErrno(t, "", 0x80000000, 0)
	wantErrno(t, "kill", 0x80000000, 0)
	for _, value := range []string{"Kill", "KILL", "kILL", "kilL", "kiLl", "kIll", "kil", "ill", "k", "kills", "killkill", "kill kill", "SIGKILL", "~kill", "~", ":", "kill:", ":kill", "kill:EPERM", "read:kill", "kill=", "\"kill\"", "''", "\"\""} {
		wantNoErrno(t, value)
	}
	for _, white := range []string{" ", "\t", "\r", "\n", "\v", "\f", "\x00", "\u00a0", "\xff", "  ", " \t\r"} {
		wantNoErrno(t, white)
		wantNoErrno(t, white+"kill")
		wantNoErrno(t, "kill"+white)
		wantNoErrno(t, "ki"+white+"ll")
		wantNoErrno(t, white+"kill"+white)
	}
}

// TestErrnoShort is of P17.1: all short values of the bytes that count, and each byte.
func TestErrnoShort(t *testing.T) {
	for c := range 256 {
		for _, s := range []string{"", "kill", "EIO", "5", "405", "409"} {
			for i := range len(s) + 1 {
				wantErrnoAsChapter(t, s[:i]+string([]byte{byte(c)})+s[i:])
				if i < len(s) {
					wantErrnoAsChapter(t, s[:i]+string([]byte{byte(c)})+s[i+1:])
				}
			}
		}
	}
	var from func(s string, n int)
	from = func(s string, n int) {
		wantErrnoAsChapter(t, s)
		if n == 0 {
			return
		}
		for _, c := range []string{"0", "1", "4", "5", "9", "-", "+", " ", "x", "_", "kill", "E", "IO", "PERM", "~"} {
			from(s+c, n-1)
		}
	}
	from("", 5)
}

// TestErrnoText is of P17.2: a value that is none is noted with its first 60 bytes, whatever they are, and Deny stays.
func TestErrnoText(t *testing.T) {
	for _, n := range []int{1, 2, 58, 59, 60, 61, 62, 119, 120, 121, 1000, 65536} {
		for _, piece := range []string{"x", "é", "\xff", "\u20ac", "ab ", " ", "~"} {
			value := strings.Repeat(piece, n)[:n]
			for _, p := range policies() {
				wantSet(t, p, at(keyErrno, value), p, noted(160, value[:min(n, 60)]))
			}
		}
	}
	// Nothing is read up to the 60th byte alone.
	wantNoErrno(t, "EPERM"+strings.Repeat(" ", 60))
	wantNoErrno(t, "kill"+strings.Repeat("\t", 56))
	wantNoErrno(t, strings.Repeat(" ", 60)+"kill")
}

// TestSetErrno is of P17.2 and P17.3: Deny, whatever it was, and nothing else.
func TestSetErrno(t *testing.T) {
	for _, p := range policies() {
		for value, action := range map[string]uint32{"": 0x80000000, "kill": 0x80000000, "EPERM": 0x50001, "1": 0x50001, "0001": 0x50001, "0": 0x50000, "ENOSYS": 0x50026, "38": 0x50026, "39": 0x50027, "4095": 0x50fff} {
			want := p
			want.Deny = action
			wantSet(t, p, at(keyErrno, value), want)
		}
		for _, value := range []string{" ", "4096", "5000", "eperm", "Kill", "EPERM EIO", "00001", "-1", "~", "nothing"} {
			wantSet(t, p, at(keyErrno, value), p, noted(160, value))
		}
	}
}

// TestSetFilter is of P17.2: the list in each mode, and that suffixes are permitted: they count in inverted values.
func TestSetFilter(t *testing.T) {
	wantFilter(t, none(), "read write", allow(plain("read"), plain("write")))
	wantFilter(t, none(), "~read write", deny(plain("read"), plain("write")))
	wantFilter(t, none(), "~read:EIO write:kill close", deny(plain("close"), failing("read", 5), killing("write")))
	wantFilter(t, none(), "read:EIO", allow(plain("read")), noted(161, "read:EIO"))
	a, d := allow(plain("close"), failing("read", 9)), deny(plain("close"), failing("read", 9))
	wantFilter(t, a, "bind read", allow(plain("bind"), plain("close"), plain("read")))
	wantFilter(t, a, "bind:5", allow(plain("bind"), plain("close"), failing("read", 9)), noted(161, "bind:5"))
	wantFilter(t, a, "~read", allow(plain("close")))
	wantFilter(t, a, "~read:5 bind:kill", allow(killing("bind"), plain("close"), failing("read", 5)))
	wantFilter(t, a, "~write:0", allow(plain("close"), failing("read", 9), failing("write", 0)))
	wantFilter(t, d, "read bind", deny(plain("close")))
	wantFilter(t, d, "read:5", deny(plain("close")), noted(161, "read:5"))
	wantFilter(t, d, "~read bind", deny(plain("bind"), plain("close"), plain("read")))
	wantFilter(t, d, "~read:5 bind:kill", deny(killing("bind"), plain("close"), failing("read", 5)))
	wantFilter(t, none(), "~@basic-io:1", deny(failing("close", 1), failing("read", 1), failing("write", 1)))
	wantFilter(t, allow(), "~@basic-io:kill", allow(killing("close"), killing("read"), killing("write")))
}

// TestSetLog is of P17.2: the list in each mode, and that suffixes are not permitted: the calls are taken all the same.
func TestSetLog(t *testing.T) {
	wantLog(t, none(), "read write", allow(plain("read"), plain("write")))
	wantLog(t, none(), "~read write", deny(plain("read"), plain("write")))
	wantLog(t, none(), "read:5", allow(plain("read")), noted(161, "read:5"))
	wantLog(t, none(), "~read:5", deny(plain("read")), noted(161, "read:5"))
	wantLog(t, none(), "~read:kill write close:EPERM", deny(plain("close"), plain("read"), plain("write")), noted(161, "read:kill"), noted(161, "close:EPERM"))
	a, d := allow(plain("close"), plain("read")), deny(plain("close"), plain("read"))
	wantLog(t, a, "bind", allow(plain("bind"), plain("close"), plain("read")))
	wantLog(t, a, "~read", allow(plain("close")))
	wantLog(t, a, "~read:5", allow(plain("close")), noted(161, "read:5"))
	wantLog(t, a, "~bind:5", a, noted(161, "bind:5"))
	wantLog(t, d, "read", deny(plain("close")))
	wantLog(t, d, "read:kill", deny(plain("close")), noted(161, "read:kill"))
	wantLog(t, d, "~bind:kill", deny(plain("bind"), plain("close"), plain("read")), noted(161, "bind:kill"))
	wantLog(t, none(), "~@basic-io:1", deny(plain("close"), plain("read"), plain("write")), noted(161, "@basic-io:1"))
	wantLog(t, none(), "~read:x", deny(), noted(160, "read:x"))
}

// TestNoWords is of P17.2: values of no words clear a list and its mode.
func TestNoWords(t *testing.T) {
	for _, l := range []api.List{none(), allow(), deny(), allow(plain("read")), deny(plain("read")), full().Filter, other().Filter} {
		for _, value := range []string{"", " ", "\t", "\r", " \t\r ", strings.Repeat(" ", 1000)} {
			wantFilter(t, l, value, none())
			wantLog(t, l, value, none())
		}
	}
	// White space is no empty value where there are no words to speak of.
	for _, value := range []string{" ", "\t", "\r", " \t\r "} {
		wantNoErrno(t, value)
	}
}

// TestOneAfterAnother is of P17.2: several values of a key, and of all keys.
func TestOneAfterAnother(t *testing.T) {
	p := api.Policy{}
	f := func(values ...string) (l []api.Assign) {
		for _, v := range values {
			l = append(l, at(keyFilter, v))
		}
		return l
	}
	wantInTurn(t, p, f("read write", "~write"), api.Policy{Filter: allow(plain("read"))})
	wantInTurn(t, p, f("~read:5", "write", "~write"), api.Policy{Filter: deny(failing("read", 5), plain("write"))})
	wantInTurn(t, p, f("~read", "", "read"), api.Policy{Filter: allow(plain("read"))})
	wantInTurn(t, p, f("read", " ", "~read", "~read:kill"), api.Policy{Filter: deny(killing("read"))})
	wantInTurn(t, p, f("a", "~b @none", "read:5", "@nest"), api.Policy{Filter: allow(plain("read"))}, noted(90, "a"), noted(90, "b"), noted(110, "@none"), noted(161, "read:5"), noted(111, "@nest"))
	wantInTurn(t, p, []api.Assign{at(keyFilter, "~read:5"), at(keyLog, "read write"), at(keyErrno, "5"), at(keyLog, "~write"), at(keyFilter, "~write"), at(keyErrno, "x"), at(keyFilter, "nothing")},
		api.Policy{Filter: deny(failing("read", 5), plain("write")), Deny: failed + 5, Log: allow(plain("read"))}, noted(160, "x"), noted(90, "nothing"))
	wantInTurn(t, p, []api.Assign{at(keyErrno, "EPERM"), at(keyErrno, "kill")}, api.Policy{Deny: killed})
	wantInTurn(t, p, []api.Assign{at(keyErrno, "kill"), at(keyErrno, "EPERM"), at(keyErrno, "EPERN")}, api.Policy{Deny: failed + 1}, noted(160, "EPERN"))
	wantInTurn(t, full(), []api.Assign{at(keyErrno, ""), at(keyFilter, ""), at(keyLog, "")}, func() api.Policy {
		p := full()
		p.Filter, p.Log, p.Deny = none(), none(), killed
		return p
	}())
}

// TestInvalidLists is of P17.2: such a list stays without a note, and hinders none of the rest.
func TestInvalidLists(t *testing.T) {
	for _, l := range invalidLists() {
		for _, value := range []string{"", " ", "~", "read", "~read:5", "read:5", "nothing", "@nest", ":", "a:x"} {
			wantFilter(t, l, value, l)
			wantLog(t, l, value, l)
			for _, m := range invalidLists()[:3] {
				p := full()
				p.Filter, p.Log = l, m
				for _, key := range keys() {
					wantSetAsChapter(t, p, at(key, value))
				}
			}
		}
		p := full()
		p.Filter = l
		want := p
		want.Log = allow(plain("write"))
		wantInTurn(t, p, []api.Assign{at(keyLog, ""), at(keyFilter, "read"), at(keyLog, "write:5")}, want, noted(161, "write:5"))
		p.Filter, p.Log = full().Filter, l
		want = p
		want.Filter, want.Deny = deny(failing("write", 5)), failed+2
		wantInTurn(t, p, []api.Assign{at(keyFilter, ""), at(keyLog, "read"), at(keyErrno, "ENOENT"), at(keyFilter, "~write:5")}, want)
	}
}

// noisy are values of the keys that have several notes, or one.
func noisy() map[string]string {
	return map[string]string{
		keyFilter: "a @a :a read:a @nest read:5 a read b",
		keyLog:    "~a @a :a read:a @nest read:5 a read b",
		keyErrno:  "a @a :a",
	}
}

// TestPlaces is of P17.2: each note has the file and the line of its assignment, whatever they are, in the order of the words.
func TestPlaces(t *testing.T) {
	for _, file := range []string{"", " ", "a.service", "10-a.conf", "\x00\xff", strings.Repeat("f", 1000)} {
		for _, line := range []int{0, 1, 2, 1000, 65536, -1, math.MaxInt, math.MinInt} {
			in := func(e api.Errno, text string) api.Note { return api.Note{File: file, Line: line, Err: e, Text: text} }
			several := []api.Note{in(90, "a"), in(110, "@a"), in(161, ":a"), in(160, "read:a"), in(111, "@nest"), in(161, "read:5"), in(90, "a"), in(90, "b")}
			for key, value := range noisy() {
				a := api.Assign{File: file, Line: line, Section: "Service", Key: key, Value: value}
				want, notes := full(), several
				switch key {
				case keyFilter:
					want.Filter = allow(failing("close", 3), plain("read"), killing("write"))
				case keyLog:
					want.Log = deny(plain("bind"), plain("read"))
				case keyErrno:
					notes = []api.Note{in(160, "a @a :a")}
				}
				wantSet(t, full(), a, want, notes...)
			}
		}
	}
	one, two := at(keyFilter, "x y"), at(keyLog, "z")
	two.File, two.Line = "b.conf", 9
	_, notes := inTurn(api.Policy{}, one, two, one)
	if want := []api.Note{noted(90, "x"), noted(90, "y"), {File: "b.conf", Line: 9, Err: 90, Text: "z"}, noted(90, "x"), noted(90, "y")}; !slices.Equal(notes, want) {
		t.Errorf("%v", notes)
	}
}

// TestSection is of P17.2: the section is not looked at.
func TestSection(t *testing.T) {
	for _, section := range []string{"", "Service", "service", "Unit", "Install", "[Service]", " ", "\xff", "SystemCallFilter", strings.Repeat("S", 1000)} {
		for _, p := range policies() {
			for _, key := range append(keys(), "LockPersonality") {
				for _, value := range []string{"", "read", "~read:5 nothing", "EPERM", "5000"} {
					a := at(key, value)
					want, notes := setByChapter(p, a)
					a.Section = section
					wantSet(t, p, a, want, notes...)
				}
			}
		}
	}
}

// TestIsolation is of P17.3: with every part filled, only what the key names becomes another.
func TestIsolation(t *testing.T) {
	for _, p := range policies() {
		for _, value := range []string{"", " ", "read", "~kill:5", "kill", "EPERM", "0", "5000", "nothing", "~@file", "@nest", "~"} {
			for _, key := range keys() {
				got, _ := filter.Set(p, at(key, value))
				switch key {
				case keyFilter:
					got.Filter = p.Filter
				case keyLog:
					got.Log = p.Log
				case keyErrno:
					got.Deny = p.Deny
				}
				if !samePolicy(got, p) {
					t.Errorf("%s=%s changed %s to %s", key, value, short(p), short(got))
				}
			}
		}
	}
	// Each part by itself, so that none stands for another.
	for _, p := range []api.Policy{
		{Arches: []int{2}}, {Filter: deny(killing("read"))}, {Deny: 9}, {Log: allow(plain("read"))}, {Families: []uint32{5}}, {FamiliesMode: 1}, {Spaces: 8}, {WriteExecute: true}, {Personality: true}, {Realtime: true}, {NoPrivileges: true},
	} {
		wantSet(t, p, at("LockPersonality", "yes"), p)
		for _, key := range keys() {
			wantSetAsChapter(t, p, at(key, "bind"))
			wantSetAsChapter(t, p, at(key, "4"))
		}
	}
}

// word is a word that does something, or is wrong.
func word(r *rand.Rand) string {
	names := append(calls.Names(), groups.Names()...)
	w := names[r.Intn(len(names))]
	if r.Intn(8) == 0 {
		w = []string{"", "nothing", "@none", "@", "~", "EPERM", "5"}[r.Intn(7)]
	}
	if r.Intn(3) == 0 {
		w += []string{":kill", ":0", ":1", ":4095", ":EPERM", ":ENOSYS", ":x", ":", ":4096"}[r.Intn(9)]
	}
	return w
}

// value is a value of a key that is made.
func value(r *rand.Rand, key string) string {
	if key == keyErrno || r.Intn(20) == 0 {
		l := []string{"", "kill", "EPERM", "ENOSYS", "EIO", "5000", "x", "Kill", " ", "read", "00001", strconv.Itoa(r.Intn(6000)), strconv.Itoa(r.Intn(4096)), strings.Repeat("E", r.Intn(130))}
		return l[r.Intn(len(l))]
	}
	var l []string
	for range r.Intn(5) {
		l = append(l, word(r))
	}
	return []string{"", "~", "~", "~ ", " "}[r.Intn(5)] + strings.Join(l, []string{" ", "\t", "\r", "  "}[r.Intn(4)])
}

// assign is an assignment that is made.
func assign(r *rand.Rand) api.Assign {
	key := keys()[r.Intn(3)]
	if r.Intn(12) == 0 {
		l := otherKeys()
		key = l[r.Intn(len(l))]
	}
	return api.Assign{
		File:    []string{"", "a.service", "b.conf"}[r.Intn(3)],
		Line:    r.Intn(1000),
		Section: []string{"Service", "Unit", ""}[r.Intn(3)],
		Key:     key,
		Value:   value(r, key),
	}
}

// TestMade is of P17.2: made assignments on the policies that they lead to.
func TestMade(t *testing.T) {
	r := rand.New(rand.NewSource(172))
	for range 300 {
		p := policies()[r.Intn(5)]
		for range 60 {
			p = wantSetAsChapter(t, p, assign(r))
		}
	}
}

// valuesOf are the values of a key.
func valuesOf(l []api.Assign, key string) (of []string) {
	for _, a := range l {
		if a.Key == key {
			of = append(of, a.Value)
		}
	}
	return of
}

// denyOf is what the last SystemCallErrorNumber without an error says.
func denyOf(l []api.Assign, before uint32) uint32 {
	for _, value := range valuesOf(l, keyErrno) {
		if action, e := errnoByChapter(value); e == 0 {
			before = action
		}
	}
	return before
}

// wantSequence holds a sequence against what P17.4 says of it, beginning with policies without lists.
func wantSequence(t *testing.T, l []api.Assign) {
	t.Helper()
	for _, p := range policies() {
		p.Filter, p.Log = none(), none()
		want := p
		want.Filter, _ = fold.Fold(valuesOf(l, keyFilter), true)
		want.Log, _ = fold.Fold(valuesOf(l, keyLog), false)
		want.Deny = denyOf(l, p.Deny)
		if got, _ := inTurn(p, l...); !samePolicy(got, want) {
			t.Fatalf("%s of %s:\n%s; want\n%s", short(l), short(p), short(got), short(want))
		}
	}
}

// TestSequences is of P17.4: assignments of all keys mixed.
func TestSequences(t *testing.T) {
	wantSequence(t, nil)
	for _, key := range keys() {
		wantSequence(t, []api.Assign{at(key, "")})
		wantSequence(t, []api.Assign{at(key, "x")})
	}
	wantSequence(t, []api.Assign{at(keyErrno, "x"), at(keyErrno, "y")})
	wantSequence(t, []api.Assign{at(keyErrno, "5"), at(keyErrno, "x"), at(keyErrno, "6"), at(keyErrno, "7000")})
	wantSequence(t, []api.Assign{at(keyFilter, "~read:5"), at(keyErrno, "5"), at(keyLog, "~read:5"), at("LockPersonality", "5"), at(keyFilter, "read"), at(keyLog, "write"), at(keyErrno, "")})
	r := rand.New(rand.NewSource(174))
	for range 1500 {
		var l []api.Assign
		for range r.Intn(15) {
			l = append(l, assign(r))
		}
		wantSequence(t, l)
	}
}

// TestMany is of P17.2 and P0.1: a value as long as files can be, and many notes.
func TestMany(t *testing.T) {
	many := strings.Repeat(": ", api.MaxBytes/2)
	for _, key := range keys()[:2] {
		p, notes := filter.Set(full(), at(key, many))
		if !samePolicy(p, full()) || len(notes) != api.MaxBytes/2 {
			t.Errorf("%s: %s, %d notes", key, short(p), len(notes))
		}
		for _, n := range notes {
			if n != noted(161, ":") {
				t.Fatalf("%+v", n)
			}
		}
	}
	wantSet(t, full(), at(keyErrno, many), full(), noted(160, many[:60]))
	wantNoErrno(t, strings.Repeat("1", api.MaxBytes))
	wantKey(t, strings.Repeat(keyFilter, 4096), false)
}

// guarded is a policy whose lists have more behind them, up to their capacity; watched is all that they have.
func guarded(p api.Policy) api.Policy {
	p.Arches = append(slices.Clone(p.Arches), 5, 6, 7)[:len(p.Arches)]
	p.Filter.Calls = append(slices.Clone(p.Filter.Calls), plain("guard"), killing("guard"))[:len(p.Filter.Calls)]
	p.Log.Calls = append(slices.Clone(p.Log.Calls), plain("guard"), killing("guard"))[:len(p.Log.Calls)]
	p.Families = append(slices.Clone(p.Families), 5, 6, 7)[:len(p.Families)]
	return p
}

func watched(p api.Policy) string {
	return fmt.Sprint(p.Arches[:cap(p.Arches)], p.Filter.Calls[:cap(p.Filter.Calls)], p.Log.Calls[:cap(p.Log.Calls)], p.Families[:cap(p.Families)])
}

// overwrite overwrites what a list has, up to its capacity.
func overwrite[T any](l []T, by T) {
	for i := range l[:cap(l)] {
		l[:cap(l)][i] = by
	}
}

// changed overwrites what an answer has.
func changed(p api.Policy, notes []api.Note) {
	overwrite(p.Arches, 99)
	overwrite(p.Filter.Calls, acting("changed", 99))
	overwrite(p.Log.Calls, acting("changed", 98))
	overwrite(p.Families, 97)
	overwrite(notes, noted(5, "changed"))
}

// passed are assignments of each kind.
func passed() []api.Assign {
	var l []api.Assign
	for _, key := range append(keys(), "LockPersonality", "") {
		for _, value := range []string{"", " ", "read write bind @file", "~read:5 write bind @file:kill kill", "~close read", "nothing @none", "~", "EPERM", "kill", "5000", "x"} {
			l = append(l, at(key, value))
		}
	}
	return l
}

// TestPassed is of P0.4: what is passed stays, also behind its length, and shares nothing with what is returned; neither do two answers.
func TestPassed(t *testing.T) {
	for _, p := range append(policies(), api.Policy{Filter: invalidLists()[6], Log: invalidLists()[7]}, api.Policy{Filter: full().Log, Log: full().Log}) {
		for _, a := range passed() {
			in := guarded(p)
			before := watched(in)
			want, wantNotes := setByChapter(p, a)
			got, notes := filter.Set(in, a)
			again, others := filter.Set(in, a)
			changed(got, notes)
			if now := watched(in); now != before {
				t.Fatalf("%s changed %s to %s", short(a), before, now)
			}
			if !samePolicy(again, want) || !slices.Equal(others, wantNotes) {
				t.Fatalf("%s: what was returned shares memory: %s %s; want %s %s", short(a), short(again), short(others), short(want), short(wantNotes))
			}
		}
	}
}

// TestApart is of P0.4: the lists of one answer share no memory, also where those that were passed do.
func TestApart(t *testing.T) {
	both := []api.Call{plain("bind"), plain("read")}
	for _, a := range passed() {
		p := api.Policy{Filter: api.List{Mode: 1, Calls: both}, Log: api.List{Mode: 2, Calls: both}}
		want, _ := setByChapter(p, a)
		got, _ := filter.Set(p, a)
		overwrite(got.Filter.Calls, acting("changed", 99))
		if !sameList(got.Log, want.Log) {
			t.Fatalf("%s: %s", short(a), short(got.Log))
		}
		if !slices.Equal(both, []api.Call{plain("bind"), plain("read")}) {
			t.Fatalf("%s: %v", short(a), both)
		}
	}
}

// TestZero is of P0.1 and P0.2: zero values, lists that are empty and not nil, and nothing but 0 beside an error.
func TestZero(t *testing.T) {
	wantSet(t, api.Policy{}, api.Assign{}, api.Policy{})
	wantSet(t, full(), api.Assign{}, full())
	empty := api.Policy{Arches: []int{}, Filter: api.List{Calls: []api.Call{}}, Log: api.List{Mode: 1, Calls: []api.Call{}}, Families: []uint32{}}
	wantSet(t, empty, api.Assign{}, api.Policy{Log: allow()})
	wantSet(t, empty, at(keyLog, "read"), api.Policy{Log: allow(plain("read"))})
	wantSet(t, empty, at(keyFilter, "read"), api.Policy{Filter: allow(plain("read")), Log: allow()})
	wantSet(t, api.Policy{}, api.Assign{Key: keyErrno}, api.Policy{Deny: killed})
	wantSet(t, api.Policy{}, api.Assign{Key: keyErrno, Value: "x"}, api.Policy{}, api.Note{Err: 160, Text: "x"})
	wantSet(t, api.Policy{}, api.Assign{Key: keyFilter}, api.Policy{})
	for _, value := range []string{"x", " ", "4096", "00001"} {
		if action, e := filter.Errno(value); action != 0 || e != api.ErrErrno {
			t.Errorf("Errno of %q: %#x, %d", value, action, int(e))
		}
	}
}
