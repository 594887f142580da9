package policy_test

import (
	"fmt"
	"math"
	"math/rand"
	"slices"
	"strings"
	"testing"

	"vestibule/api"
	"vestibule/calls"
	"vestibule/filter"
	"vestibule/policy"
	"vestibule/restrict"
	"vestibule/unit"
)

// The actions of the chapter by their numbers, the modes, and all flags of namespaces.
const (
	killed     = 0x80000000
	failed     = 0x50000
	noList     = 0
	allowList  = 1
	denyList   = 2
	everySpace = 0x7e020080
)

// filterKeys are the keys of layer 17, restrictKeys those of layer 18, truths those of them that are true or false.
func filterKeys() []string {
	return []string{"SystemCallFilter", "SystemCallLog", "SystemCallErrorNumber"}
}

func truths() []string {
	return []string{"MemoryDenyWriteExecute", "LockPersonality", "RestrictRealtime", "NoNewPrivileges"}
}

func restrictKeys() []string {
	return append([]string{"SystemCallArchitectures", "RestrictAddressFamilies", "RestrictNamespaces"}, truths()...)
}

func keys() []string { return append(filterKeys(), restrictKeys()...) }

// archesByChapter, familiesByChapter, spacesByChapter and errnosByChapter are the tables of the layers 8 and 10, by the numbers.
func archesByChapter() []string { return []string{"x86-64", "x86", "x32", "arm", "arm64", "riscv64"} }

func familiesByChapter() map[uint32]string {
	return map[uint32]string{1: "AF_UNIX", 2: "AF_INET", 10: "AF_INET6", 16: "AF_NETLINK", 17: "AF_PACKET", 31: "AF_BLUETOOTH", 38: "AF_ALG", 40: "AF_VSOCK"}
}

func spacesByChapter() map[uint64]string {
	return map[uint64]string{0x80: "time", 0x20000: "mnt", 0x2000000: "cgroup", 0x4000000: "uts", 0x8000000: "ipc", 0x10000000: "user", 0x20000000: "pid", 0x40000000: "net"}
}

func errnosByChapter() map[uint32]string {
	return map[uint32]string{
		1: "EPERM", 2: "ENOENT", 5: "EIO", 9: "EBADF", 11: "EAGAIN", 12: "ENOMEM", 13: "EACCES", 14: "EFAULT", 16: "EBUSY",
		19: "ENODEV", 22: "EINVAL", 38: "ENOSYS", 95: "EOPNOTSUPP", 97: "EAFNOSUPPORT", 110: "ETIMEDOUT",
	}
}

// numbered are the numbers of a table, in ascending order.
func numbered[N uint32 | uint64](table map[N]string) []N {
	var l []N
	for n := range table {
		l = append(l, n)
	}
	slices.Sort(l)
	return l
}

func families() []uint32 { return numbered(familiesByChapter()) }
func flags() []uint64    { return numbered(spacesByChapter()) }

// subset are the elements of a list whose bits are set.
func subset[E any](l []E, bits int) []E {
	var some []E
	for i, x := range l {
		if bits>>i&1 == 1 {
			some = append(some, x)
		}
	}
	return some
}

// first is the first 60 bytes of a text.
func first(text string) string {
	if len(text) > 60 {
		return text[:60]
	}
	return text
}

// strictly reports whether a list ascends, each element once.
func strictly[E int | uint32 | string](l []E) bool {
	for i := range l {
		for j := range i {
			if l[j] >= l[i] {
				return false
			}
		}
	}
	return true
}

// denies reports whether an action is KillProcess, or Fail with an errno of at most 4095.
func denies(action uint32) bool {
	return action == 0x80000000 || action>>16 == 5 && action%0x10000 <= 4095
}

// listByChapter reports whether a list of calls is valid.
func listByChapter(l api.List, actions bool) bool {
	var names []string
	for _, c := range l.Calls {
		if !slices.Contains(calls.Names(), c.Name) || c.Action != 0 && !(actions && denies(c.Action)) {
			return false
		}
		names = append(names, c.Name)
	}
	return strictly(names) && (l.Mode == 0 && len(names) == 0 || l.Mode == 1 || l.Mode == 2)
}

// mayByChapter is what May should return.
func mayByChapter(p api.Policy) bool {
	for _, a := range p.Arches {
		if a < 0 || a > 5 {
			return false
		}
	}
	for _, f := range p.Families {
		if familiesByChapter()[f] == "" {
			return false
		}
	}
	for bit := range 64 {
		if p.Spaces>>bit&1 == 1 && spacesByChapter()[1<<bit] == "" {
			return false
		}
	}
	moded := p.FamiliesMode == 0 && len(p.Families) == 0 || p.FamiliesMode == 1 || p.FamiliesMode == 2
	return moded && strictly(p.Arches) && strictly(p.Families) && listByChapter(p.Filter, true) && listByChapter(p.Log, false) && denies(p.Deny)
}

// processByChapter is what an assignment makes of a policy.
func processByChapter(p api.Policy, a api.Assign) (api.Policy, []api.Note) {
	text := a.Key
	if a.Section != "Service" {
		text = a.Section
	} else if slices.Contains(filterKeys(), a.Key) {
		return filter.Set(p, a)
	} else if slices.Contains(restrictKeys(), a.Key) {
		return restrict.Set(p, a)
	}
	return p, []api.Note{{File: a.File, Line: a.Line, Err: 100, Text: first(text)}}
}

// failedByChapter reports whether any note is an error.
func failedByChapter(l []api.Note) bool {
	for _, n := range l {
		if n.Err != 90 && n.Err != 100 && n.Err != 110 && n.Err != 161 {
			return true
		}
	}
	return false
}

// resolveByChapter is what Resolve should return.
func resolveByChapter(l []api.Assign) (api.Policy, []api.Note) {
	p := initial()
	var all []api.Note
	for _, a := range l {
		next, notes := processByChapter(p, a)
		p, all = next, append(all, notes...)
	}
	if failedByChapter(all) {
		return api.Policy{}, all
	}
	return p, all
}

// errnoText is how an errno is written.
func errnoText(n uint32) string {
	if name := errnosByChapter()[n]; name != "" {
		return name
	}
	return fmt.Sprint(n)
}

// entryText is how a call of a list is written.
func entryText(c api.Call) string {
	switch c.Action {
	case 0:
		return c.Name
	case killed:
		return c.Name + ":kill"
	}
	return c.Name + ":" + errnoText(c.Action-failed)
}

// listLines are the lines of a list of calls.
func listLines(key string, l api.List) []string {
	if l.Mode == 0 {
		return nil
	}
	ahead, apart, every := " ", " ", " "
	reads := false
	for _, c := range l.Calls {
		every += entryText(c) + " "
		if c.Action != 0 {
			apart += entryText(c) + " "
		} else if c.Name == "read" {
			reads = true
		} else {
			ahead += c.Name + " "
		}
	}
	if l.Mode == 2 {
		return []string{key + "=~" + strings.Trim(every, " ")}
	}
	lines := []string{key + "=read"}
	if !reads {
		lines = append(lines, key+"=~read")
	}
	if ahead != " " {
		lines = append(lines, key+"="+strings.Trim(ahead, " "))
	}
	if apart != " " {
		lines = append(lines, key+"=~"+strings.Trim(apart, " "))
	}
	return lines
}

// linesByChapter are the lines of a valid policy.
func linesByChapter(p api.Policy) []string {
	var lines, arches, of, denied []string
	for _, a := range p.Arches {
		arches = append(arches, archesByChapter()[a])
	}
	if len(arches) > 0 {
		lines = append(lines, "SystemCallArchitectures="+strings.Join(arches, " "))
	}
	lines = append(lines, listLines("SystemCallFilter", p.Filter)...)
	if p.Deny != killed {
		lines = append(lines, "SystemCallErrorNumber="+errnoText(p.Deny-failed))
	}
	lines = append(lines, listLines("SystemCallLog", p.Log)...)
	for _, f := range p.Families {
		of = append(of, familiesByChapter()[f])
	}
	if p.FamiliesMode == 1 && len(of) == 0 {
		lines = append(lines, "RestrictAddressFamilies=none")
	} else if p.FamiliesMode != 0 {
		lines = append(lines, "RestrictAddressFamilies="+[]string{"", "", "~"}[p.FamiliesMode]+strings.Join(of, " "))
	}
	for _, flag := range flags() {
		if p.Spaces&flag != 0 {
			denied = append(denied, spacesByChapter()[flag])
		}
	}
	if p.Spaces != 0 {
		lines = append(lines, "RestrictNamespaces=~"+strings.Join(denied, " "))
	}
	for i, is := range []bool{p.WriteExecute, p.Personality, p.Realtime, p.NoPrivileges} {
		if is {
			lines = append(lines, truths()[i]+"=yes")
		}
	}
	return lines
}

// plain is a call with the list's own action, failing one that fails, killing one that kills, acting one with another action.
func plain(name string) api.Call { return api.Call{Name: name} }
func failing(name string, errno uint32) api.Call {
	return api.Call{Name: name, Action: failed + errno}
}
func killing(name string) api.Call               { return api.Call{Name: name, Action: killed} }
func acting(name string, action uint32) api.Call { return api.Call{Name: name, Action: action} }
func listOf(mode uint8, l ...api.Call) api.List  { return api.List{Mode: mode, Calls: l} }
func allow(l ...api.Call) api.List               { return listOf(allowList, l...) }
func deny(l ...api.Call) api.List                { return listOf(denyList, l...) }

// initial is the initial policy; the functions behind it are policies that differ from it, or from another, in one part.
func initial() api.Policy { return api.Policy{Deny: killed} }

func filtered(p api.Policy, l api.List) api.Policy  { p.Filter = l; return p }
func logged(p api.Policy, l api.List) api.Policy    { p.Log = l; return p }
func denied(p api.Policy, action uint32) api.Policy { p.Deny = action; return p }
func on(p api.Policy, l ...int) api.Policy          { p.Arches = l; return p }
func spaced(p api.Policy, flags uint64) api.Policy  { p.Spaces = flags; return p }
func of(p api.Policy, mode uint8, l ...uint32) api.Policy {
	p.FamiliesMode, p.Families = mode, l
	return p
}

// with is a policy with those of the four truths whose bits are set.
func with(p api.Policy, bits int) api.Policy {
	p.WriteExecute, p.Personality, p.Realtime, p.NoPrivileges = bits&1 != 0, bits&2 != 0, bits&4 != 0, bits&8 != 0
	return p
}

// full is a policy of which each part is filled.
func full() api.Policy {
	return api.Policy{
		Arches:       []int{api.X8664, api.X32, api.RiscV64},
		Filter:       allow(failing("close", 3), plain("read"), killing("write")),
		Deny:         failed + 77,
		Log:          deny(plain("bind"), plain("read")),
		Families:     []uint32{1, 10, 40},
		FamiliesMode: denyList,
		Spaces:       0x12020080,
		WriteExecute: true, Personality: true, Realtime: true, NoPrivileges: true,
	}
}

// copied is a policy with lists of its own.
func copied(p api.Policy) api.Policy {
	p.Arches = slices.Clone(p.Arches)
	p.Filter.Calls = slices.Clone(p.Filter.Calls)
	p.Log.Calls = slices.Clone(p.Log.Calls)
	p.Families = slices.Clone(p.Families)
	return p
}

// at is an assignment as the tests mostly have it, noted the note of an error in it.
func at(key, value string) api.Assign {
	return api.Assign{File: "a.service", Line: 7, Section: "Service", Key: key, Value: value}
}

func within(section, key, value string) api.Assign {
	a := at(key, value)
	a.Section = section
	return a
}

func noted(e api.Errno, text string) api.Note {
	return api.Note{File: "a.service", Line: 7, Err: e, Text: text}
}

// short is a thing for a message.
func short(x any) string {
	s := fmt.Sprintf("%+v", x)
	if len(s) > 600 {
		return s[:600] + ".."
	}
	return s
}

// samePolicy compares by what is written: an empty list is as good as nil.
func samePolicy(a, b api.Policy) bool { return fmt.Sprintf("%+v", a) == fmt.Sprintf("%+v", b) }

// The helpers below end a test at its first difference: those that go through many values would tell thousands.

// wantMay holds whether a policy is valid, and what Lines makes of it.
func wantMay(t *testing.T, p api.Policy, want bool) {
	t.Helper()
	if got := policy.May(p); got != want {
		t.Fatalf("May of %s: %t", short(p), got)
	}
	if !want {
		wantNoLines(t, p)
	} else {
		wantAsWritten(t, p)
	}
}

// wantMayAsChapter holds whether a policy is valid against the chapter's words.
func wantMayAsChapter(t *testing.T, p api.Policy) {
	t.Helper()
	wantMay(t, p, mayByChapter(p))
}

// wantSame holds whether two policies are equal, whichever comes first.
func wantSame(t *testing.T, a, b api.Policy, want bool) {
	t.Helper()
	if policy.Same(a, b) != want || policy.Same(b, a) != want {
		t.Fatalf("Same of\n%s and\n%s: %t, %t", short(a), short(b), policy.Same(a, b), policy.Same(b, a))
	}
}

// wantFailed holds whether any note of these errors is an error.
func wantFailed(t *testing.T, want bool, l ...api.Errno) {
	t.Helper()
	var notes []api.Note
	for _, e := range l {
		notes = append(notes, noted(e, "x"))
	}
	if got := policy.Failed(notes); got != want {
		t.Fatalf("Failed of %s: %t", short(notes), got)
	}
}

// wantResolved holds what assignments come to.
func wantResolved(t *testing.T, l []api.Assign, want api.Policy, notes ...api.Note) {
	t.Helper()
	got, gotNotes := policy.Resolve(l)
	if !samePolicy(got, want) || !slices.Equal(gotNotes, notes) {
		t.Fatalf("Resolve of %s:\n%s %s; want\n%s %s", short(l), short(got), short(gotNotes), short(want), short(notes))
	}
}

// wantAsChapter holds what assignments come to against the chapter's words; it tells the policy, and whether there is one.
func wantAsChapter(t *testing.T, l []api.Assign) (api.Policy, bool) {
	t.Helper()
	want, notes := resolveByChapter(l)
	wantResolved(t, l, want, notes...)
	return want, !failedByChapter(notes)
}

// wantLines holds the lines of a policy.
func wantLines(t *testing.T, p api.Policy, want ...string) {
	t.Helper()
	got, e := policy.Lines(p)
	if e != 0 || !slices.Equal(got, want) {
		t.Fatalf("Lines of %s: %d\n%q; want\n%q", short(p), e, got, want)
	}
}

// wantNoLines holds that a policy has no lines, as it is not valid.
func wantNoLines(t *testing.T, p api.Policy) {
	t.Helper()
	if got, e := policy.Lines(p); e != 2 || len(got) != 0 {
		t.Fatalf("Lines of %s: %d %q", short(p), e, got)
	}
}

// wantAsWritten holds the lines of a valid policy against the chapter's words, and that they come to that policy again.
func wantAsWritten(t *testing.T, p api.Policy) {
	t.Helper()
	wantLines(t, p, linesByChapter(p)...)
	wantBack(t, p)
}

// wantBack is of P19.5: the lines of a policy come to that policy, without notes.
func wantBack(t *testing.T, p api.Policy) {
	t.Helper()
	lines, e := policy.Lines(p)
	if e != 0 {
		t.Fatalf("Lines of %s: %d", short(p), e)
	}
	wantResolved(t, assigned(lines), p)
	if back, _ := policy.Resolve(assigned(lines)); !policy.Same(back, p) {
		t.Fatalf("%q: %s; want %s", lines, short(back), short(p))
	}
}

// assigned are lines as assignments.
func assigned(lines []string) (l []api.Assign) {
	for i, line := range lines {
		key, value, _ := strings.Cut(line, "=")
		l = append(l, api.Assign{File: "b.conf", Line: i + 1, Section: "Service", Key: key, Value: value})
	}
	return l
}

// TestExamples is of P19.2 and P19.3: the chapter's examples.
func TestExamples(t *testing.T) {
	wantResolved(t, nil, initial())
	wantResolved(t, []api.Assign{at("SystemCallFilter", "~kill"), within("Unit", "A", "1"), at("B", "2")},
		filtered(initial(), deny(plain("kill"))), noted(100, "Unit"), noted(100, "B"))
	wantResolved(t, []api.Assign{at("LockPersonality", "maybe"), at("SystemCallFilter", "nothing")},
		api.Policy{}, noted(150, "maybe"), noted(90, "nothing"))
	wantLines(t, denied(filtered(initial(), allow(failing("kill", 1))), failed+38),
		"SystemCallFilter=read", "SystemCallFilter=~read", "SystemCallFilter=~kill:EPERM", "SystemCallErrorNumber=ENOSYS")
}

// TestNew is of P19.1: Deny is KillProcess, everything else zero.
func TestNew(t *testing.T) {
	if got := policy.New(); !samePolicy(got, api.Policy{Deny: 0x80000000}) {
		t.Errorf("%+v", got)
	}
	wantMay(t, policy.New(), true)
	wantMay(t, api.Policy{}, false)
	wantSame(t, policy.New(), initial(), true)
	wantSame(t, policy.New(), api.Policy{}, false)
}

// bases are valid policies in which one part after another becomes another.
func bases() []api.Policy { return []api.Policy{initial(), full()} }

// TestMayArches is of P19.1: each set of architectures, elements that are twice or descend, and such as there are not.
func TestMayArches(t *testing.T) {
	for _, p := range bases() {
		for bits := range 64 {
			wantMay(t, on(p, subset([]int{0, 1, 2, 3, 4, 5}, bits)...), true)
		}
		for a := range 6 {
			for b := range 6 {
				wantMay(t, on(p, a, b), a < b)
				wantMay(t, on(p, a, b, 5), a < b && b < 5)
				wantMay(t, on(p, 0, a, b), a < b && 0 < a)
			}
		}
		for _, none := range []int{-1, -2, 6, 7, 99, math.MaxInt, math.MinInt, 1 << 32} {
			wantMay(t, on(p, none), false)
			wantMay(t, on(p, none, 1), false)
			wantMay(t, on(p, 1, none), false)
			wantMay(t, on(p, 0, none, 2), false)
		}
		wantMay(t, on(p, 0, 1, 2, 3, 4, 5, 6), false)
		wantMay(t, on(p, -1, 0, 1, 2, 3, 4, 5), false)
		wantMay(t, on(p, 5, 4, 3, 2, 1, 0), false)
		wantMay(t, on(p, 0, 2, 1, 3), false)
		wantMay(t, on(p, 0, 2, 2, 3), false)
	}
}

// TestMayFamilies is of P19.1: each set of families with each mode, elements that are twice or descend, and such as there are not.
func TestMayFamilies(t *testing.T) {
	for _, p := range bases() {
		for bits := range 256 {
			some := subset(families(), bits)
			wantMay(t, of(p, noList, some...), bits == 0)
			wantMay(t, of(p, allowList, some...), true)
			wantMay(t, of(p, denyList, some...), true)
		}
		for mode := range 256 {
			wantMay(t, of(p, uint8(mode)), mode <= 2)
			wantMay(t, of(p, uint8(mode), 2), mode == 1 || mode == 2)
		}
		for _, mode := range []uint8{0, 1, 2} {
			for _, a := range families() {
				for _, b := range families() {
					wantMay(t, of(p, mode, a, b), mode != 0 && a < b)
					wantMay(t, of(p, mode, 1, a, b, 40), mode != 0 && 1 < a && a < b && b < 40)
				}
			}
			for n := range uint32(300) {
				_, is := familiesByChapter()[n]
				wantMay(t, of(p, mode, n), mode != 0 && is)
				wantMay(t, of(p, mode, 1, n), mode != 0 && is && n > 1)
				wantMay(t, of(p, mode, n, 40), mode != 0 && is && n < 40)
			}
			for _, n := range []uint32{1 << 16, 1<<16 + 1, 1<<31 + 2, 1 << 31, math.MaxUint32} {
				wantMay(t, of(p, mode, n), false)
				wantMay(t, of(p, mode, 2, n), false)
			}
		}
	}
}

// oddActions are actions at the edges of those that stand in lists, and others; 0 is among them.
func oddActions() []uint32 {
	return []uint32{
		0, 1, 0xffff, 0x10000, 0x30000, 0x3ffff, 0x40000, 0x4ffff, 0x50000, 0x50001, 0x50026, 0x50fff, 0x51000, 0x51001, 0x5ffff, 0x60000, 0x60001,
		0x7fc00000, 0x7ff00000, 0x7ffc0000, 0x7fff0000, 0x7fffffff, 0x80000000, 0x80000001, 0x8000ffff, 0x80050000, 0x80050001, 0xffffffff, 0x1050001, 38, 4095,
	}
}

// TestMayLists is of P19.1: Filter and Log must be valid, and the actions of Log 0.
func TestMayLists(t *testing.T) {
	for _, p := range bases() {
		for mode := range 256 {
			m := uint8(mode)
			wantMay(t, filtered(p, listOf(m)), mode <= 2)
			wantMay(t, logged(p, listOf(m)), mode <= 2)
			wantMay(t, filtered(p, listOf(m, plain("kill"))), mode == 1 || mode == 2)
			wantMay(t, logged(p, listOf(m, plain("kill"))), mode == 1 || mode == 2)
		}
		for _, mode := range []uint8{allowList, denyList} {
			for _, action := range oddActions() {
				stands := action == 0 || action == 0x80000000 || action >= 0x50000 && action <= 0x50fff
				for _, l := range [][]api.Call{{acting("kill", action)}, {plain("bind"), acting("read", action)}, {acting("kill", action), plain("read")}, {plain("bind"), acting("kill", action), plain("write")}} {
					wantMay(t, filtered(p, listOf(mode, l...)), stands)
					wantMay(t, logged(p, listOf(mode, l...)), action == 0)
				}
			}
			for _, l := range [][]api.Call{
				{plain("")}, {plain("Kill")}, {plain("kill ")}, {plain("@file")}, {plain("zzz")}, {plain("kill:EPERM")}, {plain("bind"), plain("nothing"), plain("read")},
				{plain("read"), plain("bind")}, {plain("read"), plain("read")}, {plain("bind"), plain("read"), plain("kill")}, {plain("bind"), plain("kill"), plain("kill"), plain("read")},
			} {
				wantMay(t, filtered(p, listOf(mode, l...)), false)
				wantMay(t, logged(p, listOf(mode, l...)), false)
			}
			every := api.List{Mode: mode}
			for _, name := range calls.Names() {
				every.Calls = append(every.Calls, plain(name))
				wantMay(t, filtered(p, listOf(mode, plain(name))), true)
				wantMay(t, logged(p, listOf(mode, plain(name))), true)
			}
			wantMay(t, filtered(logged(p, every), every), true)
		}
	}
}

// TestMayDeny is of P19.1: KillProcess, or Fail with 0 to 4095, and no other action.
func TestMayDeny(t *testing.T) {
	for _, p := range bases() {
		for n := range uint32(4200) {
			wantMay(t, denied(p, failed+n), n <= 4095)
		}
		for _, action := range oddActions() {
			wantMay(t, denied(p, action), action == 0x80000000 || action >= 0x50000 && action <= 0x50fff)
		}
		for bit := range 32 {
			wantMay(t, denied(p, 1<<bit), bit == 31)
			wantMay(t, denied(p, 1<<bit|0x50000), bit <= 11 || bit == 16 || bit == 18)
		}
	}
}

// TestMaySpaces is of P19.1: each set of flags, and each bit that is none.
func TestMaySpaces(t *testing.T) {
	for _, p := range bases() {
		for bits := range 256 {
			var all uint64
			for _, flag := range subset(flags(), bits) {
				all |= flag
			}
			wantMay(t, spaced(p, all), true)
		}
		for bit := range 64 {
			_, is := spacesByChapter()[1<<bit]
			wantMay(t, spaced(p, 1<<bit), is)
			wantMay(t, spaced(p, everySpace|1<<bit), is)
			wantMay(t, spaced(p, 0x80|1<<bit), is)
		}
		wantMay(t, spaced(p, math.MaxUint64), false)
	}
}

// TestMayTruths is of P19.1: each of the four may be true or false.
func TestMayTruths(t *testing.T) {
	for _, p := range bases() {
		for bits := range 16 {
			wantMay(t, with(p, bits), true)
		}
	}
}

// variants are policies that differ from one another, many in a single field.
func variants() []api.Policy {
	p := full()
	l := []api.Policy{initial(), {}, p}
	for _, arches := range [][]int{nil, {0}, {0, 2}, {0, 2, 4}, {0, 2, 5, 5}, {2, 0, 5}, {0, 5, 2}, {0, 3, 5}, {1, 2, 5}, {-1}} {
		l = append(l, on(p, arches...))
	}
	for _, change := range []func(api.Policy, api.List) api.Policy{filtered, logged} {
		for _, calls := range [][]api.Call{
			nil, {plain("bind")}, {plain("bind"), plain("write")}, {plain("write"), plain("bind")}, {plain("bind"), failing("write", 1)}, {plain("bind"), failing("write", 2)},
			{killing("bind"), plain("write")}, {plain("bind"), plain("write"), plain("write")}, {plain("bind"), plain("read"), plain("write")}, {plain("")}, {acting("bind", 1)},
		} {
			for _, mode := range []uint8{0, 1, 2, 3} {
				l = append(l, change(p, listOf(mode, calls...)))
			}
		}
	}
	for _, action := range append(oddActions(), failed+76, failed+78) {
		l = append(l, denied(p, action))
	}
	for _, of := range [][]uint32{nil, {1}, {1, 10}, {1, 10, 38}, {1, 10, 40, 40}, {10, 1, 40}, {2, 10, 40}, {1, 11, 40}} {
		l = append(l, api.Policy{FamiliesMode: 1, Families: of}, api.Policy{FamiliesMode: 2, Families: of}, api.Policy{Families: of, Realtime: true})
	}
	l = append(l, of(p, 0, p.Families...), of(p, 1, p.Families...), of(p, 3, p.Families...), of(p, 2), of(p, 2, 1, 10), of(p, 2, 1, 10, 38), of(p, 2, 10, 1, 40))
	for bit := range 64 {
		l = append(l, spaced(p, p.Spaces^1<<bit))
	}
	for bits := range 15 {
		l = append(l, with(p, bits))
	}
	return l
}

// TestSame is of P19.1: of policies that differ, each is equal to itself alone, copied or not.
func TestSame(t *testing.T) {
	l := variants()
	for i, a := range l {
		for j, b := range l {
			wantSame(t, a, b, i == j)
			wantSame(t, copied(a), b, i == j)
		}
	}
}

// TestSameField is of P19.1: policies that differ in one field alone, each field once, also against the zero policy.
func TestSameField(t *testing.T) {
	for i, p := range []api.Policy{
		{Arches: []int{0}}, {Filter: listOf(1)}, {Filter: listOf(0, plain("read"))}, {Deny: 1}, {Log: listOf(1)}, {Log: listOf(0, plain("read"))}, {Families: []uint32{0}}, {FamiliesMode: 1}, {Spaces: 1},
		{WriteExecute: true}, {Personality: true}, {Realtime: true}, {NoPrivileges: true},
	} {
		wantSame(t, p, api.Policy{}, false)
		wantSame(t, p, initial(), false)
		wantSame(t, p, full(), false)
		wantSame(t, p, copied(p), true)
		q := full()
		change := []func(){
			func() { q.Arches[2] = 4 }, func() { q.Filter.Mode = 2 }, func() { q.Filter.Calls[2].Action = 0 }, func() { q.Deny++ }, func() { q.Log.Mode = 1 }, func() { q.Log.Calls[0].Name = "brk" },
			func() { q.Families[0] = 2 }, func() { q.FamiliesMode = 1 }, func() { q.Spaces++ }, func() { q.WriteExecute = false }, func() { q.Personality = false }, func() { q.Realtime = false }, func() { q.NoPrivileges = false },
		}
		wantSame(t, q, full(), true)
		change[i]()
		wantSame(t, q, full(), false)
	}
	// A nil list is as good as an empty one.
	empty := api.Policy{Arches: []int{}, Filter: api.List{Calls: []api.Call{}}, Log: api.List{Calls: []api.Call{}}, Families: []uint32{}}
	wantSame(t, empty, api.Policy{}, true)
	wantSame(t, denied(empty, killed), initial(), true)
	// A policy that is not valid is equal to itself, whatever is in it.
	wantSame(t, api.Policy{Arches: []int{9, -1}, Filter: listOf(9, plain("z"), plain("a")), Families: []uint32{3, 3}}, api.Policy{Arches: []int{9, -1}, Filter: listOf(9, plain("z"), plain("a")), Families: []uint32{3, 3}}, true)
}

// everyError are the errors that may stand in a note, all that api has, and numbers around them.
func everyError() []api.Errno {
	var l []api.Errno
	for e := range 400 {
		l = append(l, api.Errno(e+1))
	}
	return append(l, -1, -90, 1000, math.MaxInt, math.MinInt)
}

// TestFailed is of P19.1: no notes, warnings alone, and an error behind, between and ahead of warnings.
func TestFailed(t *testing.T) {
	if policy.Failed(nil) || policy.Failed([]api.Note{}) {
		t.Error("no notes")
	}
	warnings := []api.Errno{90, 100, 110, 161}
	wantFailed(t, false, warnings...)
	for _, e := range everyError() {
		is := !slices.Contains(warnings, e)
		wantFailed(t, is, e)
		wantFailed(t, is, e, e)
		for at := range len(warnings) + 1 {
			wantFailed(t, is, slices.Insert(slices.Clone(warnings), at, e)...)
		}
	}
	wantFailed(t, true, 150, 111)
	wantFailed(t, true, slices.Repeat([]api.Errno{150}, 100)...)
	wantFailed(t, false, slices.Repeat(warnings, 1000)...)
	wantFailed(t, true, append(slices.Repeat(warnings, 1000), 180)...)
	// Nothing but the error counts.
	for _, n := range []api.Note{{Err: 90}, {Err: 100, File: "x", Line: -1, Text: "error"}} {
		if policy.Failed([]api.Note{n}) || !policy.Failed([]api.Note{n, {Err: 111, File: n.File, Line: n.Line, Text: n.Text}}) {
			t.Errorf("%+v", n)
		}
	}
}

// TestEachKey is of P19.2: each key of the layers 17 and 18 by itself, and all of them.
func TestEachKey(t *testing.T) {
	wantResolved(t, []api.Assign{}, initial())
	one := func(key, value string, want api.Policy, notes ...api.Note) {
		t.Helper()
		wantResolved(t, []api.Assign{at(key, value)}, want, notes...)
	}
	p := initial()
	one("SystemCallFilter", "read ~x write", filtered(p, allow(plain("read"), plain("write"))), noted(90, "~x"))
	one("SystemCallFilter", "~kill:EPERM read", filtered(p, deny(failing("kill", 1), plain("read"))))
	one("SystemCallLog", "kill:5", logged(p, allow(plain("kill"))), noted(161, "kill:5"))
	one("SystemCallErrorNumber", "ENOSYS", denied(p, failed+38))
	one("SystemCallErrorNumber", "kill", p)
	one("SystemCallArchitectures", "arm native", on(p, 0, 3))
	one("RestrictAddressFamilies", "none", of(p, allowList))
	one("RestrictAddressFamilies", "~AF_INET AF_UNIX", of(p, denyList, 1, 2))
	one("RestrictNamespaces", "~net", spaced(p, 0x40000000))
	one("RestrictNamespaces", "yes", spaced(p, everySpace))
	for i, key := range truths() {
		one(key, "on", with(p, 1<<i))
		one(key, "no", p)
		one(key, "", p)
	}
	for _, key := range keys() {
		one(key, "", p)
	}
	var l []api.Assign
	for _, a := range [][2]string{{"SystemCallFilter", "read"}, {"SystemCallFilter", "~write:kill"}, {"SystemCallFilter", "~close:3"}, {"SystemCallErrorNumber", "77"}, {"SystemCallLog", "~bind read"}, {"SystemCallArchitectures", "riscv64 x32"},
		{"RestrictAddressFamilies", "~AF_UNIX"}, {"RestrictAddressFamilies", "~AF_VSOCK AF_INET6"}, {"RestrictNamespaces", "~user mnt time cgroup"}, {"SystemCallArchitectures", "native"},
		{"NoNewPrivileges", "1"}, {"RestrictRealtime", "true"}, {"LockPersonality", "on"}, {"MemoryDenyWriteExecute", "yes"}} {
		l = append(l, at(a[0], a[1]))
	}
	wantResolved(t, l, full())
}

// nearKeys are keys that are none, and sections that are not it.
func nearKeys() []string {
	l := []string{"", " ", "A", "Deny", "Filter", "SystemCall", "SystemCallFilters", "ExecStart", "PrivateTmp", "\x00", "\xff\xfe", "é", "Service", "[Service]", "@file"}
	for _, key := range keys() {
		l = append(l, strings.ToLower(key), strings.ToUpper(key), key+" ", " "+key, key[1:], key[:len(key)-1], key+"=", key+key)
	}
	return l
}

func nearSections() []string {
	return []string{"", " ", "service", "SERVICE", "Service ", " Service", "Servic", "ervice", "Services", "[Service]", "Unit", "Install", "Socket", "ServiceService", "Service\n", "Service\x00", "\x00", "\xff", "é", "SystemCallFilter"}
}

// TestUnknown is of P19.2: other keys and other sections are noted, the section alone where both are unknown, and have no effect.
func TestUnknown(t *testing.T) {
	for _, key := range nearKeys() {
		for _, value := range []string{"", "yes", "read", "maybe", "~"} {
			wantResolved(t, []api.Assign{at(key, value)}, initial(), noted(100, first(key)))
			for _, section := range nearSections() {
				wantResolved(t, []api.Assign{within(section, key, value)}, initial(), noted(100, section))
			}
		}
	}
	for _, section := range nearSections() {
		for _, key := range keys() {
			for _, value := range []string{"", "yes", "read", "maybe", "AF_UNIX", "x86", "5000", "~net", "@nest"} {
				wantResolved(t, []api.Assign{within(section, key, value)}, initial(), noted(100, section))
				before, after := at("SystemCallFilter", "~kill"), at("LockPersonality", "yes")
				wantResolved(t, []api.Assign{before, within(section, key, value), after},
					api.Policy{Deny: killed, Filter: deny(plain("kill")), Personality: true}, noted(100, section))
			}
		}
	}
}

// lengths are lengths of texts around the bound.
func lengths() []int { return []int{0, 1, 2, 58, 59, 60, 61, 62, 119, 120, 121, 1000, 65000} }

// TestTexts is of P19.2: the first 60 bytes of a section or of a key, whatever they are.
func TestTexts(t *testing.T) {
	for _, n := range lengths() {
		for _, piece := range []string{"x", "é", "\xff", "\u20ac", "Service", " ", "\x00"} {
			text := strings.Repeat(piece, n+1)[:n]
			if text == "Service" {
				continue
			}
			wantResolved(t, []api.Assign{at(text, "yes")}, initial(), noted(100, text[:min(n, 60)]))
			wantResolved(t, []api.Assign{within(text, "LockPersonality", "yes")}, initial(), noted(100, text[:min(n, 60)]))
			wantResolved(t, []api.Assign{within(text, "key", "yes"), within(text, strings.Repeat("k", 100), "")}, initial(), noted(100, text[:min(n, 60)]), noted(100, text[:min(n, 60)]))
		}
	}
	for _, key := range keys() {
		long := key + strings.Repeat("x", 60)
		wantResolved(t, []api.Assign{at(long, "yes"), within("Service"+strings.Repeat("x", 60), key, "yes")}, initial(), noted(100, long[:60]), noted(100, "Service"+strings.Repeat("x", 53)))
	}
}

// TestPlaces is of P19.2: each note has the file and the line of its assignment, where files and lines differ.
func TestPlaces(t *testing.T) {
	put := func(a api.Assign, file string, line int) api.Assign {
		a.File, a.Line = file, line
		return a
	}
	for _, file := range []string{"", " ", "a.service", "10-a.conf", "\x00\xff", strings.Repeat("f", 1000)} {
		for _, line := range []int{0, 1, 2, 1000, 65536, -1, math.MaxInt, math.MinInt} {
			wantResolved(t, []api.Assign{put(at("A", ""), file, line), put(within("Unit", "A", ""), file, line), put(at("SystemCallFilter", "x"), file, line)},
				filtered(initial(), allow()), api.Note{File: file, Line: line, Err: 100, Text: "A"}, api.Note{File: file, Line: line, Err: 100, Text: "Unit"}, api.Note{File: file, Line: line, Err: 90, Text: "x"})
			wantResolved(t, []api.Assign{put(at("RestrictRealtime", "x"), file, line)}, api.Policy{}, api.Note{File: file, Line: line, Err: 150, Text: "x"})
		}
	}
	wantResolved(t, []api.Assign{
		put(at("SystemCallFilter", "~a kill b:x"), "a", 3), put(at("C", ""), "b", 2), put(at("SystemCallArchitectures", "vax arm pdp"), "c", 1), put(within("Unit", "d", ""), "a", 9), put(at("SystemCallLog", "@none"), "", 0), put(at("SystemCallFilter", "read:5"), "b", 4),
	}, api.Policy{},
		api.Note{File: "a", Line: 3, Err: 90, Text: "a"}, api.Note{File: "a", Line: 3, Err: 160, Text: "b:x"}, api.Note{File: "b", Line: 2, Err: 100, Text: "C"}, api.Note{File: "c", Line: 1, Err: 80, Text: "vax"}, api.Note{File: "c", Line: 1, Err: 80, Text: "pdp"},
		api.Note{File: "a", Line: 9, Err: 100, Text: "Unit"}, api.Note{Err: 110, Text: "@none"}, api.Note{File: "b", Line: 4, Err: 161, Text: "read:5"})
}

// faults are assignments that lead to an error, with their notes; warnings are such as lead to warnings alone.
func faults() ([]api.Assign, []api.Note) {
	return []api.Assign{
		at("SystemCallFilter", "@nest"), at("SystemCallFilter", "~read:x"), at("SystemCallLog", "read:9999"), at("SystemCallErrorNumber", "x"), at("SystemCallArchitectures", "vax"), at("RestrictAddressFamilies", "AF_X"),
		at("RestrictNamespaces", "disk"), at("MemoryDenyWriteExecute", "maybe"), at("LockPersonality", " "), at("RestrictRealtime", "Yes"), at("NoNewPrivileges", "2"),
	}, []api.Note{
		noted(111, "@nest"), noted(160, "read:x"), noted(160, "read:9999"), noted(160, "x"), noted(80, "vax"), noted(180, "AF_X"),
		noted(181, "disk"), noted(150, "maybe"), noted(150, " "), noted(150, "Yes"), noted(150, "2"),
	}
}

func warnings() ([]api.Assign, []api.Note) {
	return []api.Assign{at("SystemCallFilter", "~nothing"), at("SystemCallLog", "@x"), at("SystemCallLog", "~read:5"), at("SystemCallFilter", ":5"), at("Key", "x"), within("Unit", "SystemCallFilter", "")},
		[]api.Note{noted(90, "nothing"), noted(110, "@x"), noted(161, "read:5"), noted(161, ":5"), noted(100, "Key"), noted(100, "Unit")}
}

// TestFaults is of P19.2: for warnings the policy stays; for an error, wherever it is, there is none, and all notes are told.
func TestFaults(t *testing.T) {
	warning, warned := warnings()
	stays := filtered(logged(initial(), allow()), deny())
	wantResolved(t, warning, stays, warned...)
	for i, a := range warning {
		_, notes := resolveByChapter([]api.Assign{a})
		if len(notes) != 1 || notes[0] != warned[i] {
			t.Errorf("%v", notes)
		}
		if _, is := wantAsChapter(t, []api.Assign{a}); !is {
			t.Errorf("%v", a)
		}
	}
	fault, noted := faults()
	for i, a := range fault {
		wantResolved(t, []api.Assign{a}, api.Policy{}, noted[i])
		for at := range len(warning) + 1 {
			wantResolved(t, slices.Insert(slices.Clone(warning), at, a), api.Policy{}, slices.Insert(slices.Clone(warned), at, noted[i])...)
		}
		for j, b := range fault {
			wantResolved(t, []api.Assign{a, b}, api.Policy{}, noted[i], noted[j])
		}
	}
	wantResolved(t, slices.Concat(fault, warning, fault), api.Policy{}, slices.Concat(noted, warned, noted)...)
	// What follows makes nothing good: an error stays one, also if its key is set, or its list cleared, behind it.
	for i, a := range fault {
		for _, key := range keys() {
			wantResolved(t, []api.Assign{at("NoNewPrivileges", "yes"), a, at(key, "")}, api.Policy{}, noted[i])
		}
	}
}

// TestEachLine is of P19.3: each line of the table by itself.
func TestEachLine(t *testing.T) {
	p := initial()
	wantLines(t, p)
	wantLines(t, on(p, 0), "SystemCallArchitectures=x86-64")
	wantLines(t, on(p, 0, 1, 2, 3, 4, 5), "SystemCallArchitectures=x86-64 x86 x32 arm arm64 riscv64")
	wantLines(t, on(p, 2, 5), "SystemCallArchitectures=x32 riscv64")
	wantLines(t, filtered(p, allow()), "SystemCallFilter=read", "SystemCallFilter=~read")
	wantLines(t, filtered(p, deny()), "SystemCallFilter=~")
	wantLines(t, denied(p, failed+1), "SystemCallErrorNumber=EPERM")
	wantLines(t, denied(p, failed), "SystemCallErrorNumber=0")
	wantLines(t, denied(p, failed+3), "SystemCallErrorNumber=3")
	wantLines(t, denied(p, failed+4095), "SystemCallErrorNumber=4095")
	wantLines(t, logged(p, allow()), "SystemCallLog=read", "SystemCallLog=~read")
	wantLines(t, logged(p, deny()), "SystemCallLog=~")
	wantLines(t, of(p, allowList), "RestrictAddressFamilies=none")
	wantLines(t, of(p, denyList), "RestrictAddressFamilies=~")
	wantLines(t, of(p, allowList, 1), "RestrictAddressFamilies=AF_UNIX")
	wantLines(t, of(p, denyList, 1), "RestrictAddressFamilies=~AF_UNIX")
	wantLines(t, of(p, allowList, 2, 10, 40), "RestrictAddressFamilies=AF_INET AF_INET6 AF_VSOCK")
	wantLines(t, of(p, denyList, 2, 10, 40), "RestrictAddressFamilies=~AF_INET AF_INET6 AF_VSOCK")
	wantLines(t, spaced(p, 0x80), "RestrictNamespaces=~time")
	wantLines(t, spaced(p, 0x40020000), "RestrictNamespaces=~mnt net")
	wantLines(t, spaced(p, everySpace), "RestrictNamespaces=~time mnt cgroup uts ipc user pid net")
	wantLines(t, with(p, 1), "MemoryDenyWriteExecute=yes")
	wantLines(t, with(p, 2), "LockPersonality=yes")
	wantLines(t, with(p, 4), "RestrictRealtime=yes")
	wantLines(t, with(p, 8), "NoNewPrivileges=yes")
}

// TestAllLines is of P19.3: all lines together, in their order.
func TestAllLines(t *testing.T) {
	wantLines(t, full(),
		"SystemCallArchitectures=x86-64 x32 riscv64",
		"SystemCallFilter=read", "SystemCallFilter=~close:3 write:kill",
		"SystemCallErrorNumber=77",
		"SystemCallLog=~bind read",
		"RestrictAddressFamilies=~AF_UNIX AF_INET6 AF_VSOCK",
		"RestrictNamespaces=~time mnt cgroup user",
		"MemoryDenyWriteExecute=yes", "LockPersonality=yes", "RestrictRealtime=yes", "NoNewPrivileges=yes")
	p := logged(filtered(full(), allow(plain("bind"), failing("kill", 38), failing("read", 0), killing("write"))), allow(plain("brk"), plain("close")))
	wantLines(t, of(p, allowList),
		"SystemCallArchitectures=x86-64 x32 riscv64",
		"SystemCallFilter=read", "SystemCallFilter=~read", "SystemCallFilter=bind", "SystemCallFilter=~kill:ENOSYS read:0 write:kill",
		"SystemCallErrorNumber=77",
		"SystemCallLog=read", "SystemCallLog=~read", "SystemCallLog=brk close",
		"RestrictAddressFamilies=none",
		"RestrictNamespaces=~time mnt cgroup user",
		"MemoryDenyWriteExecute=yes", "LockPersonality=yes", "RestrictRealtime=yes", "NoNewPrivileges=yes")
}

// TestListLines is of P19.3: allow lists with and without read, and with further calls; deny lists; for Filter, and without actions for Log.
func TestListLines(t *testing.T) {
	for _, c := range []struct {
		list  api.List
		lines string
	}{
		{allow(plain("read")), "=read"},
		{allow(failing("read", 1)), "=read|=~read|=~read:EPERM"},
		{allow(killing("read")), "=read|=~read|=~read:kill"},
		{allow(failing("read", 0)), "=read|=~read|=~read:0"},
		{allow(plain("kill")), "=read|=~read|=kill"},
		{allow(plain("kill"), plain("read")), "=read|=kill"},
		{allow(plain("kill"), plain("read"), plain("write")), "=read|=kill write"},
		{allow(plain("bind"), failing("read", 5), plain("write")), "=read|=~read|=bind write|=~read:EIO"},
		{allow(failing("bind", 4095), plain("read"), killing("write")), "=read|=~bind:4095 write:kill"},
		{allow(failing("bind", 110), killing("write")), "=read|=~read|=~bind:ETIMEDOUT write:kill"},
		{allow(plain("bind"), failing("brk", 3), plain("clone"), killing("close"), plain("read"), failing("write", 0)), "=read|=bind clone|=~brk:3 close:kill write:0"},
		{deny(plain("read")), "=~read"},
		{deny(failing("read", 1)), "=~read:EPERM"},
		{deny(killing("kill")), "=~kill:kill"},
		{deny(plain("bind"), failing("kill", 7), plain("read"), killing("write")), "=~bind kill:7 read write:kill"},
		{deny(plain("bind"), plain("write")), "=~bind write"},
	} {
		lines := strings.Split("SystemCallFilter"+strings.ReplaceAll(c.lines, "|", "|SystemCallFilter"), "|")
		wantLines(t, filtered(initial(), c.list), lines...)
		if !strings.Contains(c.lines, ":") {
			lines = strings.Split("SystemCallLog"+strings.ReplaceAll(c.lines, "|", "|SystemCallLog"), "|")
			wantLines(t, logged(initial(), c.list), lines...)
		} else {
			wantNoLines(t, logged(initial(), c.list))
		}
	}
}

// TestSomeCalls is of P19.3 and P19.5: all sets of a few calls with read among them, each with each kind of action, as both lists.
func TestSomeCalls(t *testing.T) {
	actions := []uint32{0, failed, failed + 1, failed + 4095, killed}
	for kinds := range 6 * 6 * 6 * 6 {
		var l []api.Call
		left, acted := kinds, false
		for _, name := range []string{"bind", "clone3", "read", "write"} {
			if kind := left % 6; kind > 0 {
				l = append(l, acting(name, actions[kind-1]))
				acted = acted || kind > 1
			}
			left /= 6
		}
		for _, mode := range []uint8{allowList, denyList} {
			wantMay(t, filtered(initial(), listOf(mode, l...)), true)
			wantMay(t, logged(initial(), listOf(mode, l...)), !acted)
		}
	}
}

// TestNotValid is of P19.3: ErrArg for a policy of which one part is not valid, whatever the others are.
func TestNotValid(t *testing.T) {
	for _, p := range bases() {
		for _, bad := range []api.Policy{
			on(p, 6), on(p, 1, 1), on(p, 1, 0), filtered(p, listOf(3)), filtered(p, listOf(0, plain("read"))), filtered(p, deny(plain("x"))), denied(p, 0), denied(p, failed+4096), denied(p, killed+1),
			logged(p, listOf(3)), logged(p, allow(failing("read", 1))), logged(p, deny(killing("read"))), of(p, noList, 1), of(p, 3), of(p, 3, 1), of(p, allowList, 3), of(p, denyList, 2, 1), spaced(p, 1), spaced(p, everySpace+1),
		} {
			wantNoLines(t, bad)
		}
	}
	wantNoLines(t, api.Policy{})
}

// some is one of a list.
func some[E any](r *rand.Rand, l []E) E { return l[r.Intn(len(l))] }

// madeList is a valid list of calls that is made.
func madeList(r *rand.Rand, actions bool) api.List {
	l := api.List{Mode: uint8(r.Intn(3))}
	if l.Mode == noList {
		return l
	}
	often := r.Intn(5)
	for _, name := range calls.Names() {
		if r.Intn(5) < often {
			c := plain(name)
			if actions && r.Intn(3) == 0 {
				c.Action = some(r, []uint32{killed, failed, failed + 1, failed + 4095, failed + uint32(r.Intn(4096)), failed + uint32(r.Intn(130))})
			}
			l.Calls = append(l.Calls, c)
		}
	}
	return l
}

// made is a valid policy that is made.
func made(r *rand.Rand) api.Policy {
	p := with(initial(), r.Intn(16))
	if r.Intn(2) == 0 {
		p.Deny = failed + uint32(r.Intn(4096))
	}
	p.Arches = subset([]int{0, 1, 2, 3, 4, 5}, r.Intn(64))
	p.Filter, p.Log = madeList(r, true), madeList(r, false)
	for _, flag := range subset(flags(), r.Intn(256)) {
		p.Spaces |= flag
	}
	if p.FamiliesMode = uint8(r.Intn(3)); p.FamiliesMode != noList {
		p.Families = subset(families(), r.Intn(256))
	}
	return p
}

// TestMadePolicies is of P19.1, P19.3 and P19.5: made policies are valid, have the chapter's lines, and come back.
func TestMadePolicies(t *testing.T) {
	r := rand.New(rand.NewSource(193))
	for range 3000 {
		p := made(r)
		wantMayAsChapter(t, p)
		if !mayByChapter(p) {
			t.Fatalf("%s", short(p))
		}
		spoilt := spoil(r, copied(p))
		wantMayAsChapter(t, spoilt)
		wantSame(t, p, spoilt, samePolicy(p, spoilt))
		q := made(r)
		wantSame(t, p, q, samePolicy(p, q))
	}
}

// spoilList changes a little of a list of calls.
func spoilList(r *rand.Rand, l api.List) api.List {
	n := len(l.Calls)
	switch kind := r.Intn(5); {
	case kind == 0:
		l.Mode = uint8(r.Intn(5))
	case n == 0:
		l.Calls = append(l.Calls, plain("read"))
	case kind == 1:
		l.Calls[r.Intn(n)].Action = some(r, oddActions())
	case kind == 2:
		l.Calls[r.Intn(n)].Name = some(r, []string{"read", "x", "kill", "", "write"})
	case kind == 3:
		l.Calls = append(l.Calls, l.Calls[r.Intn(n)])
	default:
		i, j := r.Intn(n), r.Intn(n)
		l.Calls[i], l.Calls[j] = l.Calls[j], l.Calls[i]
	}
	return l
}

// spoil changes a little of a policy, so that it is seldom valid.
func spoil(r *rand.Rand, p api.Policy) api.Policy {
	switch r.Intn(7) {
	case 0:
		p.Arches = append(p.Arches, r.Intn(9)-1)
	case 1:
		p.Filter = spoilList(r, p.Filter)
	case 2:
		p.Deny = some(r, oddActions())
	case 3:
		p.Log = spoilList(r, p.Log)
	case 4:
		p.Families = append(p.Families, uint32(r.Intn(50)))
	case 5:
		p.FamiliesMode = uint8(r.Intn(5))
	case 6:
		p.Spaces ^= 1 << r.Intn(64)
	}
	return p
}

// words are words that count somewhere.
func words() [][]string {
	var of, spaces []string
	for _, f := range families() {
		of = append(of, familiesByChapter()[f])
	}
	for _, f := range flags() {
		spaces = append(spaces, spacesByChapter()[f])
	}
	entries := append(calls.Names(), "@file", "@clock", "@basic-io", "@default", "read:EPERM", "write:kill", "kill:77", "@clock:5", "nothing", "@none", ":5", "read")
	return [][]string{entries, append(archesByChapter(), "native"), append(of, "none"), spaces, {"yes", "no", "on", "off", "1", "0"}, {"EPERM", "ENOSYS", "kill", "0", "4095", "38"}}
}

// madeValue is a value for a key, mostly of words that count for it.
func madeValue(r *rand.Rand, key string) string {
	kind := map[string]int{"SystemCallArchitectures": 1, "RestrictAddressFamilies": 2, "RestrictNamespaces": 3, "MemoryDenyWriteExecute": 4, "LockPersonality": 4, "RestrictRealtime": 4, "NoNewPrivileges": 4, "SystemCallErrorNumber": 5}[key]
	if kind >= 4 {
		return some(r, append(words()[kind], ""))
	}
	var l []string
	for range r.Intn(5) {
		l = append(l, some(r, words()[kind]))
	}
	return some(r, []string{"", "", "~", "~", "~ ", " "}) + strings.Join(l, some(r, []string{" ", "\t", "  "}))
}

// madeAssign is an assignment that is made; bad ones may lead to an error.
func madeAssign(r *rand.Rand, bad bool) api.Assign {
	a := api.Assign{File: some(r, []string{"", "a.service", "b.conf"}), Line: r.Intn(1000), Section: "Service", Key: some(r, keys())}
	if r.Intn(3) == 0 {
		a.Key = some(r, []string{"SystemCallFilter", "SystemCallLog"})
	}
	a.Value = madeValue(r, a.Key)
	switch {
	case bad:
		a.Value += some(r, []string{" x", " x:y", "z", " AF_", strings.Repeat("w", 99)})
	case r.Intn(15) == 0:
		a.Section = some(r, nearSections())
	case r.Intn(15) == 0:
		a.Key = some(r, nearKeys())
	}
	return a
}

// madeSequence are assignments that are made, of which few or none lead to an error.
func madeSequence(r *rand.Rand) (l []api.Assign) {
	oftenBad := some(r, []int{0, 0, 10})
	for range r.Intn(20) {
		l = append(l, madeAssign(r, r.Intn(100) < oftenBad))
	}
	return l
}

// TestMadeSequences is of P19.2, P19.4 and P19.5: made assignments come to what the chapter says, which is valid and comes back.
func TestMadeSequences(t *testing.T) {
	r := rand.New(rand.NewSource(192))
	policies, without := 0, 0
	for range 6000 {
		l := madeSequence(r)
		p, is := wantAsChapter(t, l)
		if !is {
			without++
			continue
		}
		policies++
		wantMay(t, p, true)
		got, notes := policy.Resolve(l)
		if !policy.May(got) || policy.Failed(notes) {
			t.Fatalf("%s comes to %s, which is not valid", short(l), short(got))
		}
		wantBack(t, got)
	}
	if policies < 1000 || without < 500 {
		t.Errorf("%d policies, %d without", policies, without)
	}
}

// TestShort is of P19.2 to P19.5: all short sequences of assignments that count.
func TestShort(t *testing.T) {
	pieces := []api.Assign{
		at("SystemCallFilter", "read"), at("SystemCallFilter", "~read kill:5"), at("SystemCallFilter", ""), at("SystemCallLog", "~"), at("SystemCallErrorNumber", "9"), at("SystemCallErrorNumber", "bad"), at("SystemCallArchitectures", "arm x86"),
		at("RestrictAddressFamilies", "none"), at("RestrictAddressFamilies", "~AF_INET"), at("RestrictNamespaces", "net"), at("LockPersonality", "yes"), at("LockPersonality", "no"), at("X", "yes"), within("Unit", "LockPersonality", "bad"),
	}
	var from func(l []api.Assign, n int)
	from = func(l []api.Assign, n int) {
		if p, is := wantAsChapter(t, l); is {
			wantMay(t, p, true)
		}
		if n == 0 {
			return
		}
		for _, a := range pieces {
			from(append(slices.Clip(l), a), n-1)
		}
	}
	from(nil, 3)
}

// TestComposition is of P19.6: the second part of a sequence makes of the policy of its first part the policy of both, also where that policy is written as lines ahead of it.
func TestComposition(t *testing.T) {
	r := rand.New(rand.NewSource(196))
	held := 0
	for range 3000 {
		one, two := madeSequence(r), madeSequence(r)
		p, notes := policy.Resolve(one)
		both, all := policy.Resolve(slices.Concat(one, two))
		if !failedByChapter(notes) {
			lines, _ := policy.Lines(p)
			again, more := policy.Resolve(append(assigned(lines), two...))
			if !policy.Same(again, both) || !slices.Equal(append(notes, more...), all) {
				t.Fatalf("%s, %s: %s; want %s", short(one), short(two), short(again), short(both))
			}
			for _, a := range two {
				p, more = processByChapter(p, a)
				notes = append(notes, more...)
			}
		}
		if failedByChapter(all) {
			wantSame(t, both, api.Policy{}, true)
			continue
		}
		held++
		if !policy.Same(p, both) || !slices.Equal(notes, all) {
			t.Fatalf("%s, %s: %s; want %s", short(one), short(two), short(both), short(p))
		}
	}
	if held < 1000 {
		t.Errorf("%d held", held)
	}
}

// TestAsFile is of P19.5: the lines, read as a unit file, come to the policy too.
func TestAsFile(t *testing.T) {
	r := rand.New(rand.NewSource(195))
	for range 500 {
		p := made(r)
		lines, _ := policy.Lines(p)
		l, notes := unit.Parse(api.File{Name: "a.service", Bytes: []byte("[Service]\n" + strings.Join(lines, "\n") + "\n")})
		if len(notes) != 0 {
			t.Fatalf("%q: %v", lines, notes)
		}
		wantResolved(t, l, p)
	}
}

// TestMany is of P19.2 and P0.1: many assignments, many notes.
func TestMany(t *testing.T) {
	var l []api.Assign
	for range 5000 {
		l = append(l, at("SystemCallFilter", "~kill nothing"), at("X", ""), at("SystemCallArchitectures", "arm x86"))
	}
	p, notes := policy.Resolve(l)
	if !samePolicy(p, on(filtered(initial(), deny(plain("kill"))), 1, 3)) || len(notes) != 10000 {
		t.Errorf("%s, %d notes", short(p), len(notes))
	}
	for i, n := range notes {
		if n != []api.Note{noted(90, "nothing"), noted(100, "X")}[i%2] {
			t.Fatalf("%d: %+v", i, n)
		}
	}
}

// guarded is a policy whose lists have more behind them, up to their capacity; watched is all that they have.
func guarded(p api.Policy) api.Policy {
	guard := []api.Call{{Name: "guard"}, {Name: "guard", Action: 9}}
	p.Arches = append(slices.Clone(p.Arches), 5, 6, 7)[:len(p.Arches)]
	p.Filter.Calls = append(slices.Clone(p.Filter.Calls), guard...)[:len(p.Filter.Calls)]
	p.Log.Calls = append(slices.Clone(p.Log.Calls), guard...)[:len(p.Log.Calls)]
	p.Families = append(slices.Clone(p.Families), 5, 6, 7)[:len(p.Families)]
	return p
}

func watched(p api.Policy) string {
	p.Arches, p.Filter.Calls, p.Log.Calls, p.Families = p.Arches[:cap(p.Arches)], p.Filter.Calls[:cap(p.Filter.Calls)], p.Log.Calls[:cap(p.Log.Calls)], p.Families[:cap(p.Families)]
	return fmt.Sprintf("%+v", p)
}

// overwrite overwrites what a list has, up to its capacity.
func overwrite[T any](l []T, by T) {
	for i := range l[:cap(l)] {
		l[:cap(l)][i] = by
	}
}

// changed overwrites what a policy has.
func changed(p api.Policy) {
	overwrite(p.Arches, 99)
	overwrite(p.Filter.Calls, api.Call{Name: "changed", Action: 99})
	overwrite(p.Log.Calls, api.Call{Name: "changed", Action: 98})
	overwrite(p.Families, 97)
}

// TestPassed is of P0.4: what is passed stays, also behind its length.
func TestPassed(t *testing.T) {
	r := rand.New(rand.NewSource(4))
	for range 500 {
		p, q := guarded(made(r)), guarded(spoil(r, made(r)))
		beforeP, beforeQ := watched(p), watched(q)
		policy.May(p)
		policy.May(q)
		policy.Same(p, q)
		policy.Lines(p)
		policy.Lines(q)
		if watched(p) != beforeP || watched(q) != beforeQ {
			t.Fatalf("%s %s changed to %s %s", beforeP, beforeQ, watched(p), watched(q))
		}
		l := append(madeSequence(r), at("guard", "1"), at("guard", "2"))
		before := slices.Clone(l)
		_, notes := policy.Resolve(l[:len(l)-2])
		if !slices.Equal(l, before) {
			t.Fatalf("%s changed to %s", short(before), short(l))
		}
		notes = append(notes, noted(150, "guard"))
		kept := slices.Clone(notes)
		policy.Failed(notes[:len(notes)-1])
		if !slices.Equal(notes, kept) {
			t.Fatalf("%s changed to %s", short(kept), short(notes))
		}
	}
}

// TestReturned is of P0.4: what is returned is the caller's, up to its capacity: no other answer hangs on it.
func TestReturned(t *testing.T) {
	r := rand.New(rand.NewSource(5))
	for range 500 {
		l := madeSequence(r)
		want, wantNotes := resolveByChapter(l)
		p, notes := policy.Resolve(l)
		again, others := policy.Resolve(l)
		changed(p)
		overwrite(notes, noted(5, "changed"))
		if !samePolicy(again, want) || !slices.Equal(others, wantNotes) {
			t.Fatalf("%s: what was returned shares memory: %s %s", short(l), short(again), short(others))
		}
		wantResolved(t, l, want, wantNotes...)
		m := made(r)
		lines, _ := policy.Lines(m)
		overwrite(lines, "changed")
		wantLines(t, m, linesByChapter(m)...)
	}
	p := policy.New()
	p.Deny, p.Realtime = 5, true
	wantSame(t, policy.New(), initial(), true)
}

// TestApart is of P0.4: the lists of one policy share no memory.
func TestApart(t *testing.T) {
	r := rand.New(rand.NewSource(6))
	for range 500 {
		l := madeSequence(r)
		want, notes := resolveByChapter(l)
		if failedByChapter(notes) {
			continue
		}
		p, _ := policy.Resolve(l)
		overwrite(p.Filter.Calls, api.Call{Name: "changed"})
		overwrite(p.Arches, 99)
		p.Filter, p.Arches = want.Filter, want.Arches
		wantSame(t, p, want, true)
	}
	p, _ := policy.Resolve([]api.Assign{at("SystemCallFilter", "read write"), at("SystemCallLog", "read write"), at("X", "")})
	overwrite(p.Filter.Calls, api.Call{Name: "changed"})
	if !slices.Equal(p.Log.Calls, []api.Call{plain("read"), plain("write")}) {
		t.Errorf("%v", p.Log)
	}
}

// TestZero is of P0.1 and P0.4: zero values, and lists that are empty and not nil.
func TestZero(t *testing.T) {
	wantResolved(t, []api.Assign{{}}, initial(), api.Note{Err: 100})
	wantResolved(t, []api.Assign{{}, {}}, initial(), api.Note{Err: 100}, api.Note{Err: 100})
	wantResolved(t, []api.Assign{{Section: "Service"}}, initial(), api.Note{Err: 100})
	wantResolved(t, []api.Assign{{Section: "Service", Key: "SystemCallFilter"}}, initial())
	wantResolved(t, []api.Assign{{Key: "SystemCallFilter"}}, initial(), api.Note{Err: 100})
	empty := api.Policy{Arches: []int{}, Filter: api.List{Calls: []api.Call{}}, Log: api.List{Calls: []api.Call{}}, Families: []uint32{}}
	wantMay(t, empty, false)
	empty.Deny = killed
	wantMay(t, empty, true)
	wantLines(t, empty)
	empty.Filter.Mode, empty.Log.Mode, empty.FamiliesMode = 1, 2, 1
	wantLines(t, empty, "SystemCallFilter=read", "SystemCallFilter=~read", "SystemCallLog=~", "RestrictAddressFamilies=none")
}

// TestOrder is of P19.2: the order of assignments counts where their keys are one, and not where they are not.
func TestOrder(t *testing.T) {
	wantResolved(t, []api.Assign{at("LockPersonality", "yes"), at("LockPersonality", "no")}, initial())
	wantResolved(t, []api.Assign{at("LockPersonality", "no"), at("LockPersonality", "yes")}, with(initial(), 2))
	wantResolved(t, []api.Assign{at("SystemCallFilter", "read"), at("SystemCallFilter", "~read kill:5")}, filtered(initial(), allow(failing("kill", 5))))
	wantResolved(t, []api.Assign{at("SystemCallFilter", "~read kill:5"), at("SystemCallFilter", "read")}, filtered(initial(), deny(failing("kill", 5))))
	wantResolved(t, []api.Assign{at("SystemCallErrorNumber", "5"), at("SystemCallFilter", "~kill")}, denied(filtered(initial(), deny(plain("kill"))), failed+5))
	r := rand.New(rand.NewSource(7))
	for range 300 {
		var l []api.Assign
		for _, key := range keys() {
			l = append(l, at(key, madeValue(r, key)))
		}
		want, ok := wantAsChapter(t, l)
		r.Shuffle(len(l), func(i, j int) { l[i], l[j] = l[j], l[i] })
		if got, _ := policy.Resolve(l); ok && !policy.Same(got, want) {
			t.Fatalf("%s: %s; want %s", short(l), short(got), short(want))
		}
	}
}
