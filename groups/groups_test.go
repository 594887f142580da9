package groups_test

import (
	"bytes"
	"slices"
	"sort"
	"strings"
	"testing"

	"vestibule/api"
	"vestibule/calls"
	"vestibule/groups"
)

// chapter is the chapter's table, row by row: a group, and what it names.
const chapter = `
@basic-io | read write close
@clock | clock_settime settimeofday
@debug | ptrace personality
@file | @basic-io open openat ioctl
@memory | brk mmap mprotect munmap pkey_mprotect shmat
@module | delete_module finit_module init_module
@mount | mount umount2
@nest | @nest-2 kill
@nest-2 | @nest-3 getuid
@nest-3 | @nest-4 setuid
@nest-4 | @nest-5 exit
@nest-5 | read
@network | bind connect listen socket
@privileged | @clock @module @mount @reboot bpf setuid
@process | clone clone3 execve exit fork kill setns unshare
@reboot | reboot
@resources | sched_setattr sched_setscheduler
@system | @file @memory @network @process getuid
`

// reading is what the chapter's table says.
type reading struct {
	names   []string
	members map[string][]string
}

// read reads the chapter's table.
func read(t *testing.T) reading {
	t.Helper()
	c := reading{members: map[string][]string{}}
	for line := range strings.Lines(strings.TrimSpace(chapter)) {
		name, members, ok := strings.Cut(line, "|")
		if !ok {
			t.Fatalf("no row: %q", line)
		}
		name = strings.TrimSpace(name)
		c.names = append(c.names, name)
		c.members[name] = strings.Fields(members)
	}
	return c
}

// deep is the depth by the chapter's words: as many steps as there are till nothing but calls is named.
func (c reading) deep(name string) int {
	depth, level := 0, []string{name}
	for {
		var next []string
		known := false
		for _, g := range level {
			if m, ok := c.members[g]; ok {
				known = true
				next = append(next, m...)
			}
		}
		if !known {
			return depth
		}
		depth, level = depth+1, next
	}
}

// contained is what a group contains: what it names, what those name, and so on, till nothing new is found.
func (c reading) contained(name string) []string {
	found := map[string]bool{name: true}
	for grown := true; grown; {
		grown = false
		for g := range c.members {
			for _, m := range c.members[g] {
				if found[g] && !found[m] {
					found[m], grown = true, true
				}
			}
		}
	}
	var l []string
	for m := range found {
		if _, ok := c.members[m]; !ok {
			l = append(l, m)
		}
	}
	sort.Strings(l)
	return l
}

// wantExpand holds what Expand answers against calls and an error.
func wantExpand(t *testing.T, name string, want []string, e api.Errno) {
	t.Helper()
	if got, gotE := groups.Expand(name); !slices.Equal(got, want) || gotE != e {
		t.Errorf("Expand of %q: %q, %d; want %q, %d", name, got, gotE, want, e)
	}
}

// wantUnknown holds that a string is no group's name, to none of the calls.
func wantUnknown(t *testing.T, s string) {
	t.Helper()
	if groups.Known(s) {
		t.Errorf("%q is known", s)
	}
	if got := groups.Members(s); len(got) != 0 {
		t.Errorf("Members of %q: %q", s, got)
	}
	if got := groups.Deep(s); got != 0 {
		t.Errorf("Deep of %q: %d", s, got)
	}
	if got, e := groups.Expand(s); len(got) != 0 || e != api.ErrGroup {
		t.Errorf("Expand of %q: %q, %d", s, got, e)
	}
}

// TestExamples is of P11.1 and P11.2: the chapter's examples.
func TestExamples(t *testing.T) {
	wantExpand(t, "@file", []string{"close", "ioctl", "open", "openat", "read", "write"}, api.OK)
	wantExpand(t, "@nest", nil, api.ErrDeep)
	wantExpand(t, "@nest-2", []string{"exit", "getuid", "read", "setuid"}, api.OK)
	wantExpand(t, "file", nil, api.ErrGroup)
	for name, want := range map[string]int{"@system": 3, "@clock": 1, "read": 0} {
		if got := groups.Deep(name); got != want {
			t.Errorf("Deep of %q: %d; want %d", name, got, want)
		}
	}
}

// TestNames is of P11.1: all eighteen names, ascending, each once.
func TestNames(t *testing.T) {
	c := read(t)
	got := groups.Names()
	if !slices.Equal(got, c.names) || len(got) != 18 {
		t.Errorf("Names: %q; want %q", got, c.names)
	}
	for i := range len(got) - 1 {
		if got[i] >= got[i+1] {
			t.Errorf("%q stands ahead of %q", got[i], got[i+1])
		}
	}
}

// spoil writes into a list, up to its capacity.
func spoil(l []string) {
	_ = append(l, "ahead")
	l = l[:cap(l)]
	for i := range l {
		l[i] = "written"
	}
}

// wantOwn holds that the lists that a call returns share no memory with each other, and that what is written into one changes no later one.
func wantOwn(t *testing.T, what string, want []string, call func() []string) {
	t.Helper()
	first, second := call(), call()
	spoil(first)
	if !slices.Equal(second, want) {
		t.Errorf("%s shares memory with what it returned before: %q; want %q", what, second, want)
	}
	if third := call(); !slices.Equal(third, want) {
		t.Errorf("%s returns what was written: %q; want %q", what, third, want)
	}
}

// TestListsAreTheCallers is of P11.1, P11.2 and P0.4: the lists of Names, Members and Expand.
func TestListsAreTheCallers(t *testing.T) {
	c := read(t)
	wantOwn(t, "Names", c.names, groups.Names)
	for _, name := range c.names {
		wantOwn(t, "Members of "+name, c.members[name], func() []string { return groups.Members(name) })
		if name == "@nest" {
			continue
		}
		wantOwn(t, "Expand of "+name, c.contained(name), func() []string {
			l, _ := groups.Expand(name)
			return l
		})
	}
}

// TestListsAreApart is of P0.4: what is written into the list of one call changes no answer of another one.
func TestListsAreApart(t *testing.T) {
	c := read(t)
	for _, name := range c.names {
		spoil(groups.Names())
		spoil(groups.Members(name))
		l, _ := groups.Expand(name)
		spoil(l)
		for _, other := range c.names {
			wantGroup(t, c, other)
		}
	}
	wantUnknown(t, "written")
	wantUnknown(t, "ahead")
}

// wantGroup holds all that is answered of a group against the chapter's table.
func wantGroup(t *testing.T, c reading, name string) {
	t.Helper()
	if !groups.Known(name) {
		t.Errorf("%q isn't known", name)
	}
	if got := groups.Members(name); !slices.Equal(got, c.members[name]) {
		t.Errorf("Members of %q: %q; want %q", name, got, c.members[name])
	}
	if got, want := groups.Deep(name), c.deep(name); got != want {
		t.Errorf("Deep of %q: %d; want %d", name, got, want)
	}
	if name == "@nest" {
		wantExpand(t, name, nil, api.ErrDeep)
		return
	}
	wantExpand(t, name, c.contained(name), api.OK)
}

// TestGroups is of P11.1 and P11.2: each group by the chapter's table.
func TestGroups(t *testing.T) {
	c := read(t)
	for _, name := range c.names {
		wantGroup(t, c, name)
	}
}

// TestMembersByHand is of P11.1: groups among what is named stand as groups, in the order of the table, which is not that of the letters.
func TestMembersByHand(t *testing.T) {
	for name, want := range map[string]string{
		"@basic-io":   "read write close",
		"@debug":      "ptrace personality",
		"@file":       "@basic-io open openat ioctl",
		"@nest":       "@nest-2 kill",
		"@nest-5":     "read",
		"@privileged": "@clock @module @mount @reboot bpf setuid",
		"@system":     "@file @memory @network @process getuid",
	} {
		if got := strings.Join(groups.Members(name), " "); got != want {
			t.Errorf("Members of %q: %q; want %q", name, got, want)
		}
	}
}

// TestDeepByHand is of P11.1: the depth of each group.
func TestDeepByHand(t *testing.T) {
	for depth, names := range map[int]string{
		1: "@basic-io @clock @debug @memory @module @mount @nest-5 @network @process @reboot @resources",
		2: "@file @nest-4 @privileged",
		3: "@nest-3 @system",
		4: "@nest-2",
		5: "@nest",
	} {
		for _, name := range strings.Fields(names) {
			if got := groups.Deep(name); got != depth {
				t.Errorf("Deep of %q: %d; want %d", name, got, depth)
			}
		}
	}
}

// TestExpandByHand is of P11.2: the calls of each group that has any, ascending.
func TestExpandByHand(t *testing.T) {
	for name, want := range map[string]string{
		"@basic-io":   "close read write",
		"@clock":      "clock_settime settimeofday",
		"@debug":      "personality ptrace",
		"@file":       "close ioctl open openat read write",
		"@memory":     "brk mmap mprotect munmap pkey_mprotect shmat",
		"@module":     "delete_module finit_module init_module",
		"@mount":      "mount umount2",
		"@nest-2":     "exit getuid read setuid",
		"@nest-3":     "exit read setuid",
		"@nest-4":     "exit read",
		"@nest-5":     "read",
		"@network":    "bind connect listen socket",
		"@privileged": "bpf clock_settime delete_module finit_module init_module mount reboot settimeofday setuid umount2",
		"@process":    "clone clone3 execve exit fork kill setns unshare",
		"@reboot":     "reboot",
		"@resources":  "sched_setattr sched_setscheduler",
		"@system":     "bind brk clone clone3 close connect execve exit fork getuid ioctl kill listen mmap mprotect munmap open openat pkey_mprotect read setns shmat socket unshare write",
	} {
		wantExpand(t, name, strings.Fields(want), api.OK)
	}
}

// TestTooDeep is of P11.2 and P0.2: the bound is 4; what is deeper is known, has members, and expands to nothing.
func TestTooDeep(t *testing.T) {
	for _, name := range read(t).names {
		got, e := groups.Expand(name)
		if deeper := groups.Deep(name) > 4; deeper != (e == api.ErrDeep) || deeper != (len(got) == 0) || deeper != (name == "@nest") {
			t.Errorf("Expand of %q, of depth %d: %q, %d", name, groups.Deep(name), got, e)
		}
	}
	if !groups.Known("@nest") || len(groups.Members("@nest")) != 2 {
		t.Error("@nest isn't known, or has no members")
	}
}

// TestSharedCalls is of P11.2: a call that several groups contain is in the Expand of each of them, once.
func TestSharedCalls(t *testing.T) {
	for call, in := range map[string]string{
		"setuid":        "@nest-2 @nest-3 @privileged",
		"exit":          "@nest-2 @nest-3 @nest-4 @process @system",
		"read":          "@basic-io @file @nest-2 @nest-3 @nest-4 @nest-5 @system",
		"kill":          "@process @system",
		"getuid":        "@nest-2 @system",
		"write":         "@basic-io @file @system",
		"reboot":        "@privileged @reboot",
		"settimeofday":  "@clock @privileged",
		"mount":         "@mount @privileged",
		"init_module":   "@module @privileged",
		"shmat":         "@memory @system",
		"socket":        "@network @system",
		"personality":   "@debug",
		"bpf":           "@privileged",
		"sched_setattr": "@resources",
		"seccomp":       "",
	} {
		var got []string
		for _, name := range groups.Names() {
			l, _ := groups.Expand(name)
			for _, m := range l {
				if m == call {
					got = append(got, name)
				}
			}
		}
		if s := strings.Join(got, " "); s != in {
			t.Errorf("%s is in %q; want %q", call, s, in)
		}
	}
}

// TestKnownCalls is of P11.3: what a group contains is known to the package calls, ascends, and is no group.
func TestKnownCalls(t *testing.T) {
	for _, name := range groups.Names() {
		l, _ := groups.Expand(name)
		for i, m := range l {
			if !calls.Known(m) || groups.Known(m) {
				t.Errorf("%q contains %q", name, m)
			}
			if i > 0 && l[i-1] >= m {
				t.Errorf("Expand of %q has %q ahead of %q", name, l[i-1], m)
			}
		}
	}
}

// TestNamedGroups is of P11.3: what is named is a group or a known call, and what a group contains, that is named, is contained too.
func TestNamedGroups(t *testing.T) {
	for _, name := range groups.Names() {
		all, e := groups.Expand(name)
		for _, m := range groups.Members(name) {
			if groups.Known(m) == calls.Known(m) {
				t.Errorf("%q names %q, a group: %t, a call: %t", name, m, groups.Known(m), calls.Known(m))
			}
			if e != api.OK {
				continue
			}
			inner := []string{m}
			if groups.Known(m) {
				inner, _ = groups.Expand(m)
			}
			for _, call := range inner {
				if !slices.Contains(all, call) {
					t.Errorf("%q names %q, but doesn't contain its %q", name, m, call)
				}
			}
		}
	}
}

// others are strings that are no names of groups: calls, other things, and groups that the chapter does not list.
func others() []string {
	return append(calls.Names(),
		"", " ", "\x00", "@", "@@", "-", "~", "*", "0", "1", "-1", "@0", "none", "all", "@all", "native", "x32", "EPERM", "net",
		"@nest-", "@nest-0", "@nest-1", "@nest-6", "@nest-02", "@nest2", "@nest 2", "@default", "@known", "@io", "@raw-io", "@setuid", "@read", "@kill", "@clocks", "@file-system", "@system-service", "@network-io", "@basic", "@basic_io", "@basicio",
		"@file @clock", "@file,@clock", "@file:EIO", "~@file", "@file\x00@clock", "@file\n", "\xff", "@\xff", "@f\u0456le", "\uff20file", "@\u017fystem", "@cloc\u212a", "\u00a0@file", "@file\u200b", "\ufeff@file",
		strings.Repeat("@", 1<<16), strings.Repeat("@file", 1000))
}

// TestOtherStrings is of P11.1, P11.2 and P0.2: strings that are no names of groups, each call's name among them.
func TestOtherStrings(t *testing.T) {
	for _, s := range others() {
		wantUnknown(t, s)
	}
}

// TestWithoutSign is of P11.1: the sign is part of the name, once, and at its beginning.
func TestWithoutSign(t *testing.T) {
	for _, name := range read(t).names {
		wantUnknown(t, name[1:])
		wantUnknown(t, "@"+name)
		wantUnknown(t, name[1:]+"@")
		wantUnknown(t, name+"@")
		wantUnknown(t, "@ "+name[1:])
	}
}

// TestOtherLetters is of P11.1: names are told apart by their letters, capitals among them.
func TestOtherLetters(t *testing.T) {
	for _, name := range read(t).names {
		wantUnknown(t, strings.ToUpper(name))
		for at := range len(name) {
			if other := strings.ToUpper(name[at : at+1]); other != name[at:at+1] {
				wantUnknown(t, name[:at]+other+name[at+1:])
			}
		}
		if other := strings.ReplaceAll(name, "-", "_"); other != name {
			wantUnknown(t, other)
		}
	}
}

// TestBlanks is of P11.1: no blank, and nothing else, may stand ahead of a name or behind it.
func TestBlanks(t *testing.T) {
	for _, name := range read(t).names {
		for _, blank := range []string{" ", "\t", "\n", "\r", "\v", "\f", "\x00", "\u00a0", "\u2003", "\ufeff", "~", "@", ":", "_", "-", "\"", "'"} {
			wantUnknown(t, blank+name)
			wantUnknown(t, name+blank)
			wantUnknown(t, blank+name+blank)
		}
	}
}

// TestNearNames is of P11.1 and P11.2: each name with a byte more, less or another one, at each place; few of them are names.
func TestNearNames(t *testing.T) {
	c := read(t)
	met := map[string]bool{}
	want := func(s string) {
		if slices.Contains(c.names, s) {
			met[s] = true
			wantGroup(t, c, s)
			return
		}
		wantUnknown(t, s)
	}
	for _, name := range c.names {
		for at := range len(name) + 1 {
			want(name[:at])
			want(name[at:])
			if at < len(name) {
				want(name[:at] + name[at+1:])
			}
			for b := byte(' '); b <= 'z'; b++ {
				want(name[:at] + string([]byte{b}) + name[at:])
				if at < len(name) {
					want(name[:at] + string([]byte{b}) + name[at+1:])
				}
			}
		}
	}
	if len(met) != 18 {
		t.Errorf("%d names were met", len(met))
	}
}

// TestPairs is of P11.1: two names one behind the other are no name.
func TestPairs(t *testing.T) {
	c := read(t)
	for _, a := range c.names {
		for _, b := range c.names {
			for _, s := range []string{a + b, a + " " + b, a + "-" + b, a + b[1:]} {
				wantUnknown(t, s)
			}
		}
	}
}

// TestPassedNames is of P0.4: a name that is passed is not changed, and what is passed first changes no later answer.
func TestPassedNames(t *testing.T) {
	c := read(t)
	for _, name := range append(slices.Clone(c.names), others()...) {
		b := []byte(name)
		passed := string(b)
		if slices.Contains(c.names, name) {
			wantGroup(t, c, passed)
		} else {
			wantUnknown(t, passed)
		}
		if !bytes.Equal([]byte(passed), b) {
			t.Errorf("%q is %q after it was passed", name, passed)
		}
	}
	if got := groups.Names(); !slices.Equal(got, c.names) {
		t.Errorf("Names after all of these: %q", got)
	}
}
