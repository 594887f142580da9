package restrict_test

import (
	"fmt"
	"math"
	"math/rand"
	"slices"
	"sort"
	"strings"
	"testing"

	"vestibule/api"
	"vestibule/restrict"
)

// The keys, and all flags of namespaces.
const (
	keyArches       = "SystemCallArchitectures"
	keyFamilies     = "RestrictAddressFamilies"
	keySpaces       = "RestrictNamespaces"
	keyWriteExecute = "MemoryDenyWriteExecute"
	keyPersonality  = "LockPersonality"
	keyRealtime     = "RestrictRealtime"
	keyNoPrivileges = "NoNewPrivileges"
	everySpace      = 0x7e020080
)

// keys are the keys of this layer, truths those of them that are true or false.
func keys() []string { return append([]string{keyArches, keyFamilies, keySpaces}, truths()...) }
func truths() []string {
	return []string{keyWriteExecute, keyPersonality, keyRealtime, keyNoPrivileges}
}

// archesByChapter, familiesByChapter and spacesByChapter are the tables of the layers 8 and 10.
func archesByChapter() map[string]int {
	return map[string]int{"native": 0, "x86-64": 0, "x86": 1, "x32": 2, "arm": 3, "arm64": 4, "riscv64": 5}
}

func familiesByChapter() map[string]uint32 {
	return map[string]uint32{"AF_UNIX": 1, "AF_INET": 2, "AF_INET6": 10, "AF_NETLINK": 16, "AF_PACKET": 17, "AF_BLUETOOTH": 31, "AF_ALG": 38, "AF_VSOCK": 40}
}

func spacesByChapter() map[string]uint64 {
	return map[string]uint64{"time": 0x80, "mnt": 0x20000, "cgroup": 0x2000000, "uts": 0x4000000, "ipc": 0x8000000, "user": 0x10000000, "pid": 0x20000000, "net": 0x40000000}
}

// boolsByChapter are the words of layer 15.
func boolsByChapter() map[string]bool {
	return map[string]bool{"yes": true, "true": true, "on": true, "1": true, "no": false, "false": false, "off": false, "0": false}
}

// sorted are the names of a table, in ascending order.
func sorted[V any](table map[string]V) []string {
	var l []string
	for name := range table {
		l = append(l, name)
	}
	sort.Strings(l)
	return l
}

// wordsByChapter are the words of a value.
func wordsByChapter(s string) []string {
	var l []string
	word := ""
	for _, c := range []byte(s + " ") {
		if c != ' ' && c != '\t' && c != '\r' {
			word += string([]byte{c})
		} else if word != "" {
			l, word = append(l, word), ""
		}
	}
	return l
}

// first is the first 60 bytes of a text.
func first(text string) string {
	if len(text) > 60 {
		return text[:60]
	}
	return text
}

// with is a list in ascending order that has a number, without is one that has it not.
func with[N int | uint32](l []N, n N) []N {
	l = append(without(l, n), n)
	sort.Slice(l, func(i, j int) bool { return l[i] < l[j] })
	return l
}

func without[N int | uint32](l []N, n N) []N {
	var rest []N
	for _, m := range l {
		if m != n {
			rest = append(rest, m)
		}
	}
	return rest
}

// setByChapter is what Set should return, by the chapter's table. The policy's lists are in ascending order.
func setByChapter(p api.Policy, a api.Assign) (api.Policy, []api.Note) {
	var notes []api.Note
	note := func(e api.Errno, text string) {
		notes = append(notes, api.Note{File: a.File, Line: a.Line, Err: e, Text: first(text)})
	}
	switch a.Key {
	case "SystemCallArchitectures":
		p.Arches = archesAfter(p.Arches, a.Value, note)
	case "RestrictAddressFamilies":
		p.FamiliesMode, p.Families = familiesAfter(p.FamiliesMode, p.Families, a.Value, note)
	case "RestrictNamespaces":
		p.Spaces = spacesAfter(p.Spaces, a.Value, note)
	case "MemoryDenyWriteExecute":
		p.WriteExecute = truthAfter(p.WriteExecute, a.Value, note)
	case "LockPersonality":
		p.Personality = truthAfter(p.Personality, a.Value, note)
	case "RestrictRealtime":
		p.Realtime = truthAfter(p.Realtime, a.Value, note)
	case "NoNewPrivileges":
		p.NoPrivileges = truthAfter(p.NoPrivileges, a.Value, note)
	}
	return p, notes
}

func archesAfter(l []int, value string, note func(api.Errno, string)) []int {
	words := wordsByChapter(value)
	if len(words) == 0 {
		return nil
	}
	for _, word := range words {
		if a, ok := archesByChapter()[word]; ok {
			l = with(l, a)
		} else {
			note(80, word)
		}
	}
	return l
}

func familiesAfter(mode uint8, l []uint32, value string, note func(api.Errno, string)) (uint8, []uint32) {
	words := wordsByChapter(value)
	if len(words) == 0 {
		return 0, nil
	}
	if len(words) == 1 && words[0] == "none" {
		return 1, nil
	}
	inverted := value[0] == '~'
	if inverted {
		words = wordsByChapter(value[1:])
	}
	if mode == 0 && inverted {
		mode = 2
	} else if mode == 0 {
		mode = 1
	}
	for _, word := range words {
		family, ok := familiesByChapter()[word]
		switch {
		case !ok:
			note(180, word)
		case inverted && mode == 2, !inverted && mode == 1:
			l = with(l, family)
		default:
			l = without(l, family)
		}
	}
	return mode, l
}

func spacesAfter(before uint64, value string, note func(api.Errno, string)) uint64 {
	words := wordsByChapter(value)
	if len(words) == 0 {
		return 0
	}
	if is, ok := boolsByChapter()[value]; ok && is {
		return everySpace
	} else if ok {
		return 0
	}
	inverted := value[0] == '~'
	if inverted {
		words = wordsByChapter(value[1:])
	}
	good, flags := true, uint64(0)
	for _, word := range words {
		flag, ok := spacesByChapter()[word]
		if !ok {
			note(181, word)
		}
		good, flags = good && ok, flags|flag
	}
	switch {
	case !good:
		return before
	case inverted:
		return flags
	}
	return everySpace - flags
}

func truthAfter(before bool, value string, note func(api.Errno, string)) bool {
	if value == "" {
		return false
	}
	is, ok := boolsByChapter()[value]
	if !ok {
		note(150, value)
		return before
	}
	return is
}

// at is an assignment as the tests mostly have it, noted the note of an error in it.
func at(key, value string) api.Assign {
	return api.Assign{File: "a.service", Line: 7, Section: "Service", Key: key, Value: value}
}

func noted(e api.Errno, text string) api.Note {
	return api.Note{File: "a.service", Line: 7, Err: e, Text: text}
}

// full is a policy of which each part is filled.
func full() api.Policy {
	return api.Policy{
		Arches:       []int{api.X8664, api.X32, api.RiscV64},
		Filter:       api.List{Mode: 1, Calls: []api.Call{{Name: "close", Action: api.Fail | 3}, {Name: "read"}, {Name: "write", Action: api.KillProcess}}},
		Deny:         api.Fail | 77,
		Log:          api.List{Mode: 2, Calls: []api.Call{{Name: "bind"}, {Name: "read"}}},
		Families:     []uint32{1, 10, 40},
		FamiliesMode: 2,
		Spaces:       0x12020080,
		WriteExecute: true, Personality: true, Realtime: true, NoPrivileges: true,
	}
}

// other is a policy of which each part differs from that of full.
func other() api.Policy {
	return api.Policy{
		Arches:       []int{api.Arm},
		Filter:       api.List{Mode: 2, Calls: []api.Call{{Name: "kill"}}},
		Deny:         api.KillProcess,
		Log:          api.List{Mode: 1, Calls: []api.Call{{Name: "close"}}},
		Families:     []uint32{2},
		FamiliesMode: 1,
		Spaces:       0x80,
	}
}

// odd is a policy that no assignments lead to; its lists ascend all the same.
func odd() api.Policy {
	return api.Policy{
		Arches:       []int{-3, 2, 9},
		Filter:       api.List{Mode: 9, Calls: []api.Call{{Name: "z"}, {Name: "a", Action: 1}}},
		Deny:         123,
		Log:          api.List{Calls: []api.Call{{Name: ""}}},
		Families:     []uint32{0, 7, 16, math.MaxUint32},
		FamiliesMode: 0,
		Spaces:       math.MaxUint64,
		Realtime:     true,
	}
}

// policies are policies of all kinds.
func policies() []api.Policy {
	return []api.Policy{{}, {FamiliesMode: 1}, {FamiliesMode: 2}, full(), other(), odd()}
}

// sameList and samePolicy compare by what is in lists: an empty one is as good as nil.
func sameList(a, b api.List) bool { return a.Mode == b.Mode && slices.Equal(a.Calls, b.Calls) }
func samePolicy(a, b api.Policy) bool {
	return slices.Equal(a.Arches, b.Arches) && sameList(a.Filter, b.Filter) && a.Deny == b.Deny && sameList(a.Log, b.Log) &&
		slices.Equal(a.Families, b.Families) && a.FamiliesMode == b.FamiliesMode && a.Spaces == b.Spaces &&
		a.WriteExecute == b.WriteExecute && a.Personality == b.Personality && a.Realtime == b.Realtime && a.NoPrivileges == b.NoPrivileges
}

// short is a thing for a message.
func short(x any) string {
	s := fmt.Sprintf("%+v", x)
	if len(s) > 600 {
		return s[:600] + ".."
	}
	return s
}

// The helpers below end a test at its first difference: those that go through many values would tell thousands.

// wantKey holds whether a key is of this layer.
func wantKey(t *testing.T, key string, want bool) {
	t.Helper()
	if got := restrict.Key(key); got != want {
		t.Fatalf("Key of %q: %t", key, got)
	}
}

// wantSet holds what an assignment makes of a policy.
func wantSet(t *testing.T, p api.Policy, a api.Assign, want api.Policy, notes ...api.Note) {
	t.Helper()
	got, gotNotes := restrict.Set(p, a)
	if !samePolicy(got, want) || !slices.Equal(gotNotes, notes) {
		t.Fatalf("Set of %s by %s:\n%s %s; want\n%s %s", short(p), short(a), short(got), short(gotNotes), short(want), short(notes))
	}
}

// wantAsChapter holds what an assignment makes of a policy against the chapter's words; it tells the policy.
func wantAsChapter(t *testing.T, p api.Policy, a api.Assign) api.Policy {
	t.Helper()
	want, notes := setByChapter(p, a)
	wantSet(t, p, a, want, notes...)
	return want
}

// wantAllAsChapter holds a value against the chapter's words, for each key and on policies of all kinds.
func wantAllAsChapter(t *testing.T, value string) {
	t.Helper()
	for _, p := range policies() {
		for _, key := range keys() {
			wantAsChapter(t, p, at(key, value))
		}
	}
}

// The four below hold what a value makes of one part, with all else of the policy filled.

func wantArches(t *testing.T, before []int, value string, after []int, notes ...api.Note) {
	t.Helper()
	p, want := full(), full()
	p.Arches, want.Arches = before, after
	wantSet(t, p, at(keyArches, value), want, notes...)
}

// families is a list of families with its mode.
type families struct {
	mode uint8
	list []uint32
}

func none() families                     { return families{} }
func allow(list ...uint32) families      { return families{1, list} }
func deny(list ...uint32) families       { return families{2, list} }
func moded(m uint8, f families) families { return families{m, f.list} }

func wantFamilies(t *testing.T, before families, value string, after families, notes ...api.Note) {
	t.Helper()
	p, want := full(), full()
	p.FamiliesMode, p.Families = before.mode, before.list
	want.FamiliesMode, want.Families = after.mode, after.list
	wantSet(t, p, at(keyFamilies, value), want, notes...)
}

func wantSpaces(t *testing.T, before uint64, value string, after uint64, notes ...api.Note) {
	t.Helper()
	p, want := full(), full()
	p.Spaces, want.Spaces = before, after
	wantSet(t, p, at(keySpaces, value), want, notes...)
}

// truthOf is the part of a policy that a key of a truth value names.
func truthOf(p *api.Policy, key string) *bool {
	switch key {
	case keyWriteExecute:
		return &p.WriteExecute
	case keyPersonality:
		return &p.Personality
	case keyRealtime:
		return &p.Realtime
	}
	return &p.NoPrivileges
}

// wantTruth holds a value for each of the four keys, on policies of which that part, and the others, are true or false.
func wantTruth(t *testing.T, value string, after bool) {
	t.Helper()
	for _, p := range policies() {
		for _, key := range truths() {
			for _, before := range []bool{false, true} {
				*truthOf(&p, key) = before
				want := p
				*truthOf(&want, key) = after
				wantSet(t, p, at(key, value), want)
			}
		}
	}
}

// wantNoTruth holds that a value is neither true nor false: nothing changes.
func wantNoTruth(t *testing.T, value string) {
	t.Helper()
	for _, p := range policies() {
		for _, key := range truths() {
			for _, before := range []bool{false, true} {
				*truthOf(&p, key) = before
				wantSet(t, p, at(key, value), p, noted(150, first(value)))
			}
		}
	}
}

// wantInTurn holds what assignments make of a policy one after another.
func wantInTurn(t *testing.T, p api.Policy, l []api.Assign, want api.Policy, notes ...api.Note) {
	t.Helper()
	var all []api.Note
	got := p
	for _, a := range l {
		next, more := restrict.Set(got, a)
		got, all = next, append(all, more...)
	}
	if !samePolicy(got, want) || !slices.Equal(all, notes) {
		t.Fatalf("%s of %s:\n%s %s; want\n%s %s", short(l), short(p), short(got), short(all), short(want), short(notes))
	}
}

// sequence is assignments of one key.
func sequence(key string, values ...string) (l []api.Assign) {
	for _, v := range values {
		l = append(l, at(key, v))
	}
	return l
}

// TestExamples is of P18.2: the chapter's examples.
func TestExamples(t *testing.T) {
	p := api.Policy{}
	wantInTurn(t, p, sequence(keyArches, "native x86"), api.Policy{Arches: []int{0, 1}})
	wantInTurn(t, p, sequence(keyArches, "native x86", "vax"), api.Policy{Arches: []int{0, 1}}, noted(80, "vax"))
	wantInTurn(t, p, sequence(keyFamilies, "AF_UNIX AF_INET", "~AF_UNIX"), api.Policy{Families: []uint32{2}, FamiliesMode: 1})
	wantInTurn(t, p, sequence(keyFamilies, "~AF_INET"), api.Policy{Families: []uint32{2}, FamiliesMode: 2})
	wantInTurn(t, p, sequence(keyFamilies, "none"), api.Policy{FamiliesMode: 1})
	wantInTurn(t, p, sequence(keySpaces, "yes"), api.Policy{Spaces: 0x7e020080})
	wantInTurn(t, p, sequence(keySpaces, "net pid"), api.Policy{Spaces: 0x1e020080})
	wantInTurn(t, p, sequence(keySpaces, "~net"), api.Policy{Spaces: 0x40000000})
	wantInTurn(t, p, sequence(keySpaces, "no"), api.Policy{})
	wantInTurn(t, p, sequence(keySpaces, "disk"), api.Policy{}, noted(181, "disk"))
	wantInTurn(t, p, sequence(keySpaces, "yes", "net pid", "~net", "disk"), api.Policy{Spaces: 0x40000000}, noted(181, "disk"))
	wantInTurn(t, p, sequence(keyPersonality, "on"), api.Policy{Personality: true})
	wantInTurn(t, p, sequence(keyPersonality, "on", ""), p)
	wantInTurn(t, p, sequence(keyPersonality, "on", "", "maybe"), p, noted(150, "maybe"))
	wantInTurn(t, p, sequence(keyPersonality, "on", "maybe"), api.Policy{Personality: true}, noted(150, "maybe"))
}

// TestKey is of P18.1: the seven keys, and keys near them.
func TestKey(t *testing.T) {
	for _, key := range []string{"SystemCallArchitectures", "RestrictAddressFamilies", "RestrictNamespaces", "MemoryDenyWriteExecute", "LockPersonality", "RestrictRealtime", "NoNewPrivileges"} {
		wantKey(t, key, true)
		wantKey(t, strings.ToLower(key), false)
		wantKey(t, strings.ToUpper(key), false)
		wantKey(t, strings.ToLower(key[:1])+key[1:], false)
		for _, white := range []string{" ", "\t", "\r", "\n", "\x00", "=", "~", "."} {
			wantKey(t, key+white, false)
			wantKey(t, white+key, false)
		}
		for i := range len(key) {
			wantKey(t, key[:i], false)
			wantKey(t, key[i+1:], false)
			wantKey(t, key[:i]+key[i+1:], false)
			wantKey(t, key[:i]+" "+key[i:], false)
			wantKey(t, key[:i]+string(key[i]^0x20)+key[i+1:], false)
			wantKey(t, key[:i]+key[i:i+1]+key[i:], false)
		}
		for _, more := range append(keys(), "s", "Number", "Filters", key, "\xff", "é") {
			wantKey(t, key+more, false)
			wantKey(t, more+key, false)
		}
	}
	wantKey(t, "", false)
}

// otherKeys are keys of other layers, and such as no layer has.
func otherKeys() []string {
	l := []string{
		"SystemCallFilter", "SystemCallLog", "SystemCallErrorNumber",
		"", " ", "SystemCall", "Restrict", "Architectures", "Families", "Namespaces", "RestrictFamilies", "RestrictNamespace", "DenyWriteExecute", "Personality", "Realtime", "NoPrivileges", "NoNewPrivilege",
		"Service", "ExecStart", "x86", "AF_UNIX", "net", "yes", "none", "\x00", "\xff", strings.Repeat("k", 1000),
	}
	for _, key := range keys() {
		l = append(l, " "+key, key+" ", strings.ToLower(key), strings.ToUpper(key), key+"s", key[1:], key[:len(key)-1], key+key)
	}
	return l
}

// TestOtherKeys is of P18.1 and P18.2: they are not of this layer, and do nothing.
func TestOtherKeys(t *testing.T) {
	for _, key := range otherKeys() {
		wantKey(t, key, false)
		for _, p := range policies() {
			for _, value := range []string{"", " ", "x86", "vax", "AF_UNIX", "~AF_UNIX", "none", "yes", "no", "net", "~net", "maybe", "~"} {
				wantSet(t, p, at(key, value), p)
			}
		}
	}
}

// TestArches is of P18.2 and P18.4: each architecture, on empty and on filled lists.
func TestArches(t *testing.T) {
	for name, a := range archesByChapter() {
		wantArches(t, nil, name, []int{a})
		wantArches(t, []int{a}, name, []int{a})
		wantArches(t, []int{0, 1, 2, 3, 4, 5}, name, []int{0, 1, 2, 3, 4, 5})
		wantArches(t, without([]int{0, 1, 2, 3, 4, 5}, a), name, []int{0, 1, 2, 3, 4, 5})
		wantArches(t, nil, name+" "+name, []int{a})
		wantArches(t, nil, " \t"+name+"\r", []int{a})
		wantArches(t, []int{-1, 9}, name, []int{-1, a, 9})
		for second, b := range archesByChapter() {
			wantArches(t, []int{b}, name, with([]int{b}, a))
			wantArches(t, nil, name+" "+second, with([]int{b}, a))
			wantArches(t, []int{2, 3}, name+"\t"+second, with(with([]int{2, 3}, a), b))
		}
	}
	wantArches(t, nil, "native x86-64", []int{0})
	wantArches(t, nil, "riscv64 arm64 arm x32 x86 native", []int{0, 1, 2, 3, 4, 5})
	wantArches(t, []int{3}, "arm64 x32 arm x32 arm64", []int{2, 3, 4})
	for _, value := range []string{"", " ", "\t", "\r", " \t\r ", strings.Repeat(" ", 1000)} {
		for _, l := range [][]int{nil, {}, {0}, {5}, {0, 1, 2, 3, 4, 5}} {
			wantArches(t, l, value, nil)
		}
	}
}

// orders calls what is given with each order of the names.
func orders(names []string, with func([]string)) {
	var from func(done, left []string)
	from = func(done, left []string) {
		if len(left) == 0 {
			with(done)
		}
		for i := range left {
			from(append(slices.Clone(done), left[i]), slices.Delete(slices.Clone(left), i, i+1))
		}
	}
	from(nil, names)
}

// TestOrders is of P18.4: whatever order names come in, at once or one after another, the lists ascend, each element once.
func TestOrders(t *testing.T) {
	orders(sorted(archesByChapter()), func(l []string) {
		wantSet(t, api.Policy{}, at(keyArches, strings.Join(l, " ")), api.Policy{Arches: []int{0, 1, 2, 3, 4, 5}})
	})
	orders(sorted(familiesByChapter())[:7], func(l []string) {
		all := []uint32{1, 2, 10, 16, 17, 31, 38}
		value := strings.Join(l, " ")
		wantSet(t, api.Policy{}, at(keyFamilies, value), api.Policy{FamiliesMode: 1, Families: all})
		wantSet(t, api.Policy{FamiliesMode: 2, Families: []uint32{10, 40}}, at(keyFamilies, "~"+value), api.Policy{FamiliesMode: 2, Families: append(all, 40)})
	})
	orders(sorted(familiesByChapter())[3:], func(l []string) {
		p := api.Policy{}
		for i, name := range l {
			p = wantAsChapter(t, p, at(keyFamilies, name))
			if len(p.Families) != i+1 || !sort.SliceIsSorted(p.Families, func(i, j int) bool { return p.Families[i] < p.Families[j] }) {
				t.Fatalf("%v: %v", l, p.Families)
			}
		}
		for _, name := range l[:len(l)-1] {
			p = wantAsChapter(t, p, at(keyFamilies, "~"+name))
		}
		wantSet(t, p, at(keyFamilies, "~"+l[len(l)-1]), api.Policy{FamiliesMode: 1})
	})
}

// TestNoArches is of P18.2: words that are no architecture are noted, the others taken all the same.
func TestNoArches(t *testing.T) {
	wantArches(t, nil, "vax", nil, noted(80, "vax"))
	wantArches(t, []int{2, 4}, "vax", []int{2, 4}, noted(80, "vax"))
	wantArches(t, []int{2}, "vax x86 pdp11 arm vax", []int{1, 2, 3}, noted(80, "vax"), noted(80, "pdp11"), noted(80, "vax"))
	wantArches(t, nil, "x86 vax", []int{1}, noted(80, "vax"))
	// A value of architectures is not inverted.
	wantArches(t, []int{1, 2}, "~x86", []int{1, 2}, noted(80, "~x86"))
	wantArches(t, []int{1, 2}, "~ x32 arm", []int{1, 2, 3}, noted(80, "~"))
	wantArches(t, []int{1}, "~", []int{1}, noted(80, "~"))
	wantArches(t, []int{1}, "none", []int{1}, noted(80, "none"))
	wantArches(t, []int{1}, "yes no", []int{1}, noted(80, "yes"), noted(80, "no"))
	for name := range archesByChapter() {
		for _, word := range []string{strings.ToUpper(name), name + ",", "~" + name, name + "\x00", name + "\n", name + "\v", "\"" + name + "\"", name + name, name + "é"} {
			wantArches(t, []int{1}, word, []int{1}, noted(80, word))
			wantArches(t, []int{1}, word+" arm "+word, []int{1, 3}, noted(80, word), noted(80, word))
		}
	}
}

// TestFamilies is of P18.2 and P18.4: each family, inverted and not, in each mode, on empty and on filled lists.
func TestFamilies(t *testing.T) {
	all := []uint32{1, 2, 10, 16, 17, 31, 38, 40}
	for name, n := range familiesByChapter() {
		for _, l := range [][]uint32{nil, {n}, {2, 17}, {0, 99, math.MaxUint32}, all, without(all, n)} {
			added, removed := with(l, n), without(l, n)
			for _, value := range []string{name, " " + name, name + "\t", name + " " + name} {
				wantFamilies(t, families{0, l}, value, families{1, added})
				wantFamilies(t, families{1, l}, value, families{1, added})
				wantFamilies(t, families{2, l}, value, families{2, removed})
			}
			for _, value := range []string{"~" + name, "~ " + name, "~" + name + "\r", "~" + name + " " + name} {
				wantFamilies(t, families{0, l}, value, families{2, added})
				wantFamilies(t, families{1, l}, value, families{1, removed})
				wantFamilies(t, families{2, l}, value, families{2, added})
			}
		}
	}
	wantFamilies(t, none(), "AF_VSOCK AF_UNIX AF_INET6", allow(1, 10, 40))
	wantFamilies(t, none(), "~AF_VSOCK AF_UNIX AF_INET6", deny(1, 10, 40))
	wantFamilies(t, allow(2, 16), "AF_UNIX AF_PACKET AF_INET", allow(1, 2, 16, 17))
	wantFamilies(t, deny(2, 16), "AF_UNIX AF_PACKET AF_INET", deny(16))
	wantFamilies(t, allow(2, 16), "~AF_UNIX AF_PACKET AF_INET", allow(16))
	wantFamilies(t, deny(2, 16), "~AF_UNIX AF_PACKET AF_INET", deny(1, 2, 16, 17))
	// A mode that there is not is none of the two that add.
	wantFamilies(t, moded(3, allow(2, 16)), "AF_INET AF_UNIX", moded(3, allow(16)))
	wantFamilies(t, moded(255, allow(2, 16)), "~AF_INET AF_UNIX", moded(255, allow(16)))
}

// TestNoFamilies is of P18.2: values of no words, `none`, and `~` alone.
func TestNoFamilies(t *testing.T) {
	for _, l := range []families{none(), allow(), deny(), allow(1, 2), deny(1, 2), moded(0, allow(1)), moded(9, allow(1))} {
		for _, value := range []string{"", " ", "\t", "\r", " \t\r ", strings.Repeat(" ", 1000)} {
			wantFamilies(t, l, value, none())
		}
		for _, value := range []string{"none", " none", "none ", "\t none\r "} {
			wantFamilies(t, l, value, allow())
		}
		moded := l
		if l.mode == 0 {
			moded.mode = 2
		}
		for _, value := range []string{"~", "~ ", "~\t \r"} {
			wantFamilies(t, l, value, moded)
		}
	}
	// `none` is a word for it where it is the only one, and the value is not inverted.
	wantFamilies(t, none(), "none none", allow(), noted(180, "none"), noted(180, "none"))
	wantFamilies(t, deny(1, 2), "none none", deny(1, 2), noted(180, "none"), noted(180, "none"))
	wantFamilies(t, none(), "~none", deny(), noted(180, "none"))
	wantFamilies(t, none(), "~ none", deny(), noted(180, "none"))
	wantFamilies(t, allow(1, 2), "~none", allow(1, 2), noted(180, "none"))
	wantFamilies(t, none(), " ~none", allow(), noted(180, "~none"))
	wantFamilies(t, none(), "none AF_UNIX", allow(1), noted(180, "none"))
	wantFamilies(t, allow(2), "AF_UNIX none", allow(1, 2), noted(180, "none"))
	wantFamilies(t, deny(1, 2), "AF_UNIX none", deny(2), noted(180, "none"))
	wantFamilies(t, none(), "~AF_UNIX none", deny(1), noted(180, "none"))
	for _, word := range []string{"None", "NONE", "non", "nones", "none,", "none~", "none\x00", "none\n"} {
		wantFamilies(t, none(), word, allow(), noted(180, word))
		wantFamilies(t, deny(2), word, deny(2), noted(180, word))
	}
}

// TestUnknownFamilies is of P18.2: words that are no family are noted, the others taken all the same, and the mode is determined all the same.
func TestUnknownFamilies(t *testing.T) {
	wantFamilies(t, none(), "AF_X", allow(), noted(180, "AF_X"))
	wantFamilies(t, none(), "~AF_X", deny(), noted(180, "AF_X"))
	wantFamilies(t, none(), "AF_X AF_INET 2 AF_UNIX af_unix", allow(1, 2), noted(180, "AF_X"), noted(180, "2"), noted(180, "af_unix"))
	wantFamilies(t, deny(10), "~AF_X AF_INET 2 AF_UNIX AF_X", deny(1, 2, 10), noted(180, "AF_X"), noted(180, "2"), noted(180, "AF_X"))
	wantFamilies(t, deny(1, 10), "AF_X AF_INET6 x", deny(1), noted(180, "AF_X"), noted(180, "x"))
	// White space ahead of `~`, and a second one, make it part of a word.
	wantFamilies(t, none(), " ~AF_UNIX", allow(), noted(180, "~AF_UNIX"))
	wantFamilies(t, none(), "~~AF_UNIX", deny(), noted(180, "~AF_UNIX"))
	wantFamilies(t, none(), "~AF_INET ~AF_UNIX", deny(2), noted(180, "~AF_UNIX"))
	wantFamilies(t, none(), "AF_INET ~AF_UNIX ~", allow(2), noted(180, "~AF_UNIX"), noted(180, "~"))
	wantFamilies(t, allow(1), " ~", allow(1), noted(180, "~"))
	wantFamilies(t, none(), "yes", allow(), noted(180, "yes"))
	wantFamilies(t, none(), "no", allow(), noted(180, "no"))
	for name := range familiesByChapter() {
		for _, word := range []string{strings.ToLower(name), name[3:], name + ",", name + "\x00", name + "\n", name + "\v", name + name, name + "7", "é" + name} {
			wantFamilies(t, allow(1, 2), word, allow(1, 2), noted(180, word))
			wantFamilies(t, allow(1, 2), "~"+word+" AF_INET "+word, allow(1), noted(180, word), noted(180, word))
		}
	}
}

// subsets calls what is given with each subset of the namespaces: their names and their flags.
func subsets(with func(names []string, flags uint64)) {
	names := sorted(spacesByChapter())
	for set := range 1 << len(names) {
		var l []string
		var flags uint64
		for i, name := range names {
			if set>>i&1 == 1 {
				l, flags = append(l, name), flags|spacesByChapter()[name]
			}
		}
		with(l, flags)
	}
}

// TestSpaces is of P18.2 and P18.5: all sets of namespaces, inverted and not, whatever was set ahead.
func TestSpaces(t *testing.T) {
	for _, before := range []uint64{0, everySpace, 0x80, math.MaxUint64} {
		subsets(func(names []string, flags uint64) {
			value := strings.Join(names, " ")
			wantSpaces(t, before, "~"+value, flags)
			wantSpaces(t, before, "~ "+value+"\t", flags)
			if len(names) == 0 {
				wantSpaces(t, before, value, 0)
				return
			}
			wantSpaces(t, before, value, everySpace-flags)
			wantSpaces(t, before, " "+strings.Join(names, "\r\t ")+" "+names[0], everySpace-flags)
			slices.Reverse(names)
			wantSpaces(t, before, strings.Join(names, " "), everySpace-flags)
			wantSpaces(t, before, "~"+strings.Join(names, " ")+" "+names[0], flags)
		})
	}
	wantSpaces(t, 5, "net pid", 0x1e020080)
	wantSpaces(t, 5, "~net", 0x40000000)
	wantSpaces(t, 5, "~net pid time", 0x60000080)
}

// TestInversion is of P18.5: each namespace is denied by one of the two values, and by one alone.
func TestInversion(t *testing.T) {
	subsets(func(names []string, flags uint64) {
		if len(names) == 0 {
			return
		}
		value := strings.Join(names, " ")
		p, _ := restrict.Set(full(), at(keySpaces, value))
		inverted, _ := restrict.Set(full(), at(keySpaces, "~"+value))
		if p.Spaces&inverted.Spaces != 0 || p.Spaces|inverted.Spaces != everySpace {
			t.Fatalf("%s: %#x, %#x", value, p.Spaces, inverted.Spaces)
		}
	})
}

// TestSpacesTruths is of P18.2: words for true and for false, and values of no words.
func TestSpacesTruths(t *testing.T) {
	for _, before := range []uint64{0, everySpace, 0x80, 1, math.MaxUint64} {
		for word, is := range boolsByChapter() {
			if is {
				wantSpaces(t, before, word, everySpace)
			} else {
				wantSpaces(t, before, word, 0)
			}
			// They count as the whole value alone.
			for _, value := range []string{"~" + word, "~ " + word, " " + word, word + " ", word + "\t", "\r" + word, "net " + word + " pid"} {
				wantSpaces(t, before, value, before, noted(181, word))
			}
			wantSpaces(t, before, word+" "+word, before, noted(181, word), noted(181, word))
			wantSpaces(t, before, " ~"+word, before, noted(181, "~"+word))
			wantSpaces(t, before, strings.ToUpper(word)+".", before, noted(181, strings.ToUpper(word)+"."))
		}
		for _, value := range []string{"", " ", "\t", "\r", " \t\r ", strings.Repeat(" ", 1000), "~", "~ ", "~\t\r "} {
			wantSpaces(t, before, value, 0)
		}
	}
}

// TestUnknownSpaces is of P18.2: each word that is no namespace is noted, and then nothing changes.
func TestUnknownSpaces(t *testing.T) {
	for _, before := range []uint64{0, everySpace, 0x80, math.MaxUint64} {
		wantSpaces(t, before, "disk", before, noted(181, "disk"))
		wantSpaces(t, before, "~disk", before, noted(181, "disk"))
		wantSpaces(t, before, "net disk", before, noted(181, "disk"))
		wantSpaces(t, before, "disk net", before, noted(181, "disk"))
		wantSpaces(t, before, "~disk net", before, noted(181, "disk"))
		wantSpaces(t, before, "~net disk", before, noted(181, "disk"))
		wantSpaces(t, before, "a net b pid a ~c", before, noted(181, "a"), noted(181, "b"), noted(181, "a"), noted(181, "~c"))
		wantSpaces(t, before, "~a net b pid a ~c", before, noted(181, "a"), noted(181, "b"), noted(181, "a"), noted(181, "~c"))
		wantSpaces(t, before, "~~net", before, noted(181, "~net"))
		wantSpaces(t, before, " ~net", before, noted(181, "~net"))
		wantSpaces(t, before, " ~", before, noted(181, "~"))
		wantSpaces(t, before, "none", before, noted(181, "none"))
		for name := range spacesByChapter() {
			for _, word := range []string{strings.ToUpper(name), name[1:], name + ",", name + "\x00", name + "\n", name + "\v", name + name, name + "s", "é" + name} {
				wantSpaces(t, before, word, before, noted(181, word))
				wantSpaces(t, before, "~user "+word+" net", before, noted(181, word))
			}
		}
	}
}

// TestTruths is of P18.2: the empty value, and the words for true and for false.
func TestTruths(t *testing.T) {
	wantTruth(t, "", false)
	for word, is := range boolsByChapter() {
		wantTruth(t, word, is)
	}
}

// TestNoTruths is of P18.2: other values, among them near ones and white space alone.
func TestNoTruths(t *testing.T) {
	for _, value := range []string{" ", "\t", "\r", "\n", "  ", " \t\r", "~", "maybe", "perhaps", "y", "n", "t", "f", "2", "00", "01", "10", "-1", "+1", "yes no", "none", "net", "\x00", "\xff", "\"yes\"", "Enabled"} {
		wantNoTruth(t, value)
	}
	for word := range boolsByChapter() {
		for _, piece := range []string{" ", "\t", "\r", "\n", "\x00", "~", ".", "x", word, "é"} {
			wantNoTruth(t, word+piece)
			wantNoTruth(t, piece+word)
		}
		if upper := strings.ToUpper(word); upper != word {
			wantNoTruth(t, upper)
			wantNoTruth(t, upper[:1]+word[1:])
		}
		if len(word) > 1 {
			wantNoTruth(t, word[1:])
			wantNoTruth(t, word[:len(word)-1])
		}
	}
}

// lengths are lengths of texts around the bound.
func lengths() []int { return []int{1, 2, 58, 59, 60, 61, 62, 119, 120, 121, 1000, 65000} }

// TestTexts is of P18.2: the first 60 bytes of a word, or of the value of a truth, whatever they are.
func TestTexts(t *testing.T) {
	for _, n := range lengths() {
		for _, piece := range []string{"x", "é", "\xff", "\u20ac", "xy"} {
			word := strings.Repeat(piece, n)[:n]
			text := word[:min(n, 60)]
			wantArches(t, []int{1}, word, []int{1}, noted(80, text))
			wantArches(t, []int{1}, "arm "+word+" x86 "+word, []int{1, 3}, noted(80, text), noted(80, text))
			wantFamilies(t, none(), word, allow(), noted(180, text))
			wantFamilies(t, none(), "~ AF_UNIX "+word+" "+word, deny(1), noted(180, text), noted(180, text))
			wantSpaces(t, 0x80, word, 0x80, noted(181, text))
			wantSpaces(t, 0x80, "~net "+word+" x", 0x80, noted(181, text), noted(181, "x"))
			wantNoTruth(t, word)
		}
		// Of a truth it is the value, white space and `~` and all.
		for _, piece := range []string{" ", "~", "ab ", "\t", "~ x"} {
			wantNoTruth(t, strings.Repeat(piece, n)[:n])
		}
	}
	wantNoTruth(t, "yes"+strings.Repeat(" ", 60))
	wantNoTruth(t, strings.Repeat(" ", 60)+"yes")
	wantNoTruth(t, "~"+strings.Repeat("yes ", 30))
	wantArches(t, nil, "arm"+strings.Repeat("x", 60), nil, noted(80, "arm"+strings.Repeat("x", 57)))
	wantFamilies(t, none(), "~"+strings.Repeat("a", 60), deny(), noted(180, strings.Repeat("a", 60)))
	wantSpaces(t, 1, strings.Repeat("a", 60)+" net", 1, noted(181, strings.Repeat("a", 60)))
}

// TestPlaces is of P18.2: each note has the file and the line of its assignment, whatever they are, in the order of the words.
func TestPlaces(t *testing.T) {
	for _, file := range []string{"", " ", "a.service", "10-a.conf", "\x00\xff", strings.Repeat("f", 1000)} {
		for _, line := range []int{0, 1, 2, 1000, 65536, -1, math.MaxInt, math.MinInt} {
			for _, key := range keys() {
				e := map[string]api.Errno{keyArches: 80, keyFamilies: 180, keySpaces: 181}[key]
				in := func(text string) api.Note { return api.Note{File: file, Line: line, Err: e, Text: text} }
				notes := []api.Note{in("b"), in("a"), in("c"), in("a"), in("~")}
				if e == 0 {
					notes = []api.Note{{File: file, Line: line, Err: 150, Text: "b a c a ~"}}
				}
				for _, section := range []string{"Service", ""} {
					wantSet(t, full(), api.Assign{File: file, Line: line, Section: section, Key: key, Value: "b a c a ~"}, full(), notes...)
				}
			}
		}
	}
	one, two, three := at(keyArches, "x y"), at(keySpaces, "~z"), at(keyRealtime, "w w")
	two.File, two.Line = "b.conf", 9
	three.File, three.Line = "", 0
	wantInTurn(t, full(), []api.Assign{one, two, three, one}, full(),
		noted(80, "x"), noted(80, "y"), api.Note{File: "b.conf", Line: 9, Err: 181, Text: "z"}, api.Note{Err: 150, Text: "w w"}, noted(80, "x"), noted(80, "y"))
}

// TestSection is of P18.2: the section is not examined.
func TestSection(t *testing.T) {
	for _, section := range []string{"", "Service", "service", "Unit", "Install", "[Service]", " ", "\xff", keyArches, strings.Repeat("S", 1000)} {
		for _, p := range policies() {
			for _, key := range append(keys(), "SystemCallFilter") {
				for _, value := range []string{"", "x86", "AF_UNIX", "~AF_UNIX x", "net", "yes", "maybe"} {
					a := at(key, value)
					want, notes := setByChapter(p, a)
					a.Section = section
					wantSet(t, p, a, want, notes...)
				}
			}
		}
	}
}

// restored is a policy with the parts that a key names taken from another.
func restored(p api.Policy, key string, from api.Policy) api.Policy {
	switch key {
	case keyArches:
		p.Arches = from.Arches
	case keyFamilies:
		p.Families, p.FamiliesMode = from.Families, from.FamiliesMode
	case keySpaces:
		p.Spaces = from.Spaces
	default:
		*truthOf(&p, key) = *truthOf(&from, key)
	}
	return p
}

// TestIsolation is of P18.3: with every part filled, and each part by itself, only what the key names becomes another.
func TestIsolation(t *testing.T) {
	ahead := append(policies(),
		api.Policy{Arches: []int{2}}, api.Policy{Filter: full().Filter}, api.Policy{Deny: 9}, api.Policy{Log: full().Log}, api.Policy{Families: []uint32{5}}, api.Policy{FamiliesMode: 1}, api.Policy{Spaces: 8},
		api.Policy{WriteExecute: true}, api.Policy{Personality: true}, api.Policy{Realtime: true}, api.Policy{NoPrivileges: true})
	for _, p := range ahead {
		for _, value := range []string{"", " ", "yes", "no", "on", "0", "x86", "native arm", "vax", "none", "AF_INET", "~AF_UNIX AF_ALG x", "net", "~net pid", "disk", "~", "maybe"} {
			for _, key := range keys() {
				got, _ := restrict.Set(p, at(key, value))
				if !samePolicy(restored(got, key, p), p) {
					t.Fatalf("%s=%s changed %s to %s", key, value, short(p), short(got))
				}
				wantAsChapter(t, p, at(key, value))
			}
		}
	}
}

// TestOneAfterAnother is of P18.2: several values of a key, and of all keys.
func TestOneAfterAnother(t *testing.T) {
	p := api.Policy{}
	wantInTurn(t, p, sequence(keyArches, "x32", "native", "", "arm", "x86"), api.Policy{Arches: []int{1, 3}})
	wantInTurn(t, p, sequence(keyFamilies, "AF_INET", "~AF_INET AF_UNIX", "AF_ALG"), api.Policy{FamiliesMode: 1, Families: []uint32{38}})
	wantInTurn(t, p, sequence(keyFamilies, "~AF_INET", "AF_INET AF_UNIX", "~AF_ALG"), api.Policy{FamiliesMode: 2, Families: []uint32{38}})
	wantInTurn(t, p, sequence(keyFamilies, "AF_INET", "", "~AF_UNIX"), api.Policy{FamiliesMode: 2, Families: []uint32{1}})
	wantInTurn(t, p, sequence(keyFamilies, "~AF_INET", "none", "~AF_UNIX"), api.Policy{FamiliesMode: 1})
	wantInTurn(t, p, sequence(keyFamilies, "~AF_INET", "none", "AF_UNIX"), api.Policy{FamiliesMode: 1, Families: []uint32{1}})
	wantInTurn(t, p, sequence(keyFamilies, "~", "AF_UNIX", "~AF_INET"), api.Policy{FamiliesMode: 2, Families: []uint32{2}})
	wantInTurn(t, p, sequence(keySpaces, "~net", "~pid"), api.Policy{Spaces: 0x20000000})
	wantInTurn(t, p, sequence(keySpaces, "yes", "disk", "~x"), api.Policy{Spaces: everySpace}, noted(181, "disk"), noted(181, "x"))
	wantInTurn(t, p, sequence(keyRealtime, "yes", "x", "no", "1"), api.Policy{Realtime: true}, noted(150, "x"))
	wantInTurn(t, p, []api.Assign{at(keyNoPrivileges, "on"), at(keyArches, "arm"), at(keyFamilies, "AF_UNIX"), at(keySpaces, "~net"), at(keyWriteExecute, "yes"), at(keyPersonality, "x"), at("SystemCallFilter", "read")},
		api.Policy{NoPrivileges: true, Arches: []int{3}, FamiliesMode: 1, Families: []uint32{1}, Spaces: 0x40000000, WriteExecute: true}, noted(150, "x"))
}

// TestShort is of P18.2: all short values of pieces that count, and each byte beside them.
func TestShort(t *testing.T) {
	var from func(s string, n int)
	from = func(s string, n int) {
		wantAllAsChapter(t, s)
		if n == 0 {
			return
		}
		for _, piece := range []string{" ", "\t", "~", "none", "yes", "0", "x", "AF_UNIX", "AF_INET", "net", "pid", "x86", "native"} {
			from(s+piece, n-1)
		}
	}
	from("", 3)
	for c := range 256 {
		b := string([]byte{byte(c)})
		for _, s := range []string{"", "none", "yes", "off", "AF_ALG", "~AF_UNIX AF_INET", "net", "~pid net", "x86 arm", "native"} {
			for i := range len(s) + 1 {
				wantAllAsChapter(t, s[:i]+b+s[i:])
				if i < len(s) {
					wantAllAsChapter(t, s[:i]+b+s[i+1:])
				}
			}
		}
	}
}

// value is a value that is made: mostly of words of one kind.
func value(r *rand.Rand, key string) string {
	kinds := [][]string{sorted(archesByChapter()), sorted(familiesByChapter()), sorted(spacesByChapter()), sorted(boolsByChapter())}
	kind := kinds[min(slices.Index(keys(), key), 3)]
	if r.Intn(10) == 0 {
		kind = kinds[r.Intn(4)]
	}
	var l []string
	for range r.Intn(5) {
		if r.Intn(8) == 0 {
			l = append(l, []string{"", "none", "x", "~", "AF_", "~net", strings.Repeat("w", r.Intn(130))}[r.Intn(7)])
		} else {
			l = append(l, kind[r.Intn(len(kind))])
		}
	}
	if r.Intn(3) == 0 {
		l = l[:min(len(l), 1)]
	}
	return []string{"", "", "~", "~", "~ ", " "}[r.Intn(6)] + strings.Join(l, []string{" ", "\t", "\r", "  "}[r.Intn(4)])
}

// TestMade is of P18.2, P18.3 and P18.4: made assignments on the policies that they lead to.
func TestMade(t *testing.T) {
	r := rand.New(rand.NewSource(182))
	for range 500 {
		p := policies()[r.Intn(6)]
		for range 100 {
			key := keys()[r.Intn(7)]
			a := api.Assign{File: []string{"", "a.service", "b.conf"}[r.Intn(3)], Line: r.Intn(1000), Section: []string{"Service", "Unit", ""}[r.Intn(3)], Key: key, Value: value(r, key)}
			if r.Intn(12) == 0 {
				l := otherKeys()
				a.Key = l[r.Intn(len(l))]
			}
			p = wantAsChapter(t, p, a)
		}
	}
}

// TestMany is of P18.2 and P0.1: a value as long as files can be, and many notes.
func TestMany(t *testing.T) {
	for key, e := range map[string]api.Errno{keyArches: 80, keyFamilies: 180, keySpaces: 181} {
		p, notes := restrict.Set(full(), at(key, strings.Repeat(": ", api.MaxBytes/2)))
		if !samePolicy(p, full()) || len(notes) != api.MaxBytes/2 {
			t.Errorf("%s: %s, %d notes", key, short(p), len(notes))
		}
		for _, n := range notes {
			if n != noted(e, ":") {
				t.Fatalf("%+v", n)
			}
		}
	}
	wantArches(t, nil, strings.Repeat("arm x86 ", 8000), []int{1, 3})
	wantFamilies(t, none(), "~"+strings.Repeat("AF_ALG AF_UNIX ", 4000), deny(1, 38))
	wantSpaces(t, 1, "~"+strings.Repeat("net ", 16000), 0x40000000)
	wantNoTruth(t, strings.Repeat("1", api.MaxBytes))
	wantKey(t, strings.Repeat(keyArches, 4096), false)
}

// anyOrder are lists that do not ascend.
func anyOrder() api.Policy {
	return api.Policy{Arches: []int{9, 1, 1, -3}, FamiliesMode: 1, Families: []uint32{40, 2, 2, 0}}
}

// TestAnyOrder is of P0.1: lists that do not ascend do no harm; what is added is there once, what is removed is gone, the others stay in their order.
func TestAnyOrder(t *testing.T) {
	p, _ := restrict.Set(anyOrder(), at(keyArches, "arm arm"))
	if !slices.Contains(p.Arches, 3) || !slices.Equal(without(p.Arches, 3), anyOrder().Arches) || len(p.Arches) != 5 {
		t.Errorf("%v", p.Arches)
	}
	wantSet(t, anyOrder(), at(keyArches, "x86"), anyOrder())
	p, _ = restrict.Set(anyOrder(), at(keyFamilies, "AF_PACKET AF_PACKET"))
	if !slices.Contains(p.Families, 17) || !slices.Equal(without(p.Families, 17), anyOrder().Families) || len(p.Families) != 5 {
		t.Errorf("%v", p.Families)
	}
	wantSet(t, anyOrder(), at(keyFamilies, "AF_INET"), anyOrder())
	want := anyOrder()
	want.Families = []uint32{40, 0}
	wantSet(t, anyOrder(), at(keyFamilies, "~AF_INET"), want)
}

// guarded is a policy whose lists have more behind them, up to their capacity; watched is all that they have.
func guarded(p api.Policy) api.Policy {
	guard := []api.Call{{Name: "guard"}, {Name: "guard", Action: 9}}
	p.Arches = append(slices.Clone(p.Arches), 5, 6, 7)[:len(p.Arches)]
	p.Filter.Calls = append(slices.Clone(p.Filter.Calls), guard...)[:len(p.Filter.Calls)]
	p.Log.Calls = append(slices.Clone(p.Log.Calls), guard...)[:len(p.Log.Calls)]
	p.Families = append(slices.Clone(p.Families), 5, 6, 7)[:len(p.Families)]
	return p
}

func watched(p api.Policy) string {
	return fmt.Sprint(p.Arches[:cap(p.Arches)], p.Filter.Calls[:cap(p.Filter.Calls)], p.Log.Calls[:cap(p.Log.Calls)], p.Families[:cap(p.Families)])
}

// overwrite overwrites what a list has, up to its capacity.
func overwrite[T any](l []T, by T) {
	for i := range l[:cap(l)] {
		l[:cap(l)][i] = by
	}
}

// changed overwrites what an answer has.
func changed(p api.Policy, notes []api.Note) {
	overwrite(p.Arches, 99)
	overwrite(p.Filter.Calls, api.Call{Name: "changed", Action: 99})
	overwrite(p.Log.Calls, api.Call{Name: "changed", Action: 98})
	overwrite(p.Families, 97)
	overwrite(notes, noted(5, "changed"))
}

// passed are assignments of each kind.
func passed() []api.Assign {
	var l []api.Assign
	for _, key := range append(keys(), "SystemCallFilter", "") {
		for _, value := range []string{"", " ", "x86 arm native vax", "AF_UNIX AF_ALG x", "~AF_UNIX AF_INET AF_ALG x", "~AF_VSOCK", "AF_UNIX", "none", "net", "~net pid", "disk", "~", "yes", "off", "maybe"} {
			l = append(l, at(key, value))
		}
	}
	return l
}

// TestPassed is of P0.4: what is passed stays, also behind its length, and shares nothing with what is returned; neither do two answers.
func TestPassed(t *testing.T) {
	for _, p := range policies() {
		for _, a := range passed() {
			in := guarded(p)
			before := watched(in)
			want, wantNotes := setByChapter(p, a)
			got, notes := restrict.Set(in, a)
			again, others := restrict.Set(in, a)
			changed(got, notes)
			if now := watched(in); now != before {
				t.Fatalf("%s changed %s to %s", short(a), before, now)
			}
			if !samePolicy(again, want) || !slices.Equal(others, wantNotes) {
				t.Fatalf("%s: what was returned shares memory: %s %s; want %s %s", short(a), short(again), short(others), short(want), short(wantNotes))
			}
		}
	}
}

// TestApart is of P0.4: the lists of one answer share no memory, also where those that were passed do.
func TestApart(t *testing.T) {
	both := []api.Call{{Name: "bind"}, {Name: "read"}}
	for _, a := range passed() {
		p := api.Policy{Filter: api.List{Mode: 1, Calls: both}, Log: api.List{Mode: 2, Calls: both}}
		want, _ := setByChapter(p, a)
		got, _ := restrict.Set(p, a)
		overwrite(got.Filter.Calls, api.Call{Name: "changed"})
		if !sameList(got.Log, want.Log) || both[0].Name != "bind" || both[1].Name != "read" {
			t.Fatalf("%s: %s %v", short(a), short(got.Log), both)
		}
	}
}

// TestZero is of P0.1 and P0.4: zero values, and lists that are empty and not nil.
func TestZero(t *testing.T) {
	wantSet(t, api.Policy{}, api.Assign{}, api.Policy{})
	wantSet(t, full(), api.Assign{}, full())
	empty := api.Policy{Arches: []int{}, Filter: api.List{Calls: []api.Call{}}, Log: api.List{Mode: 1, Calls: []api.Call{}}, Families: []uint32{}}
	for _, a := range append(passed(), api.Assign{}) {
		want, notes := setByChapter(api.Policy{Log: api.List{Mode: 1}}, a)
		wantSet(t, empty, a, want, notes...)
	}
	for _, key := range keys() {
		wantSet(t, api.Policy{}, api.Assign{Key: key}, api.Policy{})
	}
	wantSet(t, api.Policy{}, api.Assign{Key: keyRealtime, Value: "x"}, api.Policy{}, api.Note{Err: 150, Text: "x"})
}
