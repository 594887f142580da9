package dropin_test

import (
	"bytes"
	"math"
	"math/rand"
	"slices"
	"strconv"
	"strings"
	"testing"

	"vestibule/api"
	"vestibule/dropin"
	"vestibule/unit"
)

// mayByChapter is what May should return, byte by byte.
func mayByChapter(name string) bool {
	n := len(name)
	if n < 6 || n > 60 {
		return false
	}
	for i := range n {
		if name[i] < 33 || name[i] > 126 || name[i] == 47 {
			return false
		}
	}
	return name[n-5] == '.' && name[n-4] == 'c' && name[n-3] == 'o' && name[n-2] == 'n' && name[n-1] == 'f'
}

// firstWrong is the first name of some drop-ins that is not valid.
func firstWrong(drops []api.File) (string, bool) {
	for _, d := range drops {
		if !mayByChapter(d.Name) {
			return d.Name, true
		}
	}
	return "", false
}

// maskedByChapter tells whether the drop-in at a place is masked by another one.
func maskedByChapter(drops []api.File, at int) bool {
	for i, d := range drops {
		if d.Name == drops[at].Name && (d.Dir < drops[at].Dir || d.Dir == drops[at].Dir && i < at) {
			return true
		}
	}
	return false
}

// before tells whether a name is less than another one, byte by byte.
func before(a, b string) bool {
	for i := range min(len(a), len(b)) {
		if a[i] != b[i] {
			return a[i] < b[i]
		}
	}
	return len(a) < len(b)
}

// orderByChapter is what Order should return: each drop-in that is not masked is put ahead of the first greater one.
func orderByChapter(main api.File, drops []api.File) ([]api.File, api.Errno) {
	if len(drops) > 16 {
		return nil, 4
	}
	if _, ok := firstWrong(drops); ok {
		return nil, 140
	}
	files := []api.File{main}
	for at, d := range drops {
		if maskedByChapter(drops, at) {
			continue
		}
		to := 1
		for to < len(files) && before(files[to].Name, d.Name) {
			to++
		}
		files = slices.Insert(files, to, d)
	}
	return files, 0
}

// mergeByChapter is what Merge should return.
func mergeByChapter(main api.File, drops []api.File) ([]api.Assign, []api.Note) {
	files, e := orderByChapter(main, drops)
	if e != 0 {
		n := note(main.Name, 0, e, "")
		if e == 140 {
			n.Text, _ = firstWrong(drops)
		}
		if len(n.Text) > 60 {
			n.Text = n.Text[:60]
		}
		return nil, []api.Note{n}
	}
	var assigns []api.Assign
	var notes []api.Note
	for _, f := range files {
		a, n := unit.Parse(f)
		assigns = slices.Concat(assigns, a)
		notes = slices.Concat(notes, n)
	}
	if notes != nil {
		assigns = nil
	}
	return assigns, notes
}

// file is a file of this text.
func file(name string, dir int, text string) api.File {
	return api.File{Name: name, Dir: dir, Bytes: []byte(text)}
}

// assign is an assignment of the section S.
func assign(file string, line int, key, value string) api.Assign {
	return api.Assign{File: file, Line: line, Section: "S", Key: key, Value: value}
}

// note is a note.
func note(file string, line int, e api.Errno, text string) api.Note {
	return api.Note{File: file, Line: line, Err: e, Text: text}
}

// list is some files, or none; it reads better than a literal.
func list(l ...api.File) []api.File { return l }

// copied is some files with memory of their own.
func copied(l []api.File) []api.File {
	var to []api.File
	for _, f := range l {
		f.Bytes = bytes.Clone(f.Bytes)
		to = append(to, f)
	}
	return to
}

// short is a string for a message.
func short(s string) string {
	if len(s) > 200 {
		return s[:200] + ".."
	}
	return s
}

// told is files for a message.
func told(l []api.File) string {
	var b strings.Builder
	for _, f := range l {
		b.WriteString(" " + strconv.Quote(short(f.Name)) + " " + strconv.Itoa(f.Dir) + " " + strconv.Quote(short(string(f.Bytes))) + ";")
	}
	return "{" + b.String() + " }"
}

// toldAssigns is assignments for a message.
func toldAssigns(l []api.Assign) string {
	var b strings.Builder
	for _, a := range l {
		b.WriteString(" " + strconv.Quote(short(a.File)) + ":" + strconv.Itoa(a.Line) + " [" + short(a.Section) + "] " + strconv.Quote(short(a.Key)) + "=" + strconv.Quote(short(a.Value)))
	}
	return "{" + b.String() + " }"
}

// toldNotes is notes for a message.
func toldNotes(l []api.Note) string {
	var b strings.Builder
	for _, n := range l {
		b.WriteString(" " + strconv.Quote(short(n.File)) + ":" + strconv.Itoa(n.Line) + " " + strconv.Itoa(int(n.Err)) + " " + strconv.Quote(short(n.Text)))
	}
	return "{" + b.String() + " }"
}

// same tells whether two files agree in all that they have.
func same(a, b api.File) bool {
	return a.Name == b.Name && a.Dir == b.Dir && bytes.Equal(a.Bytes, b.Bytes)
}

// wantOrder holds what Order returns against what it should be.
func wantOrder(t *testing.T, main api.File, drops, want []api.File, e api.Errno) {
	t.Helper()
	got, err := dropin.Order(main, drops)
	if !slices.EqualFunc(got, want, same) || err != e {
		t.Errorf("Order of %s: %s, %d; want %s, %d", told(drops), told(got), int(err), told(want), int(e))
	}
}

// wantMerge holds what Merge returns against what it should be.
func wantMerge(t *testing.T, main api.File, drops []api.File, assigns []api.Assign, notes []api.Note) {
	t.Helper()
	gotA, gotN := dropin.Merge(main, drops)
	if !slices.Equal(gotA, assigns) || !slices.Equal(gotN, notes) {
		t.Errorf("Merge of %s and %s: %s, %s; want %s, %s", told(list(main)), told(drops), toldAssigns(gotA), toldNotes(gotN), toldAssigns(assigns), toldNotes(notes))
	}
}

// wantAsChapter holds both calls against the chapter's words; it tells how many files are in order, and how many assignments and notes there are.
func wantAsChapter(t *testing.T, main api.File, drops []api.File) (int, int, int) {
	t.Helper()
	files, e := orderByChapter(main, drops)
	wantOrder(t, main, drops, files, e)
	assigns, notes := mergeByChapter(main, drops)
	wantMerge(t, main, drops, assigns, notes)
	return len(files), len(assigns), len(notes)
}

// mainFile is a unit file that the tests use.
func mainFile() api.File { return file("a.service", 7, "[S]\nm=1\n") }

// wantPlaces holds that of some drop-ins those at these places follow the unit file, in that order.
func wantPlaces(t *testing.T, drops []api.File, places ...int) {
	t.Helper()
	want := []api.File{mainFile()}
	for _, at := range places {
		want = append(want, drops[at])
	}
	wantOrder(t, mainFile(), drops, want, api.OK)
	wantAsChapter(t, mainFile(), drops)
}

// wantRefused holds that both calls answer with an error, and Merge with the text.
func wantRefused(t *testing.T, drops []api.File, e api.Errno, text string) {
	t.Helper()
	wantOrder(t, mainFile(), drops, nil, e)
	wantMerge(t, mainFile(), drops, nil, []api.Note{note("a.service", 0, e, text)})
}

// named is drop-ins of these names, each in the directory 0 and with a text of its own.
func named(names ...string) []api.File {
	var l []api.File
	for i, n := range names {
		l = append(l, file(n, 0, "[S]\nk="+strconv.Itoa(i)+"\n"))
	}
	return l
}

// inDirs is drop-ins of one name in these directories, each with a text of its own.
func inDirs(name string, dirs ...int) []api.File {
	var l []api.File
	for i, d := range dirs {
		l = append(l, file(name, d, "[S]\nk="+strconv.Itoa(i)+"\n"))
	}
	return l
}

// many is n drop-ins of distinct names, ascending.
func many(n int) []api.File {
	var names []string
	for i := range n {
		names = append(names, strconv.Itoa(100+i)+".conf")
	}
	return named(names...)
}

// TestExamples is of P14.1: the chapter's examples.
func TestExamples(t *testing.T) {
	drops := list(file("b.conf", 0, "1"), file("a.conf", 1, "2"), file("a.conf", 0, "3"), file("b.conf", 0, "4"))
	wantOrder(t, mainFile(), drops, list(mainFile(), drops[2], drops[0]), api.OK)
	wantRefused(t, many(17), api.ErrFull, "")
	for _, name := range []string{"a", "a/b.conf", ".conf"} {
		wantRefused(t, named(name), api.ErrFile, name)
	}
}

// TestExampleOfTheWhole is of P14.1 and P14.2: the example of the document with one name in two directories.
func TestExampleOfTheWhole(t *testing.T) {
	drops := list(file("10-a.conf", 1, "[S]\na=1"), file("10-a.conf", 0, "[S]\na=0"))
	wantPlaces(t, drops, 1)
	wantMerge(t, mainFile(), drops, []api.Assign{assign("a.service", 2, "m", "1"), assign("10-a.conf", 2, "a", "0")}, nil)
}

// wantMay holds what May says of a name, and that Order goes by it.
func wantMay(t *testing.T, name string, want bool) {
	t.Helper()
	if got := dropin.May(name); got != want {
		t.Errorf("May of %q: %t", short(name), got)
	}
	drops := named(name)
	if want {
		wantOrder(t, mainFile(), drops, list(mainFile(), drops[0]), api.OK)
	} else {
		wantOrder(t, mainFile(), drops, nil, api.ErrFile)
	}
}

// TestMay is of P14.1: names that are valid, and names that are not.
func TestMay(t *testing.T) {
	for _, name := range []string{"a.conf", "..conf", "...conf", "=.conf", "10-a.conf", "conf.conf", ".conf.conf", "a.conf.conf", "A.conf", "a.b.conf", "a..conf", "\\.conf", "a\\b.conf", "!~.conf", "'\".conf", "[a].conf", "#a.conf", ";a.conf", "*?.conf", "~a.conf", "a.service.conf", ".CONF.conf"} {
		wantMay(t, name, true)
	}
	for _, name := range []string{"", ".", "a", "conf", ".conf", "a.con", "aa.con", "aconf", "aaconf", "a.CONF", "a.Conf", "a.conF", "a.conf.", "a.confx", "a.conf ", "a.conf\n", "a.conf\x00", "a.conff", "a.cconf", "a.cofn", "a,conf", "aa,conf", "a.c0nf", "a..con", "conf.a", ".confa", "a/b.conf", "/a.conf", "a/.conf", "//.conf", " .conf", " a.conf", "a .conf", "a b.conf", "a\tb.conf", "a\n.conf", "\x00.conf", "\u00e9.conf", "a\u4e16.conf", "\xff.conf", "\uff0f.conf", "a.conf/", "a.conf/b", "a.\xc0\xa3onf", "a.conf\u200b", "..", "../a.conf", "./a.conf"} {
		wantMay(t, name, false)
	}
}

// TestMayLengths is of P14.1: the least and the most bytes that a name may have, and all lengths around them.
func TestMayLengths(t *testing.T) {
	for n := range 200 {
		wantMay(t, strings.Repeat("a", n)+".conf", 6 <= n+5 && n+5 <= 60)
		wantMay(t, strings.Repeat("a", n), false)
		wantMay(t, ".conf"+strings.Repeat("a", n), false)
		wantMay(t, strings.Repeat(".conf", n), 2 <= n && n <= 12)
	}
	for _, n := range []int{5, 6, 59, 60, 61} {
		name := strings.Repeat("~", n-5) + ".conf"
		if len(name) != n {
			t.Fatal(len(name))
		}
		wantMay(t, name, n != 5 && n != 61)
	}
	wantMay(t, strings.Repeat("a", 1<<20)+".conf", false)
	// It is bytes that count, not characters.
	wantMay(t, strings.Repeat("\u00e9", 27)+".conf", false)
}

// TestMayBytes is of P14.1: each byte at the beginning, inside, ahead of the end, within it and behind it.
func TestMayBytes(t *testing.T) {
	for c := range 256 {
		b := string([]byte{byte(c)})
		want := 33 <= c && c <= 126 && c != 47
		for _, ahead := range []string{b, b + "a", "a" + b, "a" + b + "a", b + b, strings.Repeat("a", 27) + b + strings.Repeat("a", 27), strings.Repeat("a", 54) + b, b + strings.Repeat("a", 54)} {
			wantMay(t, ahead+".conf", want)
		}
		wantMay(t, "a.conf"+b, false)
		for at := range ".conf" {
			name := []byte("aa.conf")
			name[2+at] = byte(c)
			wantMay(t, string(name), string(name) == "aa.conf")
		}
	}
	for _, c := range []byte{32, 47, 127, 128, 0} {
		if dropin.May(string([]byte{'a', c, '.', 'c', 'o', 'n', 'f'})) {
			t.Errorf("a name with the byte %d may be", c)
		}
	}
}

// TestMayShort is of P14.1: all short names of the bytes that count, ahead of the end and alone.
func TestMayShort(t *testing.T) {
	bytesThatCount := "a.!/~ \x7fcf"
	var each func(s string, n int)
	each = func(s string, n int) {
		for _, name := range []string{s, s + ".conf", s + "onf", s + "conf"} {
			if got := dropin.May(name); got != mayByChapter(name) {
				t.Errorf("May of %q: %t", name, got)
			}
		}
		for i := 0; n > 0 && i < len(bytesThatCount); i++ {
			each(s+bytesThatCount[i:i+1], n-1)
		}
	}
	each("", 5)
}

// TestNoDrops is of P14.1: no drop-ins, nil and empty, lead to the unit file alone.
func TestNoDrops(t *testing.T) {
	for _, drops := range [][]api.File{nil, {}, many(3)[:0]} {
		wantOrder(t, mainFile(), drops, list(mainFile()), api.OK)
		wantMerge(t, mainFile(), drops, []api.Assign{assign("a.service", 2, "m", "1")}, nil)
		wantOrder(t, api.File{}, drops, list(api.File{}), api.OK)
		wantMerge(t, api.File{}, drops, nil, nil)
	}
}

// TestOrder is of P14.1: drop-ins that are passed ascending, descending and mixed.
func TestOrder(t *testing.T) {
	wantPlaces(t, named("a.conf"), 0)
	wantPlaces(t, named("a.conf", "b.conf"), 0, 1)
	wantPlaces(t, named("b.conf", "a.conf"), 1, 0)
	wantPlaces(t, named("a.conf", "b.conf", "c.conf"), 0, 1, 2)
	wantPlaces(t, named("c.conf", "b.conf", "a.conf"), 2, 1, 0)
	wantPlaces(t, named("b.conf", "c.conf", "a.conf"), 2, 0, 1)
	wantPlaces(t, named("c.conf", "a.conf", "b.conf"), 1, 2, 0)
	wantPlaces(t, named("50-x.conf", "10-z.conf", "90-a.conf", "20-y.conf"), 1, 3, 0, 2)
	// The directory says which of one name is effective, and nothing of the order.
	wantPlaces(t, list(file("b.conf", 0, ""), file("c.conf", -9, ""), file("a.conf", 9, "")), 2, 0, 1)
}

// TestOrderOfBytes is of P14.1: names of which one begins with the other one, and names that differ in one byte.
func TestOrderOfBytes(t *testing.T) {
	for _, l := range [][]string{
		{"a.conf", "a.conf.conf"}, {"a.conf", "a.conf.conf", "a.conf.conf.conf"}, {"a.conf", "aa.conf", "aaa.conf"},
		{"a-b.conf", "a.conf"}, {"a.conf", "a0.conf"}, {"a!.conf", "a.conf", "a~.conf"},
		{"A.conf", "a.conf"}, {"Z.conf", "a.conf"}, {"B.conf", "a.conf", "b.conf"}, {"Aa.conf", "aA.conf"}, {"Z.conf", "_.conf", "a.conf"},
		{"10.conf", "9.conf"}, {"09.conf", "10.conf", "9.conf"}, {"1.conf", "10.conf", "2.conf"}, {"-1.conf", "1.conf"},
		{"!.conf", "~.conf"}, {"aAa.conf", "aBa.conf", "aaa.conf", "aba.conf"}, {"ab.conf", "ac.conf"}, {"xa.conf", "ya.conf"},
		{"..conf", "...conf"}, {"a..conf", "a.conf"}, {"a.b.conf", "a.conf", "a.d.conf"},
		{strings.Repeat("a", 54) + "A.conf", strings.Repeat("a", 55) + ".conf", strings.Repeat("a", 54) + "b.conf"},
	} {
		ascending := named(l...)
		slices.SortFunc(ascending, func(a, b api.File) int {
			if before(a.Name, b.Name) {
				return -1
			}
			return 1
		})
		want := slices.Insert(slices.Clone(ascending), 0, mainFile())
		wantOrder(t, mainFile(), named(l...), want, api.OK)
		wantOrder(t, mainFile(), ascending, want, api.OK)
		slices.Reverse(ascending)
		wantOrder(t, mainFile(), ascending, want, api.OK)
	}
	wantPlaces(t, named("a.conf", "Z.conf"), 1, 0)
	wantPlaces(t, named("9.conf", "10.conf"), 1, 0)
	wantPlaces(t, named("a.conf.conf", "a.conf"), 1, 0)
	wantPlaces(t, named("a.conf", "a-b.conf"), 1, 0)
	wantPlaces(t, named("~.conf", "!.conf"), 1, 0)
	wantPlaces(t, named("b.conf", "a.conf", "B.conf", "A.conf"), 3, 2, 1, 0)
}

// TestOrderOfEachByte is of P14.1: names that differ in one byte alone, each such byte, at each of some places.
func TestOrderOfEachByte(t *testing.T) {
	for _, around := range [][2]string{{"", ""}, {"x", ""}, {"", "x"}, {"x", "x"}, {strings.Repeat("x", 54), ""}} {
		for a := 33; a <= 126; a++ {
			for b := 33; b <= 126; b++ {
				if a == 47 || b == 47 || a == b {
					continue
				}
				drops := named(around[0]+string(rune(a))+around[1]+".conf", around[0]+string(rune(b))+around[1]+".conf")
				want := list(mainFile(), drops[0], drops[1])
				if b < a {
					want = list(mainFile(), drops[1], drops[0])
				}
				wantOrder(t, mainFile(), drops, want, api.OK)
			}
		}
	}
}

// TestDirs is of P14.1: of one name the drop-in of the least directory is effective, and of several there the first one.
func TestDirs(t *testing.T) {
	const least, greatest = math.MinInt, math.MaxInt
	for _, c := range []struct {
		at   int
		dirs []int
	}{
		{0, []int{0}}, {0, []int{greatest}}, {0, []int{least}},
		{0, []int{0, 0}}, {0, []int{5, 5, 5}}, {0, []int{-1, -1}}, {0, []int{least, least}}, {0, []int{greatest, greatest}},
		{0, []int{0, 1}}, {1, []int{1, 0}}, {0, []int{1, 2, 3}}, {2, []int{3, 2, 1}}, {1, []int{2, 1, 3}}, {1, []int{2, 1, 1}}, {1, []int{2, 1, 2, 1}},
		{1, []int{0, -1}}, {0, []int{-1, 0}}, {1, []int{1, -1}}, {0, []int{-2, -1}}, {1, []int{-1, -2}}, {2, []int{0, -1, -2, -1, -2}},
		{0, []int{least, greatest}}, {1, []int{greatest, least}}, {0, []int{least, 0}}, {1, []int{0, least}}, {1, []int{greatest, 0}}, {0, []int{0, greatest}},
		{0, []int{least, 1}}, {1, []int{1, least}}, {1, []int{-2, least}}, {0, []int{-2, greatest}}, {1, []int{greatest, -2}}, {1, []int{least + 1, least}}, {1, []int{greatest, greatest - 1}},
		{1, []int{1 << 32, 1}}, {0, []int{1, 1 << 32}}, {1, []int{1, -1 << 40}}, {1, []int{1 << 31, 1<<31 - 1}},
		{15, []int{15, 14, 13, 12, 11, 10, 9, 8, 7, 6, 5, 4, 3, 2, 1, 0}}, {0, []int{0, 1, 2, 3, 4, 5, 6, 7, 8, 9, 10, 11, 12, 13, 14, 15}},
	} {
		wantPlaces(t, inDirs("a.conf", c.dirs...), c.at)
	}
}

// TestSameBytes is of P14.1: which of one name is effective hangs on nothing but the directories.
func TestSameBytes(t *testing.T) {
	wantPlaces(t, list(file("a.conf", 1, "x=1"), file("a.conf", 0, "")), 1)
	wantPlaces(t, list(file("a.conf", 0, ""), file("a.conf", 0, "[S]")), 0)
	wantPlaces(t, list(file("a.conf", 0, strings.Repeat("x", 65537)), file("a.conf", 0, "")), 0)
	wantPlaces(t, list(file("a.conf", 0, "same"), file("b.conf", 0, "same")), 0, 1)
	// Names are the same if all their bytes are.
	wantPlaces(t, list(file("a.conf", 0, ""), file("A.conf", -1, "")), 1, 0)
	wantPlaces(t, list(file("a.conf", 0, ""), file("a..conf", -1, "")), 1, 0)
	wantPlaces(t, list(file(strings.Repeat("a", 54)+"b.conf", 0, ""), file(strings.Repeat("a", 55)+".conf", -1, "")), 1, 0)
}

// TestMaskedBetween is of P14.1: masked drop-ins between others.
func TestMaskedBetween(t *testing.T) {
	wantPlaces(t, list(file("b.conf", 1, "1"), file("a.conf", 0, "2"), file("b.conf", 0, "3"), file("c.conf", 0, "4")), 1, 2, 3)
	wantPlaces(t, list(file("b.conf", 0, "1"), file("a.conf", 0, "2"), file("b.conf", 1, "3"), file("c.conf", 0, "4"), file("b.conf", 0, "5")), 1, 0, 3)
	wantPlaces(t, list(file("a.conf", 2, "1"), file("b.conf", 2, "2"), file("a.conf", 1, "3"), file("b.conf", 1, "4"), file("a.conf", 0, "5"), file("b.conf", 3, "6")), 4, 3)
	wantPlaces(t, list(file("c.conf", 0, "1"), file("b.conf", 0, "2"), file("a.conf", 0, "3"), file("c.conf", 0, "4"), file("b.conf", 0, "5"), file("a.conf", 0, "6")), 2, 1, 0)
}

// TestMaxDrops is of P14.1 and P0.2: as many drop-ins as may be, and one more; those that are masked count too, and the number counts ahead of the names.
func TestMaxDrops(t *testing.T) {
	for _, n := range []int{1, 2, 15, 16} {
		wantOrder(t, mainFile(), many(n), slices.Insert(many(n), 0, mainFile()), api.OK)
		if files, assigns, notes := wantAsChapter(t, mainFile(), many(n)); files != n+1 || assigns != n+1 || notes != 0 {
			t.Errorf("of %d drop-ins: %d files, %d assignments, %d notes", n, files, assigns, notes)
		}
	}
	for _, n := range []int{17, 18, 32, 33, 1000} {
		wantRefused(t, many(n), api.ErrFull, "")
		wantRefused(t, inDirs("a.conf", make([]int, n)...), api.ErrFull, "")
	}
	wantPlaces(t, inDirs("a.conf", make([]int, 16)...), 0)
	for at := range 17 {
		drops := many(17)
		drops[at].Name = "wrong"
		wantRefused(t, drops, api.ErrFull, "")
		drops[(at+3)%17].Bytes = []byte("wrong")
		wantRefused(t, drops, api.ErrFull, "")
		wantRefused(t, slices.Delete(slices.Clone(drops), (at+1)%17, (at+1)%17+1), api.ErrFile, "wrong")
	}
	wantRefused(t, named(strings.Split(strings.Repeat("a ", 16)+"a", " ")...), api.ErrFull, "")
}

// TestErrFile is of P14.1 and P14.2: one name that is not valid among many, at each place, masked or not.
func TestErrFile(t *testing.T) {
	for _, name := range []string{"", "a", ".conf", "a/b.conf", "a.CONF", "a b.conf", "a.conf\x00", "\x80.conf", "\xff\xfe", "\u00e9.conf", strings.Repeat("a", 55) + ".con"} {
		for at := range 16 {
			drops := many(16)
			drops[at].Name = name
			wantRefused(t, drops, api.ErrFile, name)
			drops[at].Dir = math.MaxInt
			drops[at].Bytes = nil
			wantRefused(t, drops, api.ErrFile, name)
		}
		// It would be masked, were it valid.
		wantRefused(t, list(file(name, 0, ""), file(name, 1, "")), api.ErrFile, name)
		wantRefused(t, list(file(name, 1, ""), file(name, 0, "")), api.ErrFile, name)
		wantRefused(t, list(file("a.conf", 0, ""), file(name, 1, ""), file("a.conf", 1, ""), file(name, 1, "")), api.ErrFile, name)
	}
}

// TestErrFileText is of P14.2: the text is the first name that is not valid, as it was passed, and no more than its first 60 bytes.
func TestErrFileText(t *testing.T) {
	wantRefused(t, named("b", "a"), api.ErrFile, "b")
	wantRefused(t, named("a", "b"), api.ErrFile, "a")
	wantRefused(t, named("z.conf", "y", "a.conf", "x", "w/.conf"), api.ErrFile, "y")
	wantRefused(t, list(file("z", 5, ""), file("a", -5, "")), api.ErrFile, "z")
	wantRefused(t, named("z.conf", "", "a"), api.ErrFile, "")
	wantRefused(t, named("z.conf", "a", ""), api.ErrFile, "a")
	for _, n := range []int{1, 2, 5, 58, 59, 60, 61, 62, 65, 66, 120, 121, 1000, 1 << 17} {
		var long []byte
		for i := range n {
			long = append(long, "0123456789abcdefghijkl/"[i%23])
		}
		want := string(long[:min(n, 60)])
		wantRefused(t, named(string(long)), api.ErrFile, want)
		wantRefused(t, named("a.conf", string(long), "b.conf", "c"), api.ErrFile, want)
	}
	for _, n := range []int{56, 57, 1000} {
		name := strings.Repeat("a", n) + ".conf"
		wantRefused(t, named(name), api.ErrFile, name[:60])
	}
	// A character may be cut: it is bytes that count.
	wantRefused(t, named(strings.Repeat("a", 59)+"\u4e16.conf"), api.ErrFile, strings.Repeat("a", 59)+"\xe4")
	wantRefused(t, named(strings.Repeat("\xff", 70)), api.ErrFile, strings.Repeat("\xff", 60))
	wantRefused(t, named(strings.Repeat(" ", 70)), api.ErrFile, strings.Repeat(" ", 60))
}

// TestUnitFile is of P14.1 and P14.2: the unit file comes first and stays as it is, whatever its name, its directory and its bytes.
func TestUnitFile(t *testing.T) {
	for _, name := range []string{"", "a", "a.service", "a.conf", "b.conf", "/etc/a b.service", "a/b.conf", "\x00\xff", "zzz", strings.Repeat("n", 61), strings.Repeat("n", 1000)} {
		for _, dir := range []int{0, -1, 1, math.MinInt, math.MaxInt} {
			main := file(name, dir, "[S]\nm=1")
			drops := list(file("b.conf", 0, "[S]\nb=2"), file("a.conf", 0, "[S]\n\na=3"))
			wantOrder(t, main, drops, list(main, drops[1], drops[0]), api.OK)
			wantMerge(t, main, drops, []api.Assign{assign(name, 2, "m", "1"), assign("a.conf", 3, "a", "3"), assign("b.conf", 2, "b", "2")}, nil)
			wantOrder(t, main, nil, list(main), api.OK)
			wantMerge(t, main, many(17), nil, []api.Note{note(name, 0, api.ErrFull, "")})
			wantMerge(t, main, named("b.conf", "x", "y"), nil, []api.Note{note(name, 0, api.ErrFile, "x")})
		}
	}
}

// TestBytesStay is of P14.1: files of any bytes are returned with them.
func TestBytesStay(t *testing.T) {
	every := make([]byte, 256)
	for i := range every {
		every[i] = byte(i)
	}
	for _, b := range [][]byte{nil, {}, {0}, []byte("\n"), []byte("[S"), every, bytes.Repeat([]byte("x"), 65536), bytes.Repeat([]byte("x"), 65537), bytes.Repeat([]byte("\n"), 1001)} {
		main := api.File{Name: "m", Dir: 3, Bytes: b}
		drops := list(api.File{Name: "b.conf", Dir: 4, Bytes: b}, file("a.conf", 5, "y"), file("b.conf", 6, "z"))
		wantOrder(t, main, drops, list(main, drops[1], drops[0]), api.OK)
	}
}

// TestMerge is of P14.2: files without notes lead to all their assignments, file by file.
func TestMerge(t *testing.T) {
	main := file("m.service", 0, "[S]\na=1\n# c\nb=2\\\n 3\n[T]\nc=")
	drops := list(file("2.conf", 0, "[S]\n\n\nb=4\nb=5"), file("1.conf", 1, "[S]\na=6"), file("0.conf", 0, ""), file("1.conf", 0, "[S]\na=\na=7\n"), file("3.conf", 0, "# nothing"))
	wantMerge(t, main, drops, []api.Assign{
		assign("m.service", 2, "a", "1"), assign("m.service", 4, "b", "2  3"), {File: "m.service", Line: 7, Section: "T", Key: "c"},
		assign("1.conf", 2, "a", ""), assign("1.conf", 3, "a", "7"),
		assign("2.conf", 4, "b", "4"), assign("2.conf", 5, "b", "5"),
	}, nil)
	wantMerge(t, file("m", 0, ""), named("b.conf", "a.conf"), []api.Assign{assign("a.conf", 2, "k", "1"), assign("b.conf", 2, "k", "0")}, nil)
	wantMerge(t, mainFile(), list(file("a.conf", 0, ""), file("b.conf", 0, "#")), []api.Assign{assign("a.service", 2, "m", "1")}, nil)
	wantMerge(t, file("m", 0, ""), list(file("a.conf", 0, ""), file("b.conf", 0, "[S]")), nil, nil)
}

// TestMergeEachFileAlone is of P14.2: no section and no line that is continued is led on to the next file.
func TestMergeEachFileAlone(t *testing.T) {
	wantMerge(t, mainFile(), list(file("a.conf", 0, "a=1")), nil, []api.Note{note("a.conf", 1, api.ErrUnit, "a=1")})
	wantMerge(t, file("m", 0, "[S]\na=1\\"), list(file("a.conf", 0, "[S]\nb=2\\\n"), file("b.conf", 0, "[S]\nc=3")), []api.Assign{assign("m", 2, "a", "1"), assign("a.conf", 2, "b", "2"), assign("b.conf", 2, "c", "3")}, nil)
	wantMerge(t, file("m", 0, "a=1"), list(file("a.conf", 0, "[S]\nb=2")), nil, []api.Note{note("m", 1, api.ErrUnit, "a=1")})
	wantMerge(t, file("m", 0, "[S]"), list(file("a.conf", 0, "[T]\nb=2"), file("b.conf", 0, "c=3")), nil, []api.Note{note("b.conf", 1, api.ErrUnit, "c=3")})
}

// TestMergeNotes is of P14.2: notes of the unit file, of a drop-in and of several files, in the order of the files; of a masked drop-in there are none.
func TestMergeNotes(t *testing.T) {
	bad := file("m", 0, "x\n[S]\ny")
	badNotes := []api.Note{note("m", 1, api.ErrUnit, "x"), note("m", 3, api.ErrUnit, "y")}
	wantMerge(t, bad, nil, nil, badNotes)
	wantMerge(t, bad, many(16), nil, badNotes)
	badDrop := file("b.conf", 0, "[S]\na=1\n[\nb=2")
	dropNote := note("b.conf", 3, api.ErrUnit, "[")
	wantMerge(t, mainFile(), list(badDrop), nil, []api.Note{dropNote})
	for _, l := range [][]string{{"a.conf", "c.conf"}, {"c.conf", "a.conf"}, {"c.conf", "d.conf"}, {"0.conf", "a.conf"}} {
		wantMerge(t, mainFile(), append(named(l...), badDrop), nil, []api.Note{dropNote})
		wantMerge(t, mainFile(), slices.Insert(named(l...), 0, badDrop), nil, []api.Note{dropNote})
	}
	other := file("a.conf", 9, "=\n\n=v")
	all := slices.Concat(badNotes, []api.Note{note("a.conf", 1, api.ErrUnit, "="), note("a.conf", 3, api.ErrUnit, "=v"), dropNote})
	wantMerge(t, bad, list(badDrop, other), nil, all)
	wantMerge(t, bad, list(other, badDrop), nil, all)
	wantMerge(t, bad, append(many(14), badDrop, other), nil, all)
	wantMerge(t, mainFile(), list(badDrop, other), nil, all[2:])
	long := strings.Repeat("z", 70)
	wantMerge(t, mainFile(), list(file("a.conf", 0, long), file("b.conf", 0, long[:60])), nil, []api.Note{note("a.conf", 1, api.ErrUnit, long[:60]), note("b.conf", 1, api.ErrUnit, long[:60])})
}

// TestMergeMasked is of P14.2 and P14.4: notes of a masked drop-in do not count; the same bytes in the least directory do.
func TestMergeMasked(t *testing.T) {
	good := []api.Assign{assign("a.service", 2, "m", "1"), assign("a.conf", 2, "a", "1")}
	for _, text := range []string{"x", "[S", "a=2", "[S]\n=", strings.Repeat("x", 65537), strings.Repeat("\n", 1001)} {
		wantMerge(t, mainFile(), list(file("a.conf", 1, text), file("a.conf", 0, "[S]\na=1")), good, nil)
		wantMerge(t, mainFile(), list(file("a.conf", 0, "[S]\na=1"), file("a.conf", 0, text)), good, nil)
		wantMerge(t, mainFile(), list(file("a.conf", 0, "[S]\na=1"), file("a.conf", 5, text)), good, nil)
		assigns, notes := dropin.Merge(mainFile(), list(file("a.conf", 1, "[S]\na=1"), file("a.conf", 0, text)))
		if len(assigns) != 0 || len(notes) != 1 || notes[0].File != "a.conf" {
			t.Errorf("of %q: %s, %s", short(text), toldAssigns(assigns), toldNotes(notes))
		}
	}
}

// TestMergeLimits is of P14.2: files of as many bytes and lines as may be, and of one more; each file counts alone.
func TestMergeLimits(t *testing.T) {
	value := strings.Repeat("v", 65536-len("[S]\na="))
	most := "[S]\na=" + value
	a := func(name string) api.Assign { return assign(name, 2, "a", value) }
	long := func(name string) api.Note { return note(name, 0, api.ErrLong, "") }
	full := func(name string) api.Note { return note(name, 0, api.ErrFull, "") }
	wantMerge(t, file("m", 0, most), list(file("b.conf", 0, most), file("a.conf", 0, most)), []api.Assign{a("m"), a("a.conf"), a("b.conf")}, nil)
	wantMerge(t, file("m", 0, most+"v"), list(file("a.conf", 0, most)), nil, []api.Note{long("m")})
	wantMerge(t, file("m", 0, most), list(file("a.conf", 0, most+"\n")), nil, []api.Note{long("a.conf")})
	wantMerge(t, file("m", 0, most+" "), list(file("b.conf", 0, most+" "), file("a.conf", 0, "x"), file("c.conf", 0, strings.Repeat("\n", 1001))), nil, []api.Note{long("m"), note("a.conf", 1, api.ErrUnit, "x"), long("b.conf"), full("c.conf")})
	lines := "[S]\n" + strings.Repeat("#\n", 998) + "a=1\n"
	wantMerge(t, file("m", 0, lines), list(file("a.conf", 0, lines)), []api.Assign{assign("m", 1000, "a", "1"), assign("a.conf", 1000, "a", "1")}, nil)
	wantMerge(t, file("m", 0, lines), list(file("a.conf", 0, lines+"#")), nil, []api.Note{full("a.conf")})
	wantMerge(t, file("m", 0, lines+"#"), list(file("a.conf", 0, lines)), nil, []api.Note{full("m")})
}

// orders calls do with each order of some files; these are in it as long as do does not return.
func orders(l []api.File, do func([]api.File)) {
	var swap func(from int)
	swap = func(from int) {
		if from >= len(l)-1 {
			do(l)
			return
		}
		for i := from; i < len(l); i++ {
			l[from], l[i] = l[i], l[from]
			swap(from + 1)
			l[from], l[i] = l[i], l[from]
		}
	}
	swap(0)
}

// wantAnyOrder holds that drop-ins of distinct names lead to the same result in an order as in another one.
func wantAnyOrder(t *testing.T, drops, again []api.File) {
	t.Helper()
	files, e := dropin.Order(mainFile(), drops)
	wantOrder(t, mainFile(), again, files, e)
	assigns, notes := dropin.Merge(mainFile(), drops)
	wantMerge(t, mainFile(), again, assigns, notes)
}

// TestAnyOrder is of P14.3: each order of up to six drop-ins of distinct names, with notes and without them, in whatever directories.
func TestAnyOrder(t *testing.T) {
	good := named("a.conf", "B.conf", "a-b.conf", "10.conf", "9.conf", "a.conf.conf")
	bad := copied(good)
	bad[1].Bytes, bad[4].Bytes = []byte("x\ny"), []byte("[S]\nz")
	for i := range bad {
		bad[i].Dir = (i * 5) % 7
	}
	for _, drops := range [][]api.File{good, bad} {
		for n := range len(drops) + 1 {
			count := 0
			orders(copied(drops[:n]), func(again []api.File) {
				count++
				wantAnyOrder(t, drops[:n], again)
			})
			if want := []int{1, 1, 2, 6, 24, 120, 720}[n]; count != want {
				t.Errorf("%d orders of %d", count, n)
			}
		}
	}
}

// maker makes drop-ins. Its seed is fixed, so that each run of the tests sees the same ones.
type maker struct{ *rand.Rand }

func newMaker() maker { return maker{rand.New(rand.NewSource(14))} }

// of chooses one of some strings.
func (m maker) of(l ...string) string { return l[m.Intn(len(l))] }

// mix is some files in another order.
func (m maker) mix(l []api.File) []api.File {
	l = slices.Clone(l)
	m.Shuffle(len(l), func(i, j int) { l[i], l[j] = l[j], l[i] })
	return l
}

// name makes a name of few bytes, so that one is often like another; it is seldom one that is not valid.
func (m maker) name() string {
	if m.Intn(40) == 0 {
		return m.of("", "a", ".conf", "a/b.conf", " .conf", "a.CONF", strings.Repeat("a", 50+m.Intn(20))+".conf")
	}
	return m.of("a", "b", "A", "B", "1", "-", ".") + m.of("", "", "a", "-", ".conf") + ".conf"
}

// text makes a file's text; few have notes.
func (m maker) text() string {
	if m.Intn(30) == 0 {
		return m.of("x", "a=b", "[S]\n=\ny", strings.Repeat("\n", 1001), strings.Repeat("z", 70))
	}
	return m.of("", "[S]", "[S]\n") + m.of("", "\n#") + "\n[S]\n" + m.of("a", "b") + "=" + strconv.Itoa(m.Intn(1000))
}

// dir makes a directory, often one that was made before.
func (m maker) dir() int {
	dirs := []int{0, 0, 1, 1, 2, -1, math.MinInt, math.MaxInt}
	return dirs[m.Intn(len(dirs))]
}

// drops makes some drop-ins.
func (m maker) drops(n int) []api.File {
	var l []api.File
	for range n {
		l = append(l, file(m.name(), m.dir(), m.text()))
	}
	return l
}

// distinct makes as many drop-ins as there may be, of distinct names.
func (m maker) distinct() []api.File {
	l := many(16)
	for i := range l {
		l[i].Name = m.of("", "a", "A", "~", ".") + l[i].Name
		l[i].Dir = m.dir()
		l[i].Bytes = []byte(m.text())
	}
	return l
}

// TestAnyOrderOfMany is of P14.3: many orders of as many drop-ins as there may be; a result is the same each time.
func TestAnyOrderOfMany(t *testing.T) {
	m := newMaker()
	for range 200 {
		drops := m.distinct()
		for range 10 {
			wantAnyOrder(t, drops, m.mix(drops))
		}
		wantAnyOrder(t, drops, drops)
		wantAsChapter(t, mainFile(), drops)
	}
}

// TestMadeDrops is of P14.1 and P14.2: drop-ins of all kinds against the chapter's words.
func TestMadeDrops(t *testing.T) {
	m := newMaker()
	files, assigns, notes := 0, 0, 0
	for range 20000 {
		f, a, n := wantAsChapter(t, file(m.of("a.service", "a.conf", ""), m.dir(), m.text()), m.drops(m.Intn(19)))
		files += f
		assigns += a
		notes += n
	}
	if files < 50000 || assigns < 20000 || notes < 5000 {
		t.Errorf("%d files, %d assignments, %d notes", files, assigns, notes)
	}
}

// TestAllOfFew is of P14.1 and P14.2: all drop-ins of three names in three directories, up to four of them, against the chapter's words.
func TestAllOfFew(t *testing.T) {
	count := 0
	var each func(drops []api.File, n int)
	each = func(drops []api.File, n int) {
		count++
		wantAsChapter(t, mainFile(), drops)
		for i := 0; n > 0 && i < 9; i++ {
			d := file([]string{"b.conf", "a.conf", "a.conf.conf"}[i/3], i%3-1, "[S]\nk="+strconv.Itoa(len(drops)))
			each(append(slices.Clone(drops), d), n-1)
		}
	}
	each(nil, 4)
	if count != 1+9+81+729+6561 {
		t.Errorf("%d lists", count)
	}
}

// effectiveOnly is drop-ins without those that are masked.
func effectiveOnly(drops []api.File) []api.File {
	var l []api.File
	for at, d := range drops {
		if !maskedByChapter(drops, at) {
			l = append(l, d)
		}
	}
	return l
}

// TestMasking is of P14.4: masked drop-ins that are left out, changed and put in have no effect.
func TestMasking(t *testing.T) {
	m := newMaker()
	masked := 0
	for range 8000 {
		drops := m.drops(1 + m.Intn(12))
		if _, ok := firstWrong(drops); ok {
			continue
		}
		alone := effectiveOnly(drops)
		masked += len(drops) - len(alone)
		files, e := dropin.Order(mainFile(), alone)
		assigns, notes := dropin.Merge(mainFile(), alone)
		wantSame := func(changed []api.File) {
			t.Helper()
			wantOrder(t, mainFile(), changed, files, e)
			wantMerge(t, mainFile(), changed, assigns, notes)
		}
		wantSame(drops)
		changed := copied(drops)
		for at := range changed {
			if maskedByChapter(drops, at) {
				changed[at].Bytes = []byte(m.of("", "x", "[S]\nother=1", strings.Repeat("\n", 1001), m.text()))
			}
		}
		wantSame(changed)
		// A drop-in of the same directory is masked behind the first one, of a greater one wherever it stands.
		for len(changed) < 16 {
			of := alone[m.Intn(len(alone))]
			more := file(of.Name, of.Dir, m.text())
			to := len(changed)
			if of.Dir < math.MaxInt && m.Intn(2) == 0 {
				more.Dir += 1 + m.Intn(2)*(math.MaxInt-max(of.Dir, 0)-1)
				to = m.Intn(len(changed) + 1)
			}
			changed = slices.Insert(changed, to, more)
			wantSame(changed)
		}
	}
	if masked < 5000 {
		t.Errorf("%d masked", masked)
	}
}

// TestMaskingByHand is of P14.4: one masked drop-in that is left out, changed, and put in ahead of, between and behind others.
func TestMaskingByHand(t *testing.T) {
	b, a := file("b.conf", 1, "[S]\nb=1"), file("a.conf", 1, "[S]\na=1")
	want := list(mainFile(), a, b)
	assigns := []api.Assign{assign("a.service", 2, "m", "1"), assign("a.conf", 2, "a", "1"), assign("b.conf", 2, "b", "1")}
	for _, text := range []string{"", "[S]\na=2", "x", "[S", strings.Repeat("x", 65537)} {
		worse, equal := file("a.conf", 2, text), file("a.conf", 1, text)
		for _, drops := range [][]api.File{{b, a}, {worse, b, a}, {b, worse, a}, {b, a, worse}, {b, a, equal}, {a, equal, b}, {worse, a, equal, worse, b, equal}} {
			wantOrder(t, mainFile(), drops, want, api.OK)
			wantMerge(t, mainFile(), drops, assigns, nil)
		}
	}
}

// TestPassedStays is of P0.4: drop-ins and bytes that are passed stay as they are, behind their length too, and what is written into them later changes nothing that was returned.
func TestPassedStays(t *testing.T) {
	for _, n := range []int{0, 1, 5, 16, 17} {
		for _, wrong := range []bool{false, true} {
			memory := append(many(n+2), inDirs("100.conf", -1, 0)...)
			slices.Reverse(memory)
			if wrong {
				memory[0].Name = "wrong"
			}
			for i := range memory {
				whole := []byte("[S]\nk=" + strconv.Itoa(i) + "\nbehind the length")
				memory[i].Bytes = whole[:len(whole)-len("\nbehind the length")]
			}
			wantUntouched(t, memory, n)
		}
	}
}

// wantUntouched passes the first n of some files and holds that neither they nor those behind them, nor what is behind their bytes, are changed or kept.
func wantUntouched(t *testing.T, memory []api.File, n int) {
	t.Helper()
	behind := func(f api.File) api.File {
		f.Bytes = f.Bytes[:cap(f.Bytes)]
		return f
	}
	var wholes []api.File
	for _, f := range memory {
		wholes = append(wholes, behind(f))
	}
	was := copied(wholes)
	drops := memory[:n]
	main := memory[len(memory)-1]
	passed := copied(drops)
	passedMain := copied(list(main))[0]
	wantFiles, wantE := orderByChapter(passedMain, passed)
	wantA, wantN := mergeByChapter(passedMain, passed)
	files, e := dropin.Order(main, drops)
	assigns, notes := dropin.Merge(main, drops)
	for i := range memory {
		if !same(behind(memory[i]), was[i]) {
			t.Errorf("of %d drop-ins the one at %d was changed", n, i)
		}
	}
	for i := range wholes {
		for at := range wholes[i].Bytes {
			wholes[i].Bytes[at] = '['
		}
		memory[i] = file("written.conf", 99, "written")
	}
	if !slices.EqualFunc(files, wantFiles, same) || e != wantE || !slices.Equal(assigns, wantA) || !slices.Equal(notes, wantN) {
		t.Errorf("what was passed was kept: %s, %d, %s, %s", told(files), int(e), toldAssigns(assigns), toldNotes(notes))
	}
}

// write writes into all memory of some files, up to the capacity of their list and of their bytes.
func write(l []api.File) {
	for _, f := range l {
		whole := f.Bytes[:cap(f.Bytes)]
		for i := range whole {
			whole[i] = 'w'
		}
	}
	l = l[:cap(l)]
	for i := range l {
		l[i] = file("written.conf", 99, "written")
	}
}

// TestReturnedIsNew is of P0.3 and P0.4: what is returned shares no memory with what was passed, nor with what was returned before, up to its capacity.
func TestReturnedIsNew(t *testing.T) {
	for _, n := range []int{0, 1, 2, 3, 7, 16} {
		drops := named(strings.Fields(strings.Repeat("a.conf b.conf c.conf d.conf e.conf ", 4))[:n]...)
		drops = append(drops, many(16-n)...)
		slices.Reverse(drops)
		main := mainFile()
		wantFiles, _ := orderByChapter(main, copied(drops))
		wantFiles = copied(wantFiles)
		wantA, _ := mergeByChapter(main, drops)
		passed := copied(drops)
		first, _ := dropin.Order(main, drops)
		second, _ := dropin.Order(main, drops)
		write(first)
		if !slices.EqualFunc(second, wantFiles, same) || !slices.EqualFunc(drops, passed, same) || !same(main, mainFile()) {
			t.Errorf("Order of %d shares memory: %s, %s", n, told(second), told(drops))
		}
		a, _ := dropin.Merge(main, drops)
		again, _ := dropin.Merge(main, drops)
		for i := range a[:cap(a)] {
			a[:cap(a)][i] = assign("written", 9, "written", "written")
		}
		if !slices.Equal(again, wantA) {
			t.Errorf("Merge of %d shares memory: %s", n, toldAssigns(again))
		}
		wantOrder(t, main, drops, wantFiles, api.OK)
		wantMerge(t, main, drops, wantA, nil)
	}
}

// TestNotesAreNew is of P0.3 and P0.4: notes that are returned share no memory with those of another call, and a call that is refused changes no later one.
func TestNotesAreNew(t *testing.T) {
	bad := list(file("b.conf", 0, "x\ny"), file("a.conf", 0, "z"))
	for _, drops := range [][]api.File{bad, many(17), named("wrong")} {
		_, want := mergeByChapter(mainFile(), drops)
		_, first := dropin.Merge(mainFile(), drops)
		_, second := dropin.Merge(mainFile(), drops)
		for i := range first[:cap(first)] {
			first[:cap(first)][i] = note("written", 9, 9, "written")
		}
		if !slices.Equal(second, want) {
			t.Errorf("Merge shares memory: %s", toldNotes(second))
		}
		wantMerge(t, mainFile(), drops, nil, want)
		wantMerge(t, mainFile(), named("a.conf"), []api.Assign{assign("a.service", 2, "m", "1"), assign("a.conf", 2, "k", "0")}, nil)
	}
}

// TestSharedBytes is of P0.4: files that were passed with the same memory are returned with memory of their own each.
func TestSharedBytes(t *testing.T) {
	b := []byte("[S]\na=1")
	main := api.File{Name: "m", Bytes: b}
	drops := list(api.File{Name: "b.conf", Bytes: b}, api.File{Name: "a.conf", Bytes: b[:3]})
	files, e := dropin.Order(main, drops)
	if e != api.OK || len(files) != 3 {
		t.Fatalf("%s, %d", told(files), int(e))
	}
	for i := range files {
		again, _ := dropin.Order(main, drops)
		whole := again[i].Bytes[:cap(again[i].Bytes)]
		for at := range whole {
			whole[at] = 'w'
		}
		for j := range again {
			if j != i && !same(again[j], files[j]) {
				t.Errorf("the files %d and %d share memory", i, j)
			}
		}
	}
	if string(b) != "[S]\na=1" {
		t.Errorf("%q", b)
	}
}
