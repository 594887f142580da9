package unit_test

import (
	"bytes"
	"math/rand"
	"slices"
	"strconv"
	"strings"
	"testing"

	"vestibule/api"
	"vestibule/lines"
	"vestibule/unit"
)

// isWhite tells whether a byte is white space by the chapter.
func isWhite(c byte) bool { return c == 32 || c == 9 || c == 13 }

// trimEndByChapter is a string without white space at its end, byte by byte.
func trimEndByChapter(s string) string {
	to := len(s)
	for to > 0 && isWhite(s[to-1]) {
		to--
	}
	return s[:to]
}

// trimByChapter is a string without white space at both ends, byte by byte.
func trimByChapter(s string) string {
	s = trimEndByChapter(s)
	from := 0
	for from < len(s) && isWhite(s[from]) {
		from++
	}
	return s[from:]
}

// sectionByChapter is what Section should return, byte by byte.
func sectionByChapter(line string) (string, bool) {
	n := len(line)
	if n < 3 || line[0] != '[' || line[n-1] != ']' {
		return "", false
	}
	for at := 1; at < n-1; at++ {
		if line[at] == '[' || line[at] == ']' {
			return "", false
		}
	}
	return line[1 : n-1], true
}

// assignmentByChapter is what Assignment should return, byte by byte.
func assignmentByChapter(line string) (string, string, bool) {
	if line != "" && line[0] == '[' {
		return "", "", false
	}
	for at := range len(line) {
		if line[at] != '=' {
			continue
		}
		key := trimEndByChapter(line[:at])
		for i := range len(key) {
			if isWhite(key[i]) {
				return "", "", false
			}
		}
		return key, trimByChapter(line[at+1:]), key != ""
	}
	return "", "", false
}

// parseByChapter is what Parse should return: for each line it looks back for the header that precedes it.
func parseByChapter(f api.File) ([]api.Assign, []api.Note) {
	all, e := lines.Split(f.Bytes)
	if e != api.OK {
		return nil, []api.Note{note(f.Name, 0, e, "")}
	}
	var assigns []api.Assign
	var notes []api.Note
	for at, l := range all {
		section, within := "", false
		for back := at - 1; back >= 0 && !within; back-- {
			section, within = sectionByChapter(all[back].Text)
		}
		if _, ok := sectionByChapter(l.Text); ok {
			continue
		}
		key, value, ok := assignmentByChapter(l.Text)
		if ok && within {
			assigns = append(assigns, assign(f.Name, l.Number, section, key, value))
			continue
		}
		text := l.Text
		if len(text) > 60 {
			text = text[:60]
		}
		notes = append(notes, note(f.Name, l.Number, 130, text))
	}
	if notes != nil {
		assigns = nil
	}
	return assigns, notes
}

// assign is an assignment.
func assign(file string, line int, section, key, value string) api.Assign {
	return api.Assign{File: file, Line: line, Section: section, Key: key, Value: value}
}

// note is a note.
func note(file string, line int, e api.Errno, text string) api.Note {
	return api.Note{File: file, Line: line, Err: e, Text: text}
}

// short is a string for a message.
func short(s string) string {
	if len(s) > 200 {
		return s[:200] + ".."
	}
	return s
}

// toldAssigns is assignments for a message.
func toldAssigns(l []api.Assign) string {
	var b strings.Builder
	for _, a := range l {
		b.WriteString(" " + strconv.Quote(short(a.File)) + ":" + strconv.Itoa(a.Line) + " [" + strconv.Quote(short(a.Section)) + "] " + strconv.Quote(short(a.Key)) + "=" + strconv.Quote(short(a.Value)))
	}
	return "{" + short(b.String()) + " }"
}

// toldNotes is notes for a message.
func toldNotes(l []api.Note) string {
	var b strings.Builder
	for _, n := range l {
		b.WriteString(" " + strconv.Quote(short(n.File)) + ":" + strconv.Itoa(n.Line) + " " + strconv.Itoa(int(n.Err)) + " " + strconv.Quote(short(n.Text)))
	}
	return "{" + short(b.String()) + " }"
}

// wantParse holds what a file leads to against what it should be.
func wantParse(t *testing.T, f api.File, assigns []api.Assign, notes []api.Note) {
	t.Helper()
	gotA, gotN := unit.Parse(f)
	if !slices.Equal(gotA, assigns) || !slices.Equal(gotN, notes) {
		t.Errorf("Parse of %q: %s, %s; want %s, %s", short(string(f.Bytes)), toldAssigns(gotA), toldNotes(gotN), toldAssigns(assigns), toldNotes(notes))
	}
	if len(gotA) > 0 && len(gotN) > 0 {
		t.Errorf("Parse of %q: assignments and notes", short(string(f.Bytes)))
	}
}

// file is a file of a name that the tests use.
func file(text string) api.File { return api.File{Name: "a.service", Bytes: []byte(text)} }

// row is an assignment of that file.
func row(line int, section, key, value string) api.Assign {
	return assign("a.service", line, section, key, value)
}

// wantAssigns holds that the text of a file leads to these assignments and to no note.
func wantAssigns(t *testing.T, text string, want ...api.Assign) {
	t.Helper()
	wantParse(t, file(text), want, nil)
}

// fault is a note of that file on a line that is not well-formed.
func fault(line int, text string) api.Note {
	return note("a.service", line, api.ErrUnit, text)
}

// wantFaults holds that the text of a file leads to these notes and to no assignment.
func wantFaults(t *testing.T, text string, want ...api.Note) {
	t.Helper()
	wantParse(t, file(text), nil, want)
}

// wantAsChapter holds what a file leads to against the chapter's words; it tells how many assignments and notes these are.
func wantAsChapter(t *testing.T, f api.File) (int, int) {
	t.Helper()
	assigns, notes := parseByChapter(f)
	wantParse(t, f, assigns, notes)
	return len(assigns), len(notes)
}

// slashed is a file whose bytes 10 are slashes here.
func slashed(s string) string { return strings.ReplaceAll(s, "/", "\n") }

// TestExamples is of P13.1: the chapter's examples.
func TestExamples(t *testing.T) {
	wantAssigns(t, slashed("[Service]/A = b c/B=/[X]/A=b=c"), row(2, "Service", "A", "b c"), row(3, "Service", "B", ""), row(5, "X", "A", "b=c"))
	wantFaults(t, "A=b", fault(1, "A=b"))
	wantFaults(t, slashed("[Service/[]"), fault(1, "[Service"), fault(2, "[]"))
	wantFaults(t, slashed("[S]/a b=c/=c/x"), fault(2, "a b=c"), fault(3, "=c"), fault(4, "x"))
}

// wantSection holds that a line is a header of this section, or none at all if the name is empty.
func wantSection(t *testing.T, line, name string) {
	t.Helper()
	if got, ok := unit.Section(line); got != name || ok != (name != "") {
		t.Errorf("Section of %q: %q, %t; want %q", short(line), short(got), ok, short(name))
	}
	if name == "" {
		return
	}
	if key, value, ok := unit.Assignment(line); key != "" || value != "" || ok {
		t.Errorf("Assignment of the header %q: %q, %q, %t", short(line), short(key), short(value), ok)
	}
}

// TestSection is of P13.2: headers that are well-formed, and lines that are not.
func TestSection(t *testing.T) {
	for _, line := range []string{"", "[", "]", "[]", "[a", "a]", "[[a]", "[a]]", "[a]b", "[a][b]", "[[", "]]", "][", "]a[", "[[]", "[]]", "[[]]", "[[a]]", "[a[b]", "[a]b]", "[a[]", "[]a]", "[a][", "[]a", "[] ", " []", "a", "a[b]", "[a] ", " [a]", " [a] ", "\t[a]", "[a]\r", "[a]\n", "\n[a]", "[a]\x00", "\x00[a]", "[a];c", "[a]#c", "[a]=b", "a=[b]", "=[b]", "[a=b", "(a)", "{a}", "[a\\", "[a}", "{a]", "\xef\xbb\xbf[a]", "\uff3ba\uff3d", "[" + strings.Repeat("a", 100000)} {
		wantSection(t, line, "")
	}
	for _, name := range []string{"a", "Service", "service", " ", "  ", "\t", "\r", " a", "a ", " a ", "a b", "a\tb", "a\rb", "=", "a=b", "a=", "=a", "#", "#a", ";", "a#b", "\\", "a\\", "\\a", "\n", "a\nb", "\x00", "\x01a\x1f", "\x7f", "\x80", "\xff", "\xffa\xfe", "\u00e9", "\u4e16\u754c", "\uff3b", "()", "{}", "<a>", "\"a\"", "-", ".", "0", strings.Repeat("a", 60), strings.Repeat("a b", 30000)} {
		wantSection(t, "["+name+"]", name)
		wantSection(t, "["+name+name+"]", name+name)
		for _, line := range []string{name + "]", "[" + name, "[" + name + "] ", " [" + name + "]", "[[" + name + "]", "[" + name + "]]", "[" + name + "][" + name + "]", "[" + name + "]" + name, name + "[" + name + "]", "[" + name + "[" + name + "]", "[" + name + "]" + name + "]"} {
			wantSection(t, line, "")
		}
	}
}

// TestSectionBytes is of P13.2: each byte as the name, at the ends of the name, inside of it, and around the header.
func TestSectionBytes(t *testing.T) {
	for c := range 256 {
		b := string([]byte{byte(c)})
		bracket := c == '[' || c == ']'
		for _, name := range []string{b, b + "a", "a" + b, "a" + b + "a", b + b} {
			if bracket {
				wantSection(t, "["+name+"]", "")
			} else {
				wantSection(t, "["+name+"]", name)
			}
		}
		wantSection(t, b+"[a]", "")
		wantSection(t, "[a]"+b, "")
		wantSection(t, b, "")
		if c != '[' {
			wantSection(t, b+"a]", "")
		}
		if c != ']' {
			wantSection(t, "[a"+b, "")
		}
	}
}

// wantAssignment holds that a line is an assignment.
func wantAssignment(t *testing.T, line, key, value string) {
	t.Helper()
	if k, v, ok := unit.Assignment(line); k != key || v != value || !ok {
		t.Errorf("Assignment of %q: %q, %q, %t; want %q, %q", short(line), short(k), short(v), ok, short(key), short(value))
	}
}

// wantNoAssignment holds that none of the lines is an assignment, and that nothing is told of them.
func wantNoAssignment(t *testing.T, all ...string) {
	t.Helper()
	for _, line := range all {
		if k, v, ok := unit.Assignment(line); k != "" || v != "" || ok {
			t.Errorf("Assignment of %q: %q, %q, %t; want none", short(line), short(k), short(v), ok)
		}
	}
}

// TestNoAssignment is of P13.2 and P0.2: lines without the sign, or without a key, or with white space in it.
func TestNoAssignment(t *testing.T) {
	wantNoAssignment(t, "", "a", "a b", " ", "\t", "\r", "#", "\\", "a:b", "a\uff1db", "\xff", strings.Repeat("a", 100000))
	wantNoAssignment(t, "=", "==", "=a", "=a=b", "= a", "= =", "=[a]", "==a")
	wantNoAssignment(t, " =", " =a", "  =a", "\t=a", "\r=a", " \t\r =a", " = ", "\t = a = b")
	wantNoAssignment(t, "a b=c", "a\tb=c", "a\rb=c", "a  b=c", "a b =c", "a b c=d", "a \t\r b=c", "a b=", "a b=c=d", "a b==")
	wantNoAssignment(t, " a=b", "\ta=b", "\ra=b", "  a = b", " \t\ra=b", " a=", " a b=c")
}

// TestAssignment is of P13.2: the first sign counts, others belong to the value.
func TestAssignment(t *testing.T) {
	wantAssignment(t, "a=b", "a", "b")
	wantAssignment(t, "a=", "a", "")
	wantAssignment(t, "a=b c", "a", "b c")
	wantAssignment(t, "a=b=c", "a", "b=c")
	wantAssignment(t, "a==", "a", "=")
	wantAssignment(t, "a===", "a", "==")
	wantAssignment(t, "a==b", "a", "=b")
	wantAssignment(t, "a=b=", "a", "b=")
	wantAssignment(t, "a = = b = c ", "a", "= b = c")
	wantAssignment(t, "a=b c=d", "a", "b c=d")
	wantAssignment(t, "SystemCallFilter=~@clock kill:EPERM", "SystemCallFilter", "~@clock kill:EPERM")
	wantAssignment(t, "a-b.c_1=x", "a-b.c_1", "x")
	wantAssignment(t, "a=#b ;c", "a", "#b ;c")
	wantAssignment(t, "a#=b", "a#", "b")
	wantAssignment(t, "a\\=b\\", "a\\", "b\\")
	wantAssignment(t, "\"a\"='b'", "\"a\"", "'b'")
	wantAssignment(t, "\u00e9=\u4e16 \u754c", "\u00e9", "\u4e16 \u754c")
	wantAssignment(t, "\xff\xc2=\x80\xff", "\xff\xc2", "\x80\xff")
	wantAssignment(t, "a\nb=c\nd", "a\nb", "c\nd")
	wantAssignment(t, "#a=b", "#a", "b")
	long := strings.Repeat("a", 50000)
	wantAssignment(t, long+"="+long, long, long)
	wantAssignment(t, long+" = "+long+" ", long, long)
}

// TestAssignmentWhite is of P13.2: white space at the end of the key and at both ends of the value is left out; inside, it makes a key none and stays in a value.
func TestAssignmentWhite(t *testing.T) {
	for _, w := range []string{" ", "\t", "\r", "  ", "\t\t", "\r\r", " \t\r", "\r\t ", strings.Repeat("\t \r", 1000)} {
		wantAssignment(t, "a"+w+"=b", "a", "b")
		wantAssignment(t, "a="+w+"b", "a", "b")
		wantAssignment(t, "a=b"+w, "a", "b")
		wantAssignment(t, "a"+w+"="+w+"b"+w, "a", "b")
		wantAssignment(t, "a=b"+w+"c", "a", "b"+w+"c")
		wantAssignment(t, "a"+w+"="+w+"b"+w+"c"+w, "a", "b"+w+"c")
		wantAssignment(t, "a="+w, "a", "")
		wantAssignment(t, "a"+w+"=", "a", "")
		wantAssignment(t, "a"+w+"="+w, "a", "")
		wantAssignment(t, "a"+w+"="+w+"="+w, "a", "=")
		wantAssignment(t, "a=b"+w+"="+w+"c", "a", "b"+w+"="+w+"c")
		wantNoAssignment(t, w, w+"=", w+"=b", w+"a=b", w+"a"+w+"=b", "a"+w+"b=c", "a"+w+"b"+w+"=c", "a"+w+"b", "="+w, w+"="+w, w+"[a"+w+"]=b")
	}
	// These are white space elsewhere.
	for _, w := range []string{"\v", "\f", "\n", "\x00", "\x1f", "\u0085", "\u00a0", "\u2003", "\u2028", "\ufeff", "\x85", "\xa0"} {
		wantAssignment(t, w+"=b", w, "b")
		wantAssignment(t, "a"+w+"="+w+"b"+w, "a"+w, w+"b"+w)
		wantAssignment(t, w+"a"+w+"b = "+w+" ", w+"a"+w+"b", w)
	}
}

// TestAssignmentBracket is of P13.2: a line that begins with the sign of a header is no assignment; elsewhere the sign is a byte like others.
func TestAssignmentBracket(t *testing.T) {
	wantNoAssignment(t, "[", "[=", "[a=b", "[a]=b", "[a=b]", "[=]", "[]=", "[]=a", "[[a]=b", "[a] = b", "[a", "[a]", "[=b")
	wantAssignment(t, "a[=b", "a[", "b")
	wantAssignment(t, "a[b]=c", "a[b]", "c")
	wantAssignment(t, "a=[b]", "a", "[b]")
	wantAssignment(t, "a=[", "a", "[")
	wantAssignment(t, "]=a", "]", "a")
	wantAssignment(t, "]a[=b", "]a[", "b")
	wantAssignment(t, "a]=[b", "a]", "[b")
	wantNoAssignment(t, " [a]=b", "a [b]=c", "]", "a[b]")
}

// TestAssignmentBytes is of P13.2: each byte alone, at the ends and inside of a key and of a value.
func TestAssignmentBytes(t *testing.T) {
	for c := range 256 {
		b := string([]byte{byte(c)})
		wantNoAssignment(t, b, "="+b)
		switch {
		case isWhite(byte(c)):
			wantNoAssignment(t, b+"=x", b+"a=x", "a"+b+"a=x")
			wantAssignment(t, "a"+b+"=x", "a", "x")
			wantAssignment(t, "a="+b+"x"+b+"y"+b, "a", "x"+b+"y")
			wantAssignment(t, "a="+b, "a", "")
			continue
		case b == "=":
			wantNoAssignment(t, "==x", "=a=x")
			wantAssignment(t, "a=a=x", "a", "a=x")
		case b == "[":
			wantNoAssignment(t, "[=x", "[a=x")
			wantAssignment(t, "a[=x", "a[", "x")
			wantAssignment(t, "a[a=x", "a[a", "x")
		default:
			wantAssignment(t, b+"=x", b, "x")
			wantAssignment(t, b+"a"+b+" =x", b+"a"+b, "x")
			wantAssignment(t, "a"+b+"a=x", "a"+b+"a", "x")
			wantAssignment(t, b+b+"\t=", b+b, "")
		}
		wantAssignment(t, "a="+b, "a", b)
		wantAssignment(t, "a="+b+"x"+b+"y"+b, "a", b+"x"+b+"y"+b)
		wantAssignment(t, "a= x"+b+" y ", "a", "x"+b+" y")
	}
}

// each calls what is done for all strings up to a length of some bytes.
func each(bytesOf string, length int, do func(s string)) {
	var s []byte
	var grow func()
	grow = func() {
		do(string(s))
		if len(s) == length {
			return
		}
		for at := range len(bytesOf) {
			s = append(s, bytesOf[at])
			grow()
			s = s[:len(s)-1]
		}
	}
	grow()
}

// TestShortLines is of P13.2: all short lines of the bytes that count, against the chapter's words.
func TestShortLines(t *testing.T) {
	sections, assignments := 0, 0
	do := func(line string) {
		name, is := sectionByChapter(line)
		wantSection(t, line, name)
		key, value, ok := assignmentByChapter(line)
		if is {
			sections++
		}
		if !ok {
			wantNoAssignment(t, line)
			return
		}
		assignments++
		wantAssignment(t, line, key, value)
	}
	each("[]a= ", 7, do)
	each("a=\t\r \n[", 6, do)
	each("[]", 12, do)
	if sections < 300 || assignments < 10000 {
		t.Errorf("%d headers, %d assignments", sections, assignments)
	}
}

// TestNothing is of P13.1: files without bytes, and files of blank lines, comments and headers alone.
func TestNothing(t *testing.T) {
	for _, b := range [][]byte{nil, {}, make([]byte, 0, 10), []byte("[S]\na=b\n")[:0]} {
		wantParse(t, api.File{Name: "x", Bytes: b}, nil, nil)
		wantParse(t, api.File{Bytes: b}, nil, nil)
	}
	wantParse(t, api.File{}, nil, nil)
	for _, text := range []string{"/", "//", " ", " / /\t/\r", "#", ";", "#a=b", "; [S", "#[S]/;a=b/", " #/\t;/\r#x\\/", "\\", "\\/\\/", "\\/#\\/;", "[S]", "[S]/", "/[S]/[T]//[S]", "[S]/#a=b/;/ ", "#c/[S]/#c", "[S]\\/", " [S]\t/ "} {
		wantAssigns(t, slashed(text))
	}
}

// TestAheadOfSections is of P13.1: assignments ahead of the first well-formed header are not well-formed; all that follow it are.
func TestAheadOfSections(t *testing.T) {
	for _, text := range []string{"a=b", "a=", "a = b", "a=b=c", "a=[S]", "]=b"} {
		wantFaults(t, text, fault(1, text))
		wantFaults(t, slashed("/#/")+text, fault(3, text))
		wantFaults(t, text+"\n[S]\nc=d", fault(1, text))
		wantFaults(t, text+"\n"+text+"\n[S]", fault(1, text), fault(2, text))
		wantFaults(t, "#\n"+text+"\n[S]\n"+text+"\n[T]\n"+text, fault(2, text))
		wantFaults(t, "#[S]\n"+text, fault(2, text))
		wantAssigns(t, "[S]\n"+text, row(2, "S", text[:strings.IndexAny(text, " =")], trimByChapter(text[strings.Index(text, "=")+1:])))
	}
	wantFaults(t, slashed("a=b/[S/c=d/[T]/e=f"), fault(1, "a=b"), fault(2, "[S"), fault(3, "c=d"))
}

// TestSections is of P13.1: several sections, sections without assignments, and one that stands twice.
func TestSections(t *testing.T) {
	wantAssigns(t, slashed("[S]/a=b"), row(2, "S", "a", "b"))
	wantAssigns(t, slashed("[S]/a=b/"), row(2, "S", "a", "b"))
	wantAssigns(t, slashed("[S]/a=1/[T]/a=2/[U]/a=3"), row(2, "S", "a", "1"), row(4, "T", "a", "2"), row(6, "U", "a", "3"))
	wantAssigns(t, slashed("[S]/[T]/a=b"), row(3, "T", "a", "b"))
	wantAssigns(t, slashed("[S]/a=1/[T]"), row(2, "S", "a", "1"))
	wantAssigns(t, slashed("[S]/a=1/[T]/b=2/[S]/c=3/[S]/a=4"), row(2, "S", "a", "1"), row(4, "T", "b", "2"), row(6, "S", "c", "3"), row(8, "S", "a", "4"))
	wantAssigns(t, slashed("[S]/a=1/a=1/a=2"), row(2, "S", "a", "1"), row(3, "S", "a", "1"), row(4, "S", "a", "2"))
	wantAssigns(t, slashed("[s]/a=1/[ s ]/A=2/[s=#]/a =3"), row(2, "s", "a", "1"), row(4, " s ", "A", "2"), row(6, "s=#", "a", "3"))
	wantAssigns(t, slashed(" [S] //\t a \t=  b\tc \r/#x/\r[T]\r/\ra\r=\rb\r"), row(3, "S", "a", "b\tc"), row(6, "T", "a", "b"))
	wantAssigns(t, slashed("[\xff]/\xfe=\xfd\x00"), row(2, "\xff", "\xfe", "\xfd\x00"))
	wantAssigns(t, slashed("[S]/a=#b/a=;/a= # c"), row(2, "S", "a", "#b"), row(3, "S", "a", ";"), row(4, "S", "a", "# c"))
	wantAssigns(t, slashed("[Unit]/Description=x/[Service]/SystemCallFilter=~kill/NoNewPrivileges=yes"), row(2, "Unit", "Description", "x"), row(4, "Service", "SystemCallFilter", "~kill"), row(5, "Service", "NoNewPrivileges", "yes"))
}

// TestBadHeaders is of P13.1: behind a header that is not well-formed the section stays that of the last well-formed one, or there is none.
func TestBadHeaders(t *testing.T) {
	for _, h := range []string{"[", "[]", "[a", "[[a]", "[a]]", "[a]b", "[a][b]", "[a]=b", "[a=b", "[a] x", "[ ] ]"} {
		wantFaults(t, h, fault(1, h))
		wantFaults(t, h+"\na=b", fault(1, h), fault(2, "a=b"))
		wantFaults(t, h+"\na=b\n[S]\na=b\n", fault(1, h), fault(2, "a=b"))
		wantFaults(t, "[S]\na=b\n"+h+"\na=b\n[T]\na=b", fault(3, h))
		wantFaults(t, "[S]\n"+h+"\na=b\n"+h+"\na=b", fault(2, h), fault(4, h))
		wantFaults(t, h+"\n[S]\na=b\n"+h+"\nx", fault(1, h), fault(4, h), fault(5, "x"))
	}
	wantFaults(t, slashed("]/a]/ [a"), fault(1, "]"), fault(2, "a]"), fault(3, "[a"))
}

// TestFaults is of P13.1: one line among many, several of them in order, and each kind of them.
func TestFaults(t *testing.T) {
	for _, bad := range []string{"x", "=", "=b", "a b=c", "a\tb=", "x y", "~", "a:b", "\\x", "\x00", "\xff\xfe", "[", "[T", "T]"} {
		wantFaults(t, "[S]\n"+bad, fault(2, bad))
		wantFaults(t, " "+bad+" \n[S]\na=b", fault(1, bad))
		wantFaults(t, "[S]\na=b\n\n#\n"+bad+"\nc=d\n[T]\ne=f", fault(5, bad))
		wantFaults(t, "[S]\n"+strings.Repeat("a=b\n", 900)+bad+"\n"+strings.Repeat("c=d\n", 98), fault(902, bad))
		wantFaults(t, "[S]\n"+bad+"\na=b\n"+bad+"\n"+bad, fault(2, bad), fault(4, bad), fault(5, bad))
		wantFaults(t, bad+"\n"+bad+"\n[S]\n"+bad, fault(1, bad), fault(2, bad), fault(4, bad))
	}
	wantFaults(t, slashed("[S]/z/a=b/=/y z=1/[/b=/a"), fault(2, "z"), fault(4, "="), fault(5, "y z=1"), fault(6, "["), fault(8, "a"))
	var want []api.Note
	for n := range 1000 {
		want = append(want, fault(n+1, "x"+strconv.Itoa(n)))
	}
	var text strings.Builder
	for n := range 1000 {
		text.WriteString("x" + strconv.Itoa(n) + "\n")
	}
	wantFaults(t, text.String(), want...)
}

// TestContinued is of P13.1: of continued lines the number is that of the first one, and the text that of all of them.
func TestContinued(t *testing.T) {
	wantAssigns(t, "[S]\na=b\\\nc\nd=e", row(2, "S", "a", "b c"), row(4, "S", "d", "e"))
	wantAssigns(t, "[S]\na\\\n=\\\n#x\n b\\\n\nd=e", row(2, "S", "a", "b"), row(7, "S", "d", "e"))
	wantAssigns(t, "[S]\na=\\\nb=c", row(2, "S", "a", "b=c"))
	wantAssigns(t, "[S]\na=\\", row(2, "S", "a", ""))
	wantAssigns(t, "[S\\\n]\n\\\na=b", row(3, "S ", "a", "b"))
	wantAssigns(t, "\\\n[S]\na=b\\\n[T]\nc=d", row(3, "S", "a", "b [T]"), row(5, "S", "c", "d"))
	wantAssigns(t, "[S]\na=b#\\\nc ; d", row(2, "S", "a", "b# c ; d"))
	wantFaults(t, "[S]\\\na=b", fault(1, "[S] a=b"))
	wantFaults(t, "[S]\n\\\n#\n\\\nx\\\ny=\\\nz\nw", fault(2, "x y= z"), fault(8, "w"))
	wantFaults(t, "[S]\na\\\nb=c\nd=e", fault(2, "a b=c"))
	wantFaults(t, "a\\\n=b", fault(1, "a =b"))
	// The text is cut behind the parts were joined.
	wantFaults(t, strings.Repeat("x", 30)+"\\\n"+strings.Repeat("y", 30)+"\n", fault(1, strings.Repeat("x", 30)+" "+strings.Repeat("y", 29)))
}

// TestTexts is of P13.1: a note's text is the first 60 bytes of its line, not of its characters.
func TestTexts(t *testing.T) {
	for _, n := range []int{1, 2, 58, 59, 60, 61, 62, 63, 100, 119, 120, 121, 1000, 65000} {
		for _, piece := range []string{"x", "[", "=x", "x ", "\u00e9", "\u4e16", "\xff", "\x00", "xyz\t", "a b=c", "[]", "\U0001f600"} {
			text := trimByChapter(strings.Repeat(piece, n)[:n])
			if _, _, ok := assignmentByChapter(text); ok {
				t.Fatalf("%q is well-formed", short(text))
			}
			want := text
			if len(text) > 60 {
				want = text[:60]
			}
			wantFaults(t, text, fault(1, want))
			wantFaults(t, "[S]\na=b\n \t"+text+"\r\n", fault(3, want))
		}
	}
	for _, n := range []int{57, 58, 59, 60, 100} {
		text := strings.Repeat("x", n) + "=\u00e9"
		wantFaults(t, text, fault(1, text[:min(60, len(text))]))
		wantFaults(t, "["+text, fault(1, ("[" + text)[:min(60, len(text)+1)]))
	}
	// White space at the cut stays; at the ends of the line it does not count.
	wantFaults(t, "   "+strings.Repeat("x", 59)+" y", fault(1, strings.Repeat("x", 59)+" "))
	wantFaults(t, strings.Repeat("x", 60)+"   ", fault(1, strings.Repeat("x", 60)))
	wantFaults(t, strings.Repeat("x", 58)+"\\\nyz", fault(1, strings.Repeat("x", 58)+" y"))
}

// TestLongValues is of P13.1: what is told of an assignment is whole, however long it is.
func TestLongValues(t *testing.T) {
	for _, n := range []int{59, 60, 61, 1000, 15000} {
		s := strings.Repeat("s", n)
		k := strings.Repeat("k", n)
		v := strings.Repeat("v ", n) + "v"
		wantAssigns(t, "["+s+"]\n"+k+"="+v, row(2, s, k, v))
	}
	want := []api.Assign{}
	var text strings.Builder
	text.WriteString("[S]\n")
	for n := range 999 {
		k := "k" + strconv.Itoa(n)
		text.WriteString(k + "= " + strconv.Itoa(n*n) + "\n")
		want = append(want, row(n+2, "S", k, strconv.Itoa(n*n)))
	}
	wantAssigns(t, text.String(), want...)
}

// TestFileNames is of P13.1: names of any bytes stand in each assignment and each note as they are.
func TestFileNames(t *testing.T) {
	names := []string{"", "a.service", "10-a.conf", " ", "a b", "/etc/a", "..", "\n", "a\nb", "[S]", "a=b", "#", "\\", "\xff\xfe", "\u4e16", strings.Repeat("n", 60), strings.Repeat("n", 61), strings.Repeat("\x80", 100000)}
	for c := range 256 {
		names = append(names, string([]byte{byte(c)}), "a"+string([]byte{byte(c)})+"b")
	}
	for _, name := range names {
		for _, dir := range []int{0, 1, -1, 1 << 40} {
			parsed := func(text string) api.File { return api.File{Name: name, Dir: dir, Bytes: []byte(text)} }
			wantParse(t, parsed("[S]\na=b\nc=d"), []api.Assign{assign(name, 2, "S", "a", "b"), assign(name, 3, "S", "c", "d")}, nil)
			wantParse(t, parsed("x\n\ny"), nil, []api.Note{note(name, 1, api.ErrUnit, "x"), note(name, 3, api.ErrUnit, "y")})
		}
		wantParse(t, api.File{Name: name, Bytes: bytes.Repeat([]byte("\n"), 1001)}, nil, []api.Note{note(name, 0, api.ErrFull, "")})
	}
}

// wantLimit holds that a text above a limit leads to one note, on no line and without a text.
func wantLimit(t *testing.T, text string, e api.Errno) {
	t.Helper()
	wantFaults(t, text, note("a.service", 0, e, ""))
}

// TestMaxBytes is of P13.1: as many bytes as may be, and one more.
func TestMaxBytes(t *testing.T) {
	value := strings.Repeat("v", 65536-len("[S]\na="))
	wantAssigns(t, "[S]\na="+value, row(2, "S", "a", value))
	wantAssigns(t, "[S]\na="+value[1:]+"\n", row(2, "S", "a", value[1:]))
	wantFaults(t, "[S]\nav"+value, fault(2, "av"+value[:58]))
	for _, text := range []string{"[S]\na=" + value + "v", "[S]\na=" + value + "\n", "[S]\na=" + value + " ", "\n[S]\na=" + value, "[S]\navv" + value, strings.Repeat(" ", 65537), "#" + strings.Repeat("a", 65536), strings.Repeat("x", 65537), "[S]\nx\na=" + value, strings.Repeat("x\n", 40000), strings.Repeat("a=b\n", 400000)} {
		wantLimit(t, text, api.ErrLong)
	}
	wantAssigns(t, strings.Repeat(" ", 65536))
}

// TestMaxLines is of P13.1 and P0.2: as many lines as may be, and one more; above both limits the error is that of the bytes.
func TestMaxLines(t *testing.T) {
	for _, l := range []string{"a=b\n", "a=b\\\n", "#\n", "\n", "[S]\n", "[S\n", "x\n"} {
		whole := "[S]\n" + strings.Repeat(l, 999)
		wantAsChapter(t, file(whole))
		wantAsChapter(t, file(strings.TrimSuffix(whole, "\n")))
		for _, more := range []string{"\n", "a=b", "#", " ", "x", "[S]", "\\"} {
			wantLimit(t, whole+more, api.ErrFull)
			wantLimit(t, whole+more+strings.Repeat("y", 65536-len(whole+more)), api.ErrFull)
			wantLimit(t, whole+more+strings.Repeat("y", 65537-len(whole+more)), api.ErrLong)
		}
	}
	wantAssigns(t, "[S]\n"+strings.Repeat("#\n", 998)+"a=b\n", row(1000, "S", "a", "b"))
	wantFaults(t, strings.Repeat("\n", 999)+"x", fault(1000, "x"))
	wantLimit(t, strings.Repeat("\n", 1000)+"x", api.ErrFull)
	if got, _ := unit.Parse(file("[S]\n" + strings.Repeat("a=b\n", 999))); len(got) != 999 {
		t.Errorf("%d assignments", len(got))
	}
}

// TestShortFiles is of P13.1: all short files of the bytes that count, with and without a header ahead of them, against the chapter's words.
func TestShortFiles(t *testing.T) {
	assigns, notes := 0, 0
	do := func(text string) {
		for _, ahead := range []string{"", "[S]\n"} {
			a, n := wantAsChapter(t, file(ahead+text))
			assigns += a
			notes += n
		}
	}
	each("[]=a\n", 7, do)
	each("a= \n#\\", 6, do)
	each("=\n\ra", 7, do)
	if assigns < 10000 || notes < 100000 {
		t.Errorf("%d assignments, %d notes", assigns, notes)
	}
}

// maker makes files. Its seed is fixed, so that each run of the tests sees the same ones.
type maker struct{ *rand.Rand }

func newMaker() maker { return maker{rand.New(rand.NewSource(13))} }

// of chooses one of some strings.
func (m maker) of(l ...string) string { return l[m.Intn(len(l))] }

// header makes the header of one of some sections.
func (m maker) header() string {
	return "[" + m.of("S", "T", "Service", " x y ", "a=b", "\xff#") + "]"
}

// good makes an assignment that is well-formed within a section, and on one line.
func (m maker) good() string {
	w := m.of("", "", " ", "\t ", "\r")
	return m.of("a", "b", "Key", "a.b-c", "\xff", "k]") + w + "=" + m.of("", "", " ") + m.of("", "", "b", "b c", "=", "b=c", "[S]", "# x", "~@a b:c", "\u4e16  \u754c") + w
}

// bad makes a line that is not well-formed.
func (m maker) bad() string {
	return m.of("x", "=", "=b", "a b=c", "[", "[]", "[S", "[S]]", "[S]x", "S]", "[[S]", "x\ty", "=[S]") + m.of("", "", "", strings.Repeat("z", 50+m.Intn(20)))
}

// nothing makes a line that is none of the logical ones.
func (m maker) nothing() string {
	return m.of("", " ", "\t", "#", "# a=b", ";[S]", " # x\\")
}

// line makes a line of any kind; few of them are bad, as one of them is enough for a file.
func (m maker) line() string {
	switch m.Intn(24) {
	case 0:
		return m.bad()
	case 1:
		return m.good() + "\\"
	case 2:
		return m.of("", "a", "[S", "a=") + "\\\n" + m.nothing() + "\n" + m.of("", "b", "]", "=c")
	case 3, 4, 5:
		return m.nothing()
	case 6, 7, 8, 9:
		return m.header()
	}
	return m.good()
}

// made makes a file of some lines, most of the time with a header ahead of them.
func (m maker) made(n int) string {
	var l []string
	if m.Intn(10) > 0 {
		l = append(l, m.header())
	}
	for range n {
		l = append(l, m.line())
	}
	return strings.Join(l, "\n") + m.of("", "\n")
}

// TestMadeFiles is of P13.1: files of lines of all kinds, short and long, against the chapter's words.
func TestMadeFiles(t *testing.T) {
	m := newMaker()
	assigns, notes := 0, 0
	check := func(n int) {
		a, b := wantAsChapter(t, api.File{Name: m.of("a.service", "", "\xff"), Dir: m.Intn(3), Bytes: []byte(m.made(n))})
		assigns += a
		notes += b
	}
	for range 20000 {
		check(m.Intn(14))
	}
	for range 60 {
		check(900 + m.Intn(110))
	}
	if assigns < 20000 || notes < 5000 {
		t.Errorf("%d assignments, %d notes", assigns, notes)
	}
}

// part is some lines of one section: its header and what stands below it.
type part struct {
	section string
	rows    []string
}

// part makes some lines of a section, all of them well-formed.
func (m maker) part(section string) part {
	p := part{section: section}
	for range m.Intn(5) {
		p.rows = append(p.rows, m.of(m.good(), m.good(), m.good(), m.nothing()))
	}
	return p
}

// text is the file of some parts, and each line of a part is one line of the file.
func text(parts []part) string {
	var b strings.Builder
	for _, p := range parts {
		b.WriteString("[" + p.section + "]\n")
		for _, r := range p.rows {
			b.WriteString(r + "\n")
		}
	}
	return b.String()
}

// ofSection is the assignments of one section, without their lines, as these hang on what stands ahead of them.
func ofSection(t *testing.T, parts []part, section string) []api.Assign {
	t.Helper()
	all, notes := unit.Parse(file(text(parts)))
	if len(notes) > 0 {
		t.Errorf("Parse of %q: %s", text(parts), toldNotes(notes))
	}
	var l []api.Assign
	for _, a := range all {
		if a.Section == section {
			a.Line = 0
			l = append(l, a)
		}
	}
	return l
}

// others makes the parts of other sections anew: changed, left out, or with more of them around.
func (m maker) others(parts []part, section string) []part {
	var l []part
	for _, p := range parts {
		if p.section == section {
			l = append(l, p)
		} else if m.Intn(2) == 0 {
			l = append(l, m.part(p.section))
		}
		for m.Intn(3) == 0 {
			l = append(l, m.part(m.of("T", "U", "s", "S ", "SS")))
		}
	}
	return l
}

// TestIndependence is of P13.3: the assignments of one section stay as they are, whatever becomes of the lines of others.
func TestIndependence(t *testing.T) {
	m := newMaker()
	found := 0
	for range 10000 {
		var parts []part
		for range 1 + m.Intn(6) {
			parts = append(parts, m.part(m.of("S", "T", "U")))
		}
		want := ofSection(t, parts, "S")
		found += len(want)
		changed := m.others(parts, "S")
		if got := ofSection(t, changed, "S"); !slices.Equal(got, want) {
			t.Errorf("of %q: %s; of %q: %s", text(parts), toldAssigns(want), text(changed), toldAssigns(got))
		}
		alone := slices.DeleteFunc(slices.Clone(parts), func(p part) bool { return p.section != "S" })
		if got := ofSection(t, alone, "S"); !slices.Equal(got, want) {
			t.Errorf("of %q: %s; alone: %s", text(parts), toldAssigns(want), toldAssigns(got))
		}
	}
	if found < 10000 {
		t.Errorf("%d assignments", found)
	}
}

// TestIndependenceOfLines is of P13.3: where other sections keep their number of lines, the lines' numbers stay too.
func TestIndependenceOfLines(t *testing.T) {
	mine := []api.Assign{row(2, "S", "a", "1"), row(7, "S", "b", "2")}
	for _, others := range []string{"[T]/x=y/z=w", "[U]/x=/#", "[T]/[V]/a=3", "//", "#/;/ ", "[T]/a=3/[S ]", "[s]/a=1/b=2"} {
		all, notes := unit.Parse(file(slashed("[S]/a=1/" + others + "/[S]/b=2")))
		all = slices.DeleteFunc(all, func(a api.Assign) bool { return a.Section != "S" })
		if !slices.Equal(all, mine) || len(notes) > 0 {
			t.Errorf("with %q: %s, %s", others, toldAssigns(all), toldNotes(notes))
		}
	}
}

// any makes a string of any bytes that a condition allows.
func (m maker) any(n int, allowed func(c byte) bool) string {
	var b []byte
	for len(b) < n {
		c := byte(m.Intn(256))
		if m.Intn(2) == 0 {
			c = m.of("a", "[", "]", "=", " ", "\t", "\\", "#", ";", "\r")[0]
		}
		if allowed(c) {
			b = append(b, c)
		}
	}
	return string(b)
}

// section, key and value make what can be written so: no key begins a comment or a header, no value ends in what continues a line.
func (m maker) section() string {
	return m.any(1+m.Intn(6), func(c byte) bool { return c != 10 && c != '[' && c != ']' })
}

func (m maker) key() string {
	s := m.any(1+m.Intn(6), func(c byte) bool { return c != 10 && c != '=' && !isWhite(c) })
	if strings.IndexByte("#;[", s[0]) >= 0 {
		return "k" + s
	}
	return s
}

func (m maker) value() string {
	s := trimByChapter(m.any(m.Intn(10), func(c byte) bool { return c != 10 }))
	if strings.HasSuffix(s, "\\") {
		return s + "v"
	}
	return s
}

// TestWriting is of P13.4: assignments of any bytes that can be written are read back, with the lines on which they stand.
func TestWriting(t *testing.T) {
	m := newMaker()
	for range 10000 {
		var b strings.Builder
		var want []api.Assign
		line, section := 0, ""
		for range m.Intn(12) {
			next := m.section()
			if section != "" && m.Intn(3) > 0 {
				next = section
			}
			if next != section || m.Intn(5) == 0 {
				section = next
				b.WriteString("[" + section + "]\n")
				line++
			}
			line++
			a := row(line, section, m.key(), m.value())
			w := m.of("", "", " ", "\t", "\r ")
			b.WriteString(m.of("", "", " ", "\t") + a.Key + w + "=" + w + a.Value + m.of("", "", " ", "\r") + "\n")
			want = append(want, a)
		}
		wantAssigns(t, b.String(), want...)
		wantAssigns(t, strings.TrimSuffix(b.String(), "\n"), want...)
	}
}

// TestWritingEachByte is of P13.4: each byte that can stand in a section, a key or a value is read back from there.
func TestWritingEachByte(t *testing.T) {
	for c := range 256 {
		b := string([]byte{byte(c)})
		if c == 10 {
			continue
		}
		if c != '[' && c != ']' {
			for _, s := range []string{b, b + "s", "s" + b, b + "s" + b} {
				wantAssigns(t, "["+s+"]\nk=v", row(2, s, "k", "v"))
			}
		}
		if c != '=' && !isWhite(byte(c)) {
			wantAssigns(t, "[S]\nk"+b+"k=v\nk"+b+"=w", row(2, "S", "k"+b+"k", "v"), row(3, "S", "k"+b, "w"))
		}
		wantAssigns(t, "[S]\nk=v"+b+"v\nl=m", row(2, "S", "k", "v"+b+"v"), row(3, "S", "l", "m"))
	}
}

// TestPassedStays is of P0.4: the file that is passed stays as it is, behind its length too, and what is written into it later changes nothing that was returned.
func TestPassedStays(t *testing.T) {
	for _, text := range []string{"", "\n", "[S]\na=b\n[T]\nc = d\\\n#\n e", "x\n[S\n=b", "[S]\na=b\nx", strings.Repeat("a\n", 1001), strings.Repeat("a", 65537)} {
		memory := []byte(text + "\n[S]\nd=e\nx\n")
		whole := bytes.Clone(memory)
		f := api.File{Name: "n", Dir: 3, Bytes: memory[:len(text)]}
		wantA, wantN := parseByChapter(f)
		for i := range wantA {
			wantA[i].Key = strings.Clone(wantA[i].Key)
			wantA[i].Value = strings.Clone(wantA[i].Value)
		}
		for i := range wantN {
			wantN[i].Text = strings.Clone(wantN[i].Text)
		}
		assigns, notes := unit.Parse(f)
		if !bytes.Equal(memory, whole) {
			t.Errorf("%q was changed", short(text))
		}
		for i := range memory {
			memory[i] = '['
		}
		if !slices.Equal(assigns, wantA) || !slices.Equal(notes, wantN) {
			t.Errorf("Parse of %q shares its memory: %s, %s", short(text), toldAssigns(assigns), toldNotes(notes))
		}
		wantParse(t, api.File{Name: "n", Bytes: []byte(text)}, wantA, wantN)
	}
}

// TestReturnedIsNew is of P0.3 and P0.4: lists that are returned share no memory, up to their capacity, and no call changes what a later one answers.
func TestReturnedIsNew(t *testing.T) {
	good := file("[S]\na=1\nb=2\nc=3\n[T]\nd=4\ne=5")
	bad := file("x\ny\n[S]\nz\na\nb")
	wantA, _ := parseByChapter(good)
	_, wantN := parseByChapter(bad)
	first, _ := unit.Parse(good)
	_, firstN := unit.Parse(bad)
	second, _ := unit.Parse(good)
	_, secondN := unit.Parse(bad)
	for i := range first[:cap(first)] {
		first[:cap(first)][i] = row(99, "written", "written", "written")
	}
	for i := range firstN[:cap(firstN)] {
		firstN[:cap(firstN)][i] = fault(99, "written")
	}
	if !slices.Equal(second, wantA) || !slices.Equal(secondN, wantN) {
		t.Errorf("Parse shares memory with what it returned before: %s, %s", toldAssigns(second), toldNotes(secondN))
	}
	wantParse(t, good, wantA, nil)
	wantParse(t, bad, nil, wantN)
	wantLimit(t, strings.Repeat("\n", 1001), api.ErrFull)
	// No section is left over from a file that was read before.
	wantFaults(t, "a=b", fault(1, "a=b"))
}

// TestPassedStrings is of P0.4: a string that is passed stays as it is, around it too.
func TestPassedStrings(t *testing.T) {
	for _, s := range []string{"", "[S]", "[S", "a=b", " a = b ", "a \t= b c\r", "=b", "[a=b]"} {
		whole := "[x] " + s + " a=b"
		before := strings.Clone(whole)
		piece := whole[4 : 4+len(s)]
		for range 2 {
			name, _ := sectionByChapter(s)
			wantSection(t, piece, name)
			if key, value, ok := assignmentByChapter(s); ok {
				wantAssignment(t, piece, key, value)
			} else {
				wantNoAssignment(t, piece)
			}
		}
		if whole != before || piece != s {
			t.Errorf("%q is %q after it was passed", before, whole)
		}
	}
}
