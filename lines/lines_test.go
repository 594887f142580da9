package lines_test

import (
	"bytes"
	"math/rand"
	"slices"
	"strconv"
	"strings"
	"testing"

	"vestibule/api"
	"vestibule/lines"
)

// isWhite tells whether a byte is white space by the chapter.
func isWhite(c byte) bool { return c == 32 || c == 9 || c == 13 }

// trimByChapter is a string without white space at its ends, byte by byte.
func trimByChapter(s string) string {
	from, to := 0, len(s)
	for from < to && isWhite(s[from]) {
		from++
	}
	for to > from && isWhite(s[to-1]) {
		to--
	}
	return s[from:to]
}

// commentByChapter tells whether a line is a comment, byte by byte.
func commentByChapter(s string) bool {
	for at := range len(s) {
		if !isWhite(s[at]) {
			return s[at] == '#' || s[at] == ';'
		}
	}
	return false
}

// linesByChapter is the lines of a file, byte by byte.
func linesByChapter(b []byte) []string {
	var l []string
	from := 0
	for at, c := range b {
		if c == 10 {
			l = append(l, string(b[from:at]))
			from = at + 1
		}
	}
	if from < len(b) {
		l = append(l, string(b[from:]))
	}
	return l
}

// continuedByChapter tells whether a line is continued.
func continuedByChapter(s string) bool {
	return !commentByChapter(s) && s != "" && s[len(s)-1] == '\\'
}

// nextPart is the index of the next line that is not a comment, or the number of lines if there is none.
func nextPart(all []string, from int) int {
	for from < len(all) && commentByChapter(all[from]) {
		from++
	}
	return from
}

// splitByChapter is what Split should return: from each line that begins a logical line, its parts are looked for.
func splitByChapter(b []byte) ([]lines.Line, api.Errno) {
	all := linesByChapter(b)
	switch {
	case len(b) > 65536:
		return nil, 3
	case len(all) > 1000:
		return nil, 4
	}
	var l []lines.Line
	for first := nextPart(all, 0); first < len(all); {
		text, at := "", first
		for at < len(all) && continuedByChapter(all[at]) {
			text += all[at][:len(all[at])-1] + " "
			at = nextPart(all, at+1)
		}
		if at < len(all) {
			text += all[at]
			at = nextPart(all, at+1)
		}
		if text = trimByChapter(text); text != "" {
			l = append(l, lines.Line{Number: first + 1, Text: text})
		}
		first = at
	}
	return l, 0
}

// short is a file for a message.
func short(s string) string {
	if len(s) > 300 {
		return s[:300] + ".."
	}
	return s
}

// told is logical lines for a message.
func told(l []lines.Line) string {
	var b strings.Builder
	for _, one := range l {
		b.WriteString(" " + strconv.Itoa(one.Number) + " " + strconv.Quote(short(one.Text)))
	}
	return "[" + short(strings.TrimPrefix(b.String(), " ")) + "]"
}

// wantSplit holds the logical lines of a file against what they should be.
func wantSplit(t *testing.T, file string, want ...lines.Line) {
	t.Helper()
	if got, e := lines.Split([]byte(file)); !slices.Equal(got, want) || e != api.OK {
		t.Errorf("Split of %q: %s, %d; want %s", short(file), told(got), e, told(want))
	}
	wantCount(t, file, len(linesByChapter([]byte(file))))
}

// wantError holds that a file has an error, and with it no lines.
func wantError(t *testing.T, file string, want api.Errno) {
	t.Helper()
	if got, e := lines.Split([]byte(file)); len(got) != 0 || e != want {
		t.Errorf("Split of %q (%d bytes): %d lines, %d; want %d", short(file), len(file), len(got), e, want)
	}
	wantCount(t, file, len(linesByChapter([]byte(file))))
}

// wantCount holds the number of lines of a file against what it should be.
func wantCount(t *testing.T, file string, want int) {
	t.Helper()
	if got := lines.Count([]byte(file)); got != want {
		t.Errorf("Count of %q (%d bytes): %d; want %d", short(file), len(file), got, want)
	}
}

// wantAsChapter holds all that is told of a file against the chapter's words; it tells how many logical lines there are.
func wantAsChapter(t *testing.T, file []byte) int {
	t.Helper()
	want, wantE := splitByChapter(file)
	if got, e := lines.Split(file); !slices.Equal(got, want) || e != wantE {
		t.Errorf("Split of %q: %s, %d; want %s, %d", short(string(file)), told(got), e, told(want), wantE)
	}
	if got, want := lines.Count(file), len(linesByChapter(file)); got != want {
		t.Errorf("Count of %q: %d; want %d", short(string(file)), got, want)
	}
	return len(want)
}

// line is a logical line.
func line(number int, text string) lines.Line { return lines.Line{Number: number, Text: text} }

// wantOne holds that each of the files has this logical line alone.
func wantOne(t *testing.T, number int, text string, files ...string) {
	t.Helper()
	for _, f := range files {
		wantSplit(t, f, line(number, text))
	}
}

// wantNone holds that none of the files has a logical line.
func wantNone(t *testing.T, files ...string) {
	t.Helper()
	for _, f := range files {
		wantSplit(t, f)
	}
}

// slashed is a file whose bytes 10 are slashes in the chapter's examples.
func slashed(s string) string { return strings.ReplaceAll(s, "/", "\n") }

// TestExamples is of P12.1: the chapter's examples.
func TestExamples(t *testing.T) {
	wantSplit(t, slashed(`a= 1 / # c / b`), line(1, "a= 1"), line(3, "b"))
	wantSplit(t, slashed(`a \/ b\/c/d`), line(1, "a   b c"), line(4, "d"))
	wantSplit(t, slashed(`a\/;x/b`), line(1, "a b"))
	wantSplit(t, slashed(`a\`), line(1, "a"))
	wantSplit(t, slashed(`/ /`))
	wantCount(t, slashed(`a= 1 / # c / b`), 3)
	wantCount(t, slashed(`a \/ b\/c/d`), 4)
	wantCount(t, slashed(`/ /`), 2)
}

// TestNoBytes is of P12.1 and P12.2: a file without bytes has no lines, one of a byte 10 has one, which is empty.
func TestNoBytes(t *testing.T) {
	for _, b := range [][]byte{nil, {}, make([]byte, 0, 10), []byte("a=b\n")[:0]} {
		if got, e := lines.Split(b); len(got) != 0 || e != api.OK {
			t.Errorf("Split of no bytes: %s, %d", told(got), e)
		}
		if got := lines.Count(b); got != 0 {
			t.Errorf("Count of no bytes: %d", got)
		}
	}
	wantNone(t, "\n", "\n\n", "\n\n\n")
	wantCount(t, "\n", 1)
	wantCount(t, "\n\n", 2)
}

// TestEnds is of P12.1 and P12.2: with a byte 10 at the end there is no other line, without one there is.
func TestEnds(t *testing.T) {
	wantOne(t, 1, "a", "a", "a\n", "a\n\n", "a\n ", "a\n \n")
	wantOne(t, 2, "a", "\na", "\na\n", " \na", "\t\na\n\n")
	wantSplit(t, "a\nb", line(1, "a"), line(2, "b"))
	wantSplit(t, "a\nb\n", line(1, "a"), line(2, "b"))
	wantSplit(t, "a\n\n\nb\n", line(1, "a"), line(4, "b"))
	wantSplit(t, "\n a \n\n\tb\t\n\n", line(2, "a"), line(4, "b"))
	for file, want := range map[string]int{"a": 1, "a\n": 1, "a\n\n": 2, "a\n ": 2, "a\nb": 2, "a\nb\n": 2, "\na": 2, "\na\n": 2, "\n\n ": 3, "a\r\nb\r\n": 2, "a\rb": 1, "#a\n;b\nc": 3, "a\\\nb\\\nc": 3, "a\\\n": 1, "a\\": 1, "#": 1, " ": 1, "\x00": 1} {
		wantCount(t, file, want)
	}
}

// TestWhiteLines is of P12.1: lines of white space alone are no logical lines, and their ends are no others'.
func TestWhiteLines(t *testing.T) {
	for _, white := range []string{" ", "\t", "\r", "   ", "\t\t", "\r\r", " \t\r", "\r\t ", "\t \r \t"} {
		wantNone(t, white, white+"\n", "\n"+white, white+"\n"+white, white+"\n\n"+white+"\n")
		wantSplit(t, "a\n"+white+"\nb", line(1, "a"), line(3, "b"))
		wantSplit(t, white+"\n"+white+"a"+white+"\n"+white, line(2, "a"))
		wantSplit(t, white+"a"+white+"b"+white+"\n", line(1, "a"+white+"b"))
	}
}

// TestOtherBytes is of P12.1: each byte as a line of its own, at the ends of a line and within it.
func TestOtherBytes(t *testing.T) {
	for c := range 256 {
		b := string([]byte{byte(c)})
		switch b {
		case "\n", " ", "\t", "\r", "#", ";", `\`:
			continue
		}
		wantOne(t, 1, b, b, b+"\n", " "+b+"\t", "\r"+b+" \n")
		wantOne(t, 1, b+"a"+b, b+"a"+b, "\t"+b+"a"+b+"\r")
		wantOne(t, 1, b+" "+b, b+"\\\n"+b, b+"\\\n#\n"+b+"\n")
		wantSplit(t, b+"\n"+b, line(1, b), line(2, b))
	}
	// A byte 10 ends a line, a byte 13 does not.
	wantSplit(t, "a\rb\r\nc\n\rd", line(1, "a\rb"), line(2, "c"), line(3, "d"))
	// These are white space elsewhere.
	for _, s := range []string{"\v", "\f", "\x00", "\u0085", "\u00a0", "\u2003", "\u2028", "\ufeff", "\x85", "\xa0", "\xc2"} {
		wantOne(t, 1, s, s, s+"\n", " "+s+" ")
		wantOne(t, 1, s+"#a", s+"#a", " "+s+"#a\n")
		wantOne(t, 1, "a\\"+s, "a\\"+s, "a\\"+s+"\n")
	}
}

// TestComments is of P12.1: comments with either sign, with white space ahead, at the beginning, between, at the end.
func TestComments(t *testing.T) {
	for _, sign := range []string{"#", ";"} {
		for _, ahead := range []string{"", " ", "\t", "\r", " \t\r ", "\r\n\r", "\n\n"} {
			for _, rest := range []string{"", "c", " c = d", "#", ";", "[S]", `\c`, "\r", "\xff"} {
				c := ahead + sign + rest
				n := strings.Count(c, "\n")
				wantNone(t, c, c+"\n", c+"\n"+c+"\n", "\n"+c)
				wantSplit(t, c+"\na", line(2+n, "a"))
				wantSplit(t, "a\n"+c+"\nb", line(1, "a"), line(3+n, "b"))
				wantSplit(t, "a\n"+c+"\n"+c+"\nb\n", line(1, "a"), line(4+2*n, "b"))
				wantOne(t, 1, "a", "a\n"+c, "a\n"+c+"\n")
			}
		}
		// A sign that begins no line is a byte like others.
		wantOne(t, 1, "a"+sign, "a"+sign, "a"+sign+"\n")
		wantOne(t, 1, "a "+sign+" b", "a "+sign+" b", " a "+sign+" b\n")
		wantOne(t, 1, "="+sign, "="+sign)
		wantOne(t, 1, `\`+sign, `\`+sign)
		wantOne(t, 1, "\v"+sign, "\v"+sign)
	}
	wantSplit(t, "a#b\\\nc;d\ne ;", line(1, "a#b c;d"), line(3, "e ;"))
}

// TestCommentsAreNotContinued is of P12.1: a comment whose last byte is the sign of continuation ends where it ends.
func TestCommentsAreNotContinued(t *testing.T) {
	for _, c := range []string{`#\`, `;\`, ` #\`, "\t;c\\", `# c \`, `#\\`, `;\ \`} {
		wantNone(t, c, c+"\n", c+"\n"+c, c+"\n\n")
		wantOne(t, 2, "a", c+"\na", c+"\na\n", c+"\n a\\\n"+c)
		wantSplit(t, c+"\n"+c+"\na\n"+c+"\nb", line(3, "a"), line(5, "b"))
		wantSplit(t, "a\n"+c+"\n\nb\n", line(1, "a"), line(4, "b"))
	}
}

// TestContinuedAtTheEnd is of P12.1: where there is no next line, the logical line ends.
func TestContinuedAtTheEnd(t *testing.T) {
	wantOne(t, 1, "a", `a\`, "a\\\n", "a \\", "a\\\n\n", "a\\\n \n", "a\\\n#", "a\\\n#\n", "a\\\n;c\n\t#\\\n", "a\\\n\\", "a\\\n\\\n", "a\\\n \\\n#")
	wantOne(t, 1, "a b", "a\\\nb", "a\\\nb\n", "a\\\nb\\", "a\\\nb\\\n", "a\\\nb\\\n#c\n")
	wantOne(t, 2, "a", "\na\\", "#\na\\\n", " \na\\\n\n")
	wantSplit(t, "b\na\\", line(1, "b"), line(2, "a"))
	wantSplit(t, "b\\\n\na\\\n", line(1, "b"), line(3, "a"))
}

// TestContinuedOverComments is of P12.1: comments between the parts are skipped, one or several, continued or not to the eye.
func TestContinuedOverComments(t *testing.T) {
	for _, c := range []string{"#", ";", "#c", " ;c", "\t# c \r", `#\`, `; c\`, "\r#\\", "#\n;", "#\\\n;\\", ";\\\n#c\n #\\\n;"} {
		n := 1 + strings.Count(c, "\n")
		wantOne(t, 1, "a b", "a\\\n"+c+"\nb", "a\\\n"+c+"\nb\n", "a\\\n"+c+"\nb\\", "a\\\n"+c+"\nb\\\n"+c)
		wantOne(t, 1, "a b d", "a\\\n"+c+"\nb\\\nd", "a\\\nb\\\n"+c+"\nd\n", "a\\\n"+c+"\nb\\\n"+c+"\nd")
		wantSplit(t, "a\\\n"+c+"\nb\nd", line(1, "a b"), line(3+n, "d"))
		wantSplit(t, "a\n"+c+"\nb\\\nd\ne", line(1, "a"), line(2+n, "b d"), line(4+n, "e"))
		wantSplit(t, c+"\na\\\nb\n"+c+"\nd", line(1+n, "a b"), line(3+2*n, "d"))
	}
	wantOne(t, 1, "a", "a\\\n#b", "a\\\n#b\\\n;c")
}

// TestSignsOfContinuation is of P12.1: lines of the sign alone, of two of them, and signs that are not the last byte.
func TestSignsOfContinuation(t *testing.T) {
	wantNone(t, `\`, "\\\n", "\\\n\\", "\\\n\\\n\\\n", " \\", "\t\\\n\r\\\n \n", "\\\n#\\\n", "\\\n\n", " \\\n\n\\")
	wantOne(t, 1, "a", "\\\na", "\\\n\\\na\n", " \\\n\t\\\n a \\", "\\\n;\na")
	wantSplit(t, "a\n\\\nb\n", line(1, "a"), line(2, "b"))
	wantSplit(t, "\\\n\nb\n", line(3, "b"))
	// The last one alone is replaced.
	wantOne(t, 1, `a\ b`, "a\\\\\nb", "a\\\\\nb\n", "a\\\\\n#\nb")
	wantOne(t, 1, `a\`, `a\\`, "a\\\\\n", "a\\\\\n\n")
	wantOne(t, 1, `\`, `\\`, "\\\\\n", " \\\\\n")
	wantOne(t, 1, `\\`, `\\\`)
	wantOne(t, 1, `\\ \ b`, "\\\\\\\n\\\\\nb")
	// Elsewhere the sign is a byte like others, which stays.
	wantOne(t, 1, `\a`, `\a`, "\\a\n", " \\a ")
	wantOne(t, 1, `a\b\ c`, `a\b\ c`)
	wantSplit(t, "a\\b\nc", line(1, `a\b`), line(2, "c"))
}

// TestBlanksBehindSigns is of P12.1: with a blank or a byte 13 behind the sign, a line is not continued.
func TestBlanksBehindSigns(t *testing.T) {
	for _, white := range []string{" ", "\t", "\r", "  ", " \r", "\t "} {
		wantSplit(t, "a\\"+white+"\nb", line(1, `a\`), line(2, "b"))
		wantSplit(t, "a \\"+white+"\nb\n", line(1, `a \`), line(2, "b"))
		wantSplit(t, "a\\\\"+white+"\nb", line(1, `a\\`), line(2, "b"))
		wantSplit(t, "\\"+white+"\nb", line(1, `\`), line(2, "b"))
		wantSplit(t, "a\\\nb\\"+white+"\nc", line(1, `a b\`), line(3, "c"))
		wantSplit(t, "a\\\nb\\"+white, line(1, `a b\`))
		wantSplit(t, "#\\"+white+"\nb", line(2, "b"))
	}
}

// TestEmptyNextLines is of P12.1: a next line that is empty, or white space, is a part, and the last one.
func TestEmptyNextLines(t *testing.T) {
	for _, white := range []string{"", " ", "\t", "\r", " \t\r"} {
		wantSplit(t, "a\\\n"+white+"\nb", line(1, "a"), line(3, "b"))
		wantSplit(t, "a\\\n#c\n"+white+"\nb\n", line(1, "a"), line(4, "b"))
		wantSplit(t, "\\\n"+white+"\nb", line(3, "b"))
		wantSplit(t, "a\\\n"+white+"\\\nb", line(1, "a "+white+" b"))
		wantSplit(t, "a"+white+"\\\n"+white+"b", line(1, "a"+white+" "+white+"b"))
	}
	wantOne(t, 1, "a", "a\\\n\n", "a\\\n \n", "a\\\n\t")
}

// TestWhiteInside is of P12.1: no white space is lost or joined but that at the ends of the whole text.
func TestWhiteInside(t *testing.T) {
	wantOne(t, 1, "a  \t b", " a  \t b ", "\ra  \t b\t\n")
	wantOne(t, 1, "a \t  \r b", " a \t \\\n\r b ")
	wantOne(t, 1, "a\r b", "a\r\\\nb\r\n")
	wantOne(t, 2, "a    b", "\n\t a \\\n \\\nb \\\n \n")
}

// TestFirstNumbers is of P12.1: the number of a logical line is that of its first part, white space or not.
func TestFirstNumbers(t *testing.T) {
	wantSplit(t, "\n#\n \\\n#\n\\\na\\\nb\nc", line(3, "a b"), line(8, "c"))
	wantSplit(t, "#\\\n\\\n\\\n\\\na\n\\\n\nb", line(2, "a"), line(8, "b"))
}

// TestMaxLines is of P12.1, P12.2 and P0.2: as many lines as may be, and one more; comments, empty lines and parts are lines too.
func TestMaxLines(t *testing.T) {
	for _, l := range []string{"\n", "#\n", " ;\\\n", "a\n", " \n", "a\\\n", "\\\n", "a=b\r\n"} {
		whole := strings.Repeat(l, 1000)
		wantCount(t, whole, 1000)
		wantAsChapter(t, []byte(whole))
		wantAsChapter(t, []byte(strings.TrimSuffix(whole, "\n")))
		if _, e := lines.Split([]byte(whole)); e != api.OK {
			t.Errorf("Split of a thousand lines %q: %d", l, e)
		}
		for _, more := range []string{"\n", "a", " ", "#", "\\", l, "a\n", "#\\\n"} {
			wantCount(t, whole+more, 1001)
			wantError(t, whole+more, api.ErrFull)
		}
		wantError(t, "a\n"+whole, api.ErrFull)
		wantError(t, whole+whole, api.ErrFull)
	}
	got, e := lines.Split([]byte(strings.Repeat("a\n", 999) + "b"))
	if len(got) != 1000 || got[0] != line(1, "a") || got[999] != line(1000, "b") || e != api.OK {
		t.Errorf("Split of a thousand lines: %d lines, %d", len(got), e)
	}
	wantSplit(t, strings.Repeat("#\n", 999)+"b", line(1000, "b"))
	wantSplit(t, strings.Repeat("\n", 998)+"b\\\nc\n", line(999, "b c"))
	wantSplit(t, strings.Repeat("a\\\n", 999)+"b", line(1, strings.Repeat("a ", 999)+"b"))
}

// TestMaxBytes is of P12.1 and P0.2: as many bytes as may be, and one more.
func TestMaxBytes(t *testing.T) {
	long := strings.Repeat("a", 65536)
	wantSplit(t, long, line(1, long))
	wantSplit(t, long[1:]+"\n", line(1, long[1:]))
	wantSplit(t, long[1:]+"\\", line(1, long[1:]))
	wantSplit(t, long[3:]+"\n b", line(1, long[3:]), line(2, "b"))
	wantNone(t, "#"+long[1:], strings.Repeat(" ", 65536))
	for _, file := range []string{long + "a", long + "\n", long + " ", "\n" + long, "#" + long, strings.Repeat(" ", 65537), strings.Repeat("\x00", 65537), long + long} {
		wantError(t, file, api.ErrLong)
	}
}

// TestBothLimits is of P12.1 and P0.2: of a file beyond both limits, the error is that of its bytes.
func TestBothLimits(t *testing.T) {
	for _, l := range []string{"\n", "#\n", "a\\\n", " \n"} {
		full := strings.Repeat(l, 65536/len(l))
		full += strings.Repeat("\n", 65536-len(full))
		wantError(t, full, api.ErrFull)
		wantError(t, full+"\n", api.ErrLong)
		wantError(t, full+"a", api.ErrLong)
		wantCount(t, full+"\n", strings.Count(full, "\n")+1)
		wantCount(t, full+"a", strings.Count(full, "\n")+1)
	}
	thousand := strings.Repeat("\n", 999)
	wantSplit(t, thousand+strings.Repeat("a", 65536-999), line(1000, strings.Repeat("a", 65536-999)))
	wantError(t, thousand+strings.Repeat("a", 65537-999), api.ErrLong)
	wantError(t, thousand+"\n"+strings.Repeat("a", 65536-1000), api.ErrFull)
	wantError(t, thousand+"\n"+strings.Repeat("a", 65537-1000), api.ErrLong)
}

// TestCountOfAnyFile is of P12.2: files above the limits have a number of lines too.
func TestCountOfAnyFile(t *testing.T) {
	for _, n := range []int{999, 1000, 1001, 65535, 65536, 65537, 200000} {
		wantCount(t, strings.Repeat("\n", n), n)
		wantCount(t, strings.Repeat("\n", n)+"a", n+1)
		wantCount(t, strings.Repeat("a\\\n", n), n)
		wantCount(t, strings.Repeat("#b\n", n)+"\r", n+1)
		wantCount(t, strings.Repeat("a", n), 1)
		wantCount(t, strings.Repeat("a", n)+"\n", 1)
		wantCount(t, strings.Repeat("a", n)+"\nb", 2)
	}
}

// wantTrim holds what is told of a string against what it should be.
func wantTrim(t *testing.T, s, trimmed string, comment bool) {
	t.Helper()
	if got := lines.Trim(s); got != trimmed {
		t.Errorf("Trim of %q: %q; want %q", short(s), short(got), short(trimmed))
	}
	if got := lines.Comment(s); got != comment {
		t.Errorf("Comment of %q: %t", short(s), got)
	}
}

// TestTrim is of P12.2: white space at each end, at both, inside, and alone.
func TestTrim(t *testing.T) {
	for _, white := range []string{"", " ", "\t", "\r", "  ", " \t\r", "\r\r\t ", strings.Repeat("\t \r", 1000)} {
		wantTrim(t, white, "", false)
		for _, s := range []string{"a", "a b", "a" + white + "b", "=", "a\\", "\\", "\n", "\na\n", "\xff", "\xc2", "\u00e9", "\u4e16", "a=b # c"} {
			wantTrim(t, s, s, false)
			wantTrim(t, white+s, s, false)
			wantTrim(t, s+white, s, false)
			wantTrim(t, white+s+white, s, false)
		}
	}
}

// TestComment is of P12.2: signs as the first byte that is not white space, and elsewhere.
func TestComment(t *testing.T) {
	for _, white := range []string{"", " ", "\t", "\r", " \t\r", strings.Repeat("\r \t", 1000)} {
		for _, sign := range []string{"#", ";"} {
			for _, rest := range []string{"", "c", " c", "#", ";", "\\", "\n", "\na", "\xff", "[S]"} {
				wantTrim(t, white+sign+rest, sign+rest, true)
				for _, ahead := range []string{"a", "\\", "\n", "\v", "\f", "\x00", "\u00a0", "\u0085", "\xa0", "=", "[", "\u037e", "\uff03"} {
					s := ahead + white + sign + rest
					wantTrim(t, white+s, s, false)
				}
			}
		}
	}
}

// TestEachByte is of P12.2: each byte alone, and at each end: three are white space, two begin a comment.
func TestEachByte(t *testing.T) {
	for c := range 256 {
		b := string([]byte{byte(c)})
		comment := c == '#' || c == ';'
		if c == 32 || c == 9 || c == 13 {
			wantTrim(t, b, "", false)
			wantTrim(t, b+"a"+b, "a", false)
			wantTrim(t, b+"#"+b, "#", true)
			wantTrim(t, "a"+b+"#", "a"+b+"#", false)
			continue
		}
		wantTrim(t, b, b, comment)
		wantTrim(t, " "+b+"\t", b, comment)
		wantTrim(t, b+"a"+b, b+"a"+b, comment)
		wantTrim(t, "a"+b, "a"+b, false)
		wantTrim(t, b+" ", b, comment)
		wantTrim(t, b+"#", b+"#", comment)
		wantTrim(t, "a "+b+" a", "a "+b+" a", false)
	}
	for c := range 256 {
		for d := range 256 {
			s := string([]byte{byte(c), byte(d)})
			wantTrim(t, s, trimByChapter(s), commentByChapter(s))
		}
	}
}

// each calls what is done for all files up to a length of some bytes.
func each(bytesOf string, length int, do func(file []byte)) {
	var file []byte
	var grow func()
	grow = func() {
		do(file)
		if len(file) == length {
			return
		}
		for at := range len(bytesOf) {
			file = append(file, bytesOf[at])
			grow()
			file = file[:len(file)-1]
		}
	}
	grow()
}

// TestShortFiles is of P12.1 to P12.3: all short files of the bytes that count, against the chapter's words.
func TestShortFiles(t *testing.T) {
	files, found := 0, 0
	do := func(file []byte) {
		files++
		found += wantAsChapter(t, file)
		wantTrim(t, string(file), trimByChapter(string(file)), commentByChapter(string(file)))
		wantNumbers(t, file)
	}
	each("a \\#\n", 7, do)
	each("a\t\r;\\\n", 6, do)
	each("\\\n#", 10, do)
	if files < 200000 || found < files/2 {
		t.Errorf("%d files with %d logical lines", files, found)
	}
}

// wantNumbers holds that the numbers of a file's logical lines ascend and are numbers of lines that are no comments.
func wantNumbers(t *testing.T, file []byte) {
	t.Helper()
	l, _ := lines.Split(file)
	physical := bytes.Split(file, []byte("\n"))
	last := 0
	for _, one := range l {
		if one.Number <= last || one.Number > lines.Count(file) || lines.Comment(string(physical[one.Number-1])) || one.Text == "" || one.Text != lines.Trim(one.Text) {
			t.Errorf("Split of %q: %s", short(string(file)), told(l))
		}
		last = one.Number
	}
}

// maker makes files. Its seed is fixed, so that each run of the tests sees the same ones.
type maker struct{ *rand.Rand }

func newMaker() maker { return maker{rand.New(rand.NewSource(12))} }

// of chooses one of some strings.
func (m maker) of(l ...string) string { return l[m.Intn(len(l))] }

// plain makes a line that is no comment and is not continued.
func (m maker) plain() string {
	s := m.of("", "", " ", "\t", "\r ") + m.of("", "", "a", "key", "[Service]", "b=c", "\\d", "\xff", "\u4e16", "=") + m.of("", " = b # c", " ; d", "\\", "e\\f", "=1 2 3") + m.of("", "", " ", "\t\r", "g")
	for strings.HasSuffix(s, "\\") {
		s = s[:len(s)-1]
	}
	return s
}

// comment makes a comment.
func (m maker) comment() string {
	return m.of("", "", " ", "\t", "\r ") + m.of("#", ";") + m.of("", "c", " c = d", "#", ";") + m.of("", "", " ", "\\", "\\\\")
}

// any makes a line of any kind.
func (m maker) any() string {
	switch m.Intn(4) {
	case 0:
		return m.comment()
	case 1:
		return m.plain() + "\\"
	}
	return m.plain()
}

// ended is a file of these lines, with or without a byte 10 at its end.
func (m maker) ended(l []string) []byte {
	return []byte(strings.Join(l, "\n") + m.of("", "\n"))
}

// several makes some lines.
func several(n int, one func() string) []string {
	var l []string
	for range n {
		l = append(l, one())
	}
	return l
}

// TestMadeFiles is of P12.1 to P12.3: files of lines of all kinds, short and long, against the chapter's words.
func TestMadeFiles(t *testing.T) {
	m := newMaker()
	found := 0
	for range 20000 {
		file := m.ended(several(m.Intn(12), m.any))
		found += wantAsChapter(t, file)
		wantNumbers(t, file)
	}
	for range 100 {
		file := m.ended(several(980+m.Intn(30), m.any))
		found += wantAsChapter(t, file)
		wantNumbers(t, file)
	}
	if found < 50000 {
		t.Errorf("%d logical lines", found)
	}
}

// TestNumbers is of P12.3: numbers ascend, and lie among those of the lines, whatever is skipped.
func TestNumbers(t *testing.T) {
	for _, file := range []string{"a\nb\nc", "\n\na\n\nb\\\n\n\nc", "#\na\\\n#\n#\n\\\nb\nc\n#", "a\\", "\\\n\\\n\\\na", strings.Repeat("a\\\nb\n", 500), strings.Repeat("\\\n#\na\n\n", 250)} {
		wantNumbers(t, []byte(file))
		wantAsChapter(t, []byte(file))
	}
	l, _ := lines.Split([]byte(strings.Repeat("a\\\nb\n", 500)))
	for i, one := range l {
		if one != line(2*i+1, "a b") {
			t.Errorf("logical line %d: %s", i, told(l[i:i+1]))
		}
	}
	if len(l) != 500 {
		t.Errorf("%d logical lines", len(l))
	}
}

// TestWithoutContinuation is of P12.4: where no line is continued, each line that is no comment and not white space alone is a logical line, trimmed.
func TestWithoutContinuation(t *testing.T) {
	m := newMaker()
	found := 0
	for range 20000 {
		all := several(m.Intn(10), func() string {
			if m.Intn(3) == 0 {
				return m.comment()
			}
			return m.plain()
		})
		var want []lines.Line
		for i, s := range all {
			if text := lines.Trim(s); text != "" && !lines.Comment(s) {
				want = append(want, line(i+1, text))
			}
		}
		found += len(want)
		wantSplit(t, string(m.ended(all)), want...)
	}
	if found < 20000 {
		t.Errorf("%d logical lines", found)
	}
}

// TestCommentsInBetween is of P12.5: comments put between lines that are not continued, at each place, change the numbers behind them and nothing else.
func TestCommentsInBetween(t *testing.T) {
	m := newMaker()
	for range 5000 {
		all := several(1+m.Intn(6), m.plain)
		before, _ := lines.Split([]byte(strings.Join(all, "\n")))
		for at := range len(all) + 1 {
			comments := several(1+m.Intn(3), m.comment)
			want := slices.Clone(before)
			for i := range want {
				if want[i].Number > at {
					want[i].Number += len(comments)
				}
			}
			wantSplit(t, string(m.ended(slices.Insert(slices.Clone(all), at, comments...))), want...)
		}
	}
}

// TestCommentsAmongParts is of P12.5: comments that are put behind any lines, continued ones too, change no text.
func TestCommentsAmongParts(t *testing.T) {
	m := newMaker()
	texts := func(l []lines.Line) (texts []string) {
		for _, one := range l {
			texts = append(texts, one.Text)
		}
		return texts
	}
	for range 5000 {
		all := several(1+m.Intn(8), m.any)
		with := slices.Insert(slices.Clone(all), m.Intn(len(all)+1), several(1+m.Intn(3), m.comment)...)
		before, _ := lines.Split(m.ended(all))
		after, e := lines.Split(m.ended(with))
		if !slices.Equal(texts(before), texts(after)) || e != api.OK {
			t.Errorf("Split of %q: %s; of %q: %s, %d", all, told(before), with, told(after), e)
		}
	}
}

// TestPassedStays is of P0.4: the bytes that are passed stay as they are, behind their length too, and what is written into them later changes nothing that was returned.
func TestPassedStays(t *testing.T) {
	for _, file := range []string{"", "\n", "a", " a \\\n# c\\\n b \nc", "a\\\n", "[S]\na=b\n", strings.Repeat("a\n", 1001), strings.Repeat("a", 65537)} {
		memory := []byte(file + "\nd\\\n#e\n")
		whole := bytes.Clone(memory)
		passed := memory[:len(file)]
		wantAsChapter(t, passed)
		first, e := lines.Split(passed)
		kept := slices.Clone(first)
		for i := range kept {
			kept[i].Text = strings.Clone(kept[i].Text)
		}
		if !bytes.Equal(memory, whole) {
			t.Errorf("%q was changed", short(file))
		}
		for i := range memory {
			memory[i] = '#'
		}
		if !slices.Equal(first, kept) {
			t.Errorf("Split of %q shares its memory: %s, %d", short(file), told(first), e)
		}
		wantAsChapter(t, []byte(file))
	}
}

// TestReturnedIsNew is of P0.4: lists that are returned share no memory, up to their capacity.
func TestReturnedIsNew(t *testing.T) {
	file := []byte("a\nb\\\nc\n#\nd\ne\nf")
	want := []lines.Line{line(1, "a"), line(2, "b c"), line(5, "d"), line(6, "e"), line(7, "f")}
	first, _ := lines.Split(file)
	second, _ := lines.Split(file)
	first = first[:cap(first)]
	for i := range first {
		first[i] = line(99, "written")
	}
	if !slices.Equal(second, want) {
		t.Errorf("Split shares memory with what it returned before: %s", told(second))
	}
	wantSplit(t, string(file), want...)
}

// TestPassedStrings is of P0.4: a string that is passed stays as it is, around it too.
func TestPassedStrings(t *testing.T) {
	for _, s := range []string{"", " ", " a ", "#", "\t# c\r", "a\\"} {
		whole := "# " + s + " ;"
		before := strings.Clone(whole)
		piece := whole[2 : 2+len(s)]
		for range 2 {
			wantTrim(t, piece, trimByChapter(s), commentByChapter(s))
		}
		if whole != before || piece != s {
			t.Errorf("%q is %q after it was passed", before, whole)
		}
	}
}
