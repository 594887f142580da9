package values_test

import (
	"fmt"
	"math"
	"math/rand"
	"slices"
	"strconv"
	"strings"
	"testing"
	"unicode"
	"unicode/utf8"

	"vestibule/api"
	"vestibule/names"
	"vestibule/values"
)

// isWhite tells whether a byte is white space, by its number.
func isWhite(b byte) bool { return b == 32 || b == 9 || b == 13 }

// wordsByChapter is what Words should return: each byte that is not white space begins a word or goes on with one.
func wordsByChapter(s string) []string {
	var l []string
	from := -1
	for i := range len(s) {
		switch {
		case !isWhite(s[i]) && from < 0:
			from = i
		case isWhite(s[i]) && from >= 0:
			l = append(l, s[from:i])
			from = -1
		}
	}
	if from >= 0 {
		l = append(l, s[from:])
	}
	return l
}

// boolByChapter is what Bool should return.
func boolByChapter(s string) (bool, api.Errno) {
	switch s {
	case "yes", "true", "on", "1":
		return true, 0
	case "no", "false", "off", "0":
		return false, 0
	}
	return false, 150
}

// readByChapter is what Read should return.
func readByChapter(word string) (values.Entry, api.Errno) {
	at := 0
	for at < len(word) && word[at] != ':' {
		at++
	}
	if at == 0 {
		return values.Entry{}, 161
	}
	if at == len(word) {
		return entry(word), 0
	}
	suffix := word[at+1:]
	if suffix == "kill" {
		return suffixed(word[:at], 0x80000000), 0
	}
	n, e := names.Errno(suffix)
	if e != 0 {
		return values.Entry{}, 160
	}
	return suffixed(word[:at], 0x00050000+n), 0
}

// textByChapter is what Text should return.
func textByChapter(e values.Entry) string {
	switch {
	case !e.Has:
		return e.Name
	case e.Action == 0x80000000:
		return e.Name + ":kill"
	case e.Action/0x10000 == 5:
		return e.Name + ":" + names.ErrnoName(e.Action%0x10000)
	}
	return e.Name + ":"
}

// entry is an entry without a suffix, suffixed one with the suffix of an action.
func entry(name string) values.Entry { return values.Entry{Name: name} }
func suffixed(name string, action uint32) values.Entry {
	return values.Entry{Name: name, Action: action, Has: true}
}

// short is a string for a message.
func short(s string) string {
	if len(s) > 200 {
		return s[:200] + ".."
	}
	return s
}

// The helpers below end a test at its first difference: those that go through all short strings would tell thousands.

// wantWords holds the words of a value against a list.
func wantWords(t *testing.T, s string, want ...string) {
	t.Helper()
	if got := values.Words(s); !slices.Equal(got, want) {
		t.Fatalf("Words of %q: %s; want %s", short(s), short(fmt.Sprintf("%+q", got)), short(fmt.Sprintf("%+q", want)))
	}
}

// wantBool holds the boolean that a string writes against a bool and an error.
func wantBool(t *testing.T, s string, want bool, e api.Errno) {
	t.Helper()
	if got, gotE := values.Bool(s); got != want || gotE != e {
		t.Fatalf("Bool of %q: %t, %d; want %t, %d", short(s), got, int(gotE), want, int(e))
	}
}

// wantNoBool holds that a string writes no boolean.
func wantNoBool(t *testing.T, s string) {
	t.Helper()
	wantBool(t, s, false, api.ErrBool)
}

// wantRead holds the entry that is read from a word against one.
func wantRead(t *testing.T, word string, want values.Entry) {
	t.Helper()
	if got, e := values.Read(word); got != want || e != api.OK {
		t.Fatalf("Read of %q: %q %#x %t, %d; want %q %#x %t", short(word), short(got.Name), got.Action, got.Has, int(e), short(want.Name), want.Action, want.Has)
	}
}

// wantRefused holds that a word is no entry, and that the zero value is all that is returned with the error.
func wantRefused(t *testing.T, word string, want api.Errno) {
	t.Helper()
	if got, e := values.Read(word); got != (values.Entry{}) || e != want {
		t.Fatalf("Read of %q: %q %#x %t, %d; want %d", short(word), short(got.Name), got.Action, got.Has, int(e), int(want))
	}
}

// wantReadAsChapter holds what is read from a word against the chapter's words; it tells the error.
func wantReadAsChapter(t *testing.T, word string) api.Errno {
	t.Helper()
	want, e := readByChapter(word)
	if e != api.OK {
		wantRefused(t, word, e)
	} else {
		wantRead(t, word, want)
	}
	return e
}

// wantTurned holds what Turned returns against a value and a bool.
func wantTurned(t *testing.T, s, rest string, turned bool) {
	t.Helper()
	if got, ok := values.Turned(s); got != rest || ok != turned {
		t.Fatalf("Turned of %q: %q, %t; want %q, %t", short(s), short(got), ok, short(rest), turned)
	}
}

// wantText holds the text of an entry against a string.
func wantText(t *testing.T, e values.Entry, want string) {
	t.Helper()
	if got := values.Text(e); got != want {
		t.Fatalf("Text of %q %#x %t: %q; want %q", short(e.Name), e.Action, e.Has, short(got), short(want))
	}
}

// each calls a function with all strings of up to n of some bytes.
func each(letters string, n int, do func(string)) {
	var from func(s string, n int)
	from = func(s string, n int) {
		do(s)
		for i := 0; n > 0 && i < len(letters); i++ {
			from(s+letters[i:i+1], n-1)
		}
	}
	from("", n)
}

// near calls a function with a string, and with those that have one byte more, less or another one, at each place.
func near(s string, do func(string)) {
	do(s)
	for at := range len(s) + 1 {
		do(s[:at])
		do(s[at:])
		if at < len(s) {
			do(s[:at] + s[at+1:])
		}
		for c := range 256 {
			b := string([]byte{byte(c)})
			do(s[:at] + b + s[at:])
			if at < len(s) {
				do(s[:at] + b + s[at+1:])
			}
		}
	}
}

// made is a string of up to n of some pieces.
func made(r *rand.Rand, n int, pieces ...string) string {
	var b strings.Builder
	for range r.Intn(n + 1) {
		b.WriteString(pieces[r.Intn(len(pieces))])
	}
	return b.String()
}

// whites are pieces of white space: each kind alone, and mixed.
func whites() []string {
	return []string{" ", "\t", "\r", "  ", "\t\t", "\r\r", " \t", "\t ", " \r", "\r ", "\t\r", "\r\t", " \t\r", "\r\t ", "\t \r \t", strings.Repeat(" ", 100), strings.Repeat(" \t\r", 100)}
}

// foreign are bytes that are no white space, though others call them so, or take them for the end of a text.
func foreign() []string {
	return []string{"\n", "\v", "\f", "\x00", "\xa0", "\x85", "\u00a0", "\u0085", "\u3000", "\u1680", "\u2000", "\u2003", "\u2028", "\u2029", "\u202f", "\u205f", "\u180e", "\u200b", "\ufeff", "\x1b", "\x1f", "\x7f", "\x08"}
}

// noText are bytes that are no valid UTF-8.
func noText() []string {
	return []string{"\x80", "\xff", "\xfe", "\xc2", "\xc0", "\xc3", "\xe3", "\xe3\x80", "\xf0\x9f\x98", "\xf0\x9f", "\xed\xa0\x80", "\xc0\xa0", "\xc0\x89", "\xe0\x80\xa0", "\xf4\x90\x80\x80", "\x80\x80", "\xff\xfe", "\xbf"}
}

// TestExamples is of P15.1 to P15.3: the chapter's examples.
func TestExamples(t *testing.T) {
	wantWords(t, " a  b", "a", "b")
	wantBool(t, "on", true, api.OK)
	wantBool(t, "0", false, api.OK)
	wantNoBool(t, "Yes")
	wantRead(t, "read", entry("read"))
	wantRead(t, "read:EPERM", suffixed("read", api.Fail|1))
	wantRead(t, "read:kill", suffixed("read", api.KillProcess))
	wantRefused(t, ":5", api.ErrEmpty)
	wantRefused(t, "read:x", api.ErrErrno)
	wantRefused(t, "a:5:6", api.ErrErrno)
	wantTurned(t, "~a b", "a b", true)
	wantTurned(t, " ~a", " ~a", false)
}

// TestErrors is of P15.1 and P15.2: the numbers of the errors.
func TestErrors(t *testing.T) {
	if _, e := values.Bool(""); e != 150 {
		t.Error(int(e))
	}
	if _, e := values.Read(""); e != 161 {
		t.Error(int(e))
	}
	if _, e := values.Read("a:"); e != 160 {
		t.Error(int(e))
	}
}

// TestWordsOfNothing is of P15.1: the empty string and white space alone have no words.
func TestWordsOfNothing(t *testing.T) {
	wantWords(t, "")
	for _, white := range whites() {
		wantWords(t, white)
		for _, more := range whites() {
			wantWords(t, white+more)
		}
	}
	for n := range 300 {
		wantWords(t, strings.Repeat(" ", n))
		wantWords(t, strings.Repeat("\t", n))
		wantWords(t, strings.Repeat("\r", n))
	}
}

// TestWords is of P15.1: words with white space ahead of them, between them and behind them.
func TestWords(t *testing.T) {
	wantWords(t, "a", "a")
	wantWords(t, "read", "read")
	wantWords(t, "read write", "read", "write")
	wantWords(t, "write read", "write", "read")
	wantWords(t, "b a b", "b", "a", "b")
	wantWords(t, "a a", "a", "a")
	wantWords(t, "\ta\rb ", "a", "b")
	wantWords(t, "~a ~ b~", "~a", "~", "b~")
	wantWords(t, "read:EPERM @basic-io :", "read:EPERM", "@basic-io", ":")
	wantWords(t, "a,b;c d=e \"f g\" 'h' i\\ j", "a,b;c", "d=e", "\"f", "g\"", "'h'", "i\\", "j")
	wantWords(t, "a#b #c", "a#b", "#c")
	for _, white := range whites() {
		wantWords(t, white+"read", "read")
		wantWords(t, "read"+white, "read")
		wantWords(t, white+"read"+white, "read")
		wantWords(t, "read"+white+"write", "read", "write")
		wantWords(t, "read"+white+"read"+white, "read", "read")
		for _, more := range whites() {
			wantWords(t, white+"a"+more+"b"+white+"c"+more, "a", "b", "c")
		}
	}
}

// TestWordsOfEachByte is of P15.1: each byte alone, ahead of words, between them and behind them.
func TestWordsOfEachByte(t *testing.T) {
	separating := 0
	for c := range 256 {
		b := string([]byte{byte(c)})
		if c == 9 || c == 13 || c == 32 {
			separating++
			wantWords(t, b)
			wantWords(t, b+b+"a"+b+"c"+b, "a", "c")
			continue
		}
		wantWords(t, b, b)
		wantWords(t, b+b, b+b)
		wantWords(t, "a"+b, "a"+b)
		wantWords(t, b+"a", b+"a")
		wantWords(t, "a"+b+"c", "a"+b+"c")
		wantWords(t, " "+b+" ", b)
		wantWords(t, "a "+b+"\tc\r"+b, "a", b, "c", b)
		wantWords(t, b+" "+b+"\t"+b+"\r"+b, b, b, b, b)
	}
	if separating != 3 {
		t.Errorf("%d bytes separate words", separating)
	}
}

// TestWordsOfForeignSpace is of P15.1: bytes that others call white space are part of a word.
func TestWordsOfForeignSpace(t *testing.T) {
	for _, b := range foreign() {
		wantWords(t, b, b)
		wantWords(t, "a"+b+"b", "a"+b+"b")
		wantWords(t, b+"a"+b, b+"a"+b)
		wantWords(t, " "+b+" a"+b+"\tb", b, "a"+b, "b")
		wantWords(t, "a"+b+" "+b+"b", "a"+b, b+"b")
	}
	wantWords(t, "a\r\nb", "a", "\nb")
	wantWords(t, "a\n\rb", "a\n", "b")
	wantWords(t, "\n \n", "\n", "\n")
}

// TestWordsOfEachRune is of P15.1: each character but three is part of a word.
func TestWordsOfEachRune(t *testing.T) {
	spaces := 0
	for r := range rune(utf8.MaxRune + 1) {
		if r == 9 || r == 13 || r == 32 {
			continue
		}
		if r > 0x3100 && r%97 != 0 && r < unicode.MaxRune-9 {
			continue
		}
		if unicode.IsSpace(r) {
			spaces++
		}
		s := string(r)
		wantWords(t, s+" a"+s+"b\t"+s, s, "a"+s+"b", s)
	}
	if spaces < 20 {
		t.Errorf("%d other characters are white space elsewhere", spaces)
	}
}

// TestWordsOfNoText is of P15.1: bytes that are no valid UTF-8 are kept as they are, and take none of the bytes beside them.
func TestWordsOfNoText(t *testing.T) {
	for _, b := range noText() {
		if utf8.ValidString(b) {
			t.Fatalf("%q", b)
		}
		wantWords(t, b, b)
		wantWords(t, b+" "+b, b, b)
		wantWords(t, "\t"+b+"a\r"+b+"b ", b+"a", b+"b")
		wantWords(t, "a"+b+" b"+b+"\tc"+b+"\r", "a"+b, "b"+b, "c"+b)
		for _, other := range noText() {
			wantWords(t, b+other, b+other)
			wantWords(t, b+" "+other+"\t"+b, b, other, b)
		}
	}
}

// TestWordsOfHighBytes is of P15.1: each two bytes above 127, together and apart.
func TestWordsOfHighBytes(t *testing.T) {
	for a := 128; a < 256; a++ {
		for b := 128; b < 256; b++ {
			first, second := string([]byte{byte(a)}), string([]byte{byte(b)})
			wantWords(t, first+second+" "+first+"\t"+second+"\ra"+second+first, first+second, first, second, "a"+second+first)
		}
	}
}

// TestWordsOfShortValues is of P15.1: all short values of the bytes that count.
func TestWordsOfShortValues(t *testing.T) {
	each(" \t\r\na\x00\xc2\xa0\xe3\x80", 5, func(s string) { wantWords(t, s, wordsByChapter(s)...) })
	each(" \t\rab", 7, func(s string) { wantWords(t, s, wordsByChapter(s)...) })
}

// TestWordsOfLongValues is of P15.1: long words, many words and much white space.
func TestWordsOfLongValues(t *testing.T) {
	long := strings.Repeat("a", 1<<20)
	wantWords(t, long, long)
	wantWords(t, long+" "+long+"\t", long, long)
	wantWords(t, strings.Repeat(" ", 1<<20)+"a"+strings.Repeat("\t", 1<<20), "a")
	wantWords(t, strings.Repeat("\r ", 1<<20))
	for _, n := range []int{1, 2, 31, 32, 33, 63, 64, 65, 100, 1000, 1 << 16} {
		var want []string
		for i := range n {
			want = append(want, strconv.Itoa(i))
		}
		wantWords(t, strings.Join(want, " "), want...)
		wantWords(t, " "+strings.Join(want, "\t\r")+" ", want...)
	}
}

// TestWordsOfMadeValues is of P15.1: made values, against the chapter's words.
func TestWordsOfMadeValues(t *testing.T) {
	pieces := slices.Concat(whites()[:15], foreign(), noText(), []string{"a", "read", "~", ":", "@file", "EPERM", "\u4e16", "\U0001f600", "1"})
	r := rand.New(rand.NewSource(15))
	for range 20000 {
		s := made(r, 30, pieces...)
		wantWords(t, s, wordsByChapter(s)...)
	}
}

// TestWordsAreTheCallers is of P15.1 and P0.4: what is written into the list, up to its capacity, changes no other answer, and no list has memory of another one.
func TestWordsAreTheCallers(t *testing.T) {
	for n := range 70 {
		s := strings.Repeat(" word", n)
		want := wordsByChapter(s)
		first, second := values.Words(s), values.Words(s)
		_ = append(first, "other")
		first = first[:cap(first)]
		for i := range first {
			first[i] = "other"
		}
		// Ahead of any further call, which would write over what is shared.
		if !slices.Equal(second, want) {
			t.Errorf("what is written into one list of %d words changes another one: %q", n, second)
		}
		wantWords(t, s, want...)
		second = second[:cap(second)]
		for i := range second {
			second[i] = ""
		}
		if slices.ContainsFunc(first, func(w string) bool { return w != "other" }) {
			t.Errorf("what is written into a later list of %d words changes an earlier one: %q", n, first)
		}
	}
}

// TestBool is of P15.1: each of the eight words.
func TestBool(t *testing.T) {
	for _, s := range []string{"yes", "true", "on", "1"} {
		wantBool(t, s, true, api.OK)
	}
	for _, s := range []string{"no", "false", "off", "0"} {
		wantBool(t, s, false, api.OK)
	}
}

// booleans are the eight words.
func booleans() []string {
	return []string{"yes", "true", "on", "1", "no", "false", "off", "0"}
}

// TestBoolOfOthers is of P15.1 and P0.2: what is neither true nor false.
func TestBoolOfOthers(t *testing.T) {
	for _, s := range []string{
		"", "2", "y", "yess", "10", "n", "t", "f", "o", "of", "ye", "es", "onn", "nno", "tru", "fals", "01", "00", "11", "001", "-1", "+1", "+0", "-0", "1.0", "0x1", "0x0", "1e0",
		"Yes", "YES", "yEs", "True", "TRUE", "On", "ON", "oN", "No", "NO", "nO", "False", "FALSE", "Off", "OFF",
		"y e s", "yes no", "yes,no", "yesno", "noyes", "truefalse", "~yes", "!yes", "yes:no", "\"yes\"", "'no'", "maybe", "perhaps", "enabled", "disabled", "nil", "null", "none", "kill", "all",
		"\x00", "yes\x00", "\x000", "\xff", "\ufeffyes", "\uff11", "\u0661", "\u00b9", "\uff10", "\u2080", "\u043en", "n\u043e", "ye\u017f", "fal\u017fe", "\u2160", "\u0130", strings.Repeat("yes", 1<<16), strings.Repeat("0", 1<<16), strings.Repeat("1", 1<<16),
	} {
		wantNoBool(t, s)
	}
	for n := range 1000 {
		if n > 1 {
			wantNoBool(t, strconv.Itoa(n))
			wantNoBool(t, strconv.Itoa(-n))
		}
	}
	for _, a := range booleans() {
		for _, b := range booleans() {
			wantNoBool(t, a+b)
			wantNoBool(t, a+" "+b)
		}
	}
}

// TestBoolOfOtherLetters is of P15.1: a word in other letters is none, whichever of them differ.
func TestBoolOfOtherLetters(t *testing.T) {
	for _, word := range booleans() {
		for which := range 1 << len(word) {
			b := []byte(word)
			for at := range b {
				if which>>at&1 != 0 {
					b[at] = byte(unicode.ToUpper(rune(b[at])))
				}
			}
			if string(b) != word {
				wantNoBool(t, string(b))
			}
		}
	}
}

// TestBoolOfWhite is of P15.1: no white space, and nothing else, may stand ahead of a word or behind it.
func TestBoolOfWhite(t *testing.T) {
	for _, word := range booleans() {
		for _, b := range slices.Concat(whites(), foreign(), noText()) {
			wantNoBool(t, b)
			wantNoBool(t, b+word)
			wantNoBool(t, word+b)
			wantNoBool(t, b+word+b)
		}
	}
}

// TestBoolOfNearWords is of P15.1: each word with a byte more, less or another one, at each place.
func TestBoolOfNearWords(t *testing.T) {
	met := map[string]bool{}
	for _, word := range booleans() {
		near(word, func(s string) {
			want, e := boolByChapter(s)
			wantBool(t, s, want, e)
			if e == api.OK {
				met[s] = want
			}
		})
	}
	if len(met) != 8 {
		t.Errorf("%d words are booleans", len(met))
	}
}

// TestBoolOfShortStrings is of P15.1: all short strings of the letters of the eight words.
func TestBoolOfShortStrings(t *testing.T) {
	found := 0
	each("yestrufalon01", 5, func(s string) {
		want, e := boolByChapter(s)
		wantBool(t, s, want, e)
		if e == api.OK {
			found++
		}
	})
	if found != 8 {
		t.Errorf("%d words are booleans", found)
	}
}

// entryNames are names that entries may have: what is known elsewhere is not asked here.
func entryNames() []string {
	return []string{"a", "read", "clock_settime", "@basic-io", "@", "~", "~read", "~~", "kill", "5", "EPERM", "nothing", "READ", "a=b", "a,b", "#", "\\", "-", "\x00", "\n", "\u00a0", "\u4e16", "\xff", "\xe3\x80", strings.Repeat("a", 100), strings.Repeat("a", 1<<16)}
}

// TestReadNames is of P15.2: a word without a colon is the name.
func TestReadNames(t *testing.T) {
	for _, name := range entryNames() {
		wantRead(t, name, entry(name))
	}
	for c := range 256 {
		b := string([]byte{byte(c)})
		if c == ':' {
			wantRefused(t, b, api.ErrEmpty)
			continue
		}
		wantRead(t, b, entry(b))
		wantRead(t, "a"+b+"a", entry("a"+b+"a"))
	}
}

// TestReadKill is of P15.2: the suffix kill, and what is near it.
func TestReadKill(t *testing.T) {
	for _, name := range entryNames() {
		wantRead(t, name+":kill", suffixed(name, 0x80000000))
		for _, suffix := range []string{
			"Kill", "KILL", "kilL", "kill ", " kill", "kill\t", "\rkill", "kill\n", "kill\x00", "kil", "ill", "killl", "kkill", "k", "kill:", ":kill", "kill:kill", "kill:5", "5:kill", "kill,5", "~kill", "@kill",
			"KillProcess", "killprocess", "kill-process", "KILL_PROCESS", "kill_process", "trap", "log", "allow", "errno", "none", "\uff4bill", "\u212aill",
		} {
			wantRefused(t, name+":"+suffix, api.ErrErrno)
		}
	}
}

// TestReadErrnoNames is of P15.2: each errno by its name, by hand, and what is near it.
func TestReadErrnoNames(t *testing.T) {
	for errno, n := range map[string]uint32{
		"EPERM": 1, "ENOENT": 2, "EIO": 5, "EBADF": 9, "EAGAIN": 11, "ENOMEM": 12, "EACCES": 13, "EFAULT": 14,
		"EBUSY": 16, "ENODEV": 19, "EINVAL": 22, "ENOSYS": 38, "EOPNOTSUPP": 95, "EAFNOSUPPORT": 97, "ETIMEDOUT": 110,
	} {
		for _, name := range entryNames() {
			wantRead(t, name+":"+errno, suffixed(name, 0x50000+n))
		}
		for _, suffix := range []string{strings.ToLower(errno), errno[:2] + strings.ToLower(errno[2:]), errno[1:], errno[:len(errno)-1], errno + " ", " " + errno, errno + "\x00", errno + ":", ":" + errno, errno + ":5", "~" + errno, errno + errno, "-" + errno} {
			wantRefused(t, "read:"+suffix, api.ErrErrno)
			wantRefused(t, ":"+suffix, api.ErrEmpty)
		}
	}
	for _, suffix := range []string{"ESRCH", "EWOULDBLOCK", "ENOTSUP", "E", "ERRNO", "AF_UNIX", "net", "yes", "no", "on"} {
		wantRefused(t, "read:"+suffix, api.ErrErrno)
	}
}

// TestReadErrnoNumbers is of P15.2: all numbers up to 9999, with as many zeros ahead as there may be, and one or more too many.
func TestReadErrnoNumbers(t *testing.T) {
	for n := range uint32(10000) {
		for width := 1; width <= 6; width++ {
			digits := fmt.Sprintf("%0*d", width, n)
			if len(digits) <= 4 && n <= 4095 {
				wantRead(t, "read:"+digits, suffixed("read", 0x50000+n))
			} else {
				wantRefused(t, "read:"+digits, api.ErrErrno)
			}
		}
	}
}

// TestReadErrnoNumbersByHand is of P15.2: the edges of what digits may write.
func TestReadErrnoNumbersByHand(t *testing.T) {
	for digits, n := range map[string]uint32{"0": 0, "00": 0, "0000": 0, "1": 1, "01": 1, "0001": 1, "5": 5, "38": 38, "39": 39, "0777": 777, "4094": 4094, "4095": 4095} {
		wantRead(t, "a:"+digits, suffixed("a", 0x50000|n))
	}
	for _, digits := range []string{
		"4096", "4097", "9999", "00000", "00001", "04095", "65535", "65536", "65537", "4294967296", "4294967297", "18446744073709551616", "18446744073709551617",
		"+1", "-1", "+0", "-0", "1_0", "1.0", "1e1", "0x1", "0b1", "0o7", " 1", "1 ", "1\x00", "1a", "a1", "5:6", "5:", "\u0661", "\uff11", "\u00b9", strings.Repeat("0", 1<<16),
	} {
		wantRefused(t, "a:"+digits, api.ErrErrno)
	}
}

// TestReadErrors is of P15.2 and P0.2: empty names and suffixes, several colons; ErrEmpty comes ahead of ErrErrno.
func TestReadErrors(t *testing.T) {
	for _, word := range []string{"", ":", "::", ":::", ":kill", ":5", ":EPERM", ":x", ":4096", ": ", ":Kill", ":kill:kill", "::kill", ":5:6", ":a:kill", "::5", ":\x00", ":~", ":read", strings.Repeat(":", 1<<16)} {
		wantRefused(t, word, api.ErrEmpty)
	}
	for _, word := range []string{"read:", "read::", "a:x", "a::kill", "a:kill:", "a:kill:kill", "a:5:", "a::5", "a:5:6", "a:EPERM:EIO", "a:b:c", "a:b:kill", "a:b:5", " :", "~:", "@:", "\x00:", "a: ", "a:\t", "a:~kill", "a:@file", "a:read", "a" + strings.Repeat(":", 1<<16)} {
		wantRefused(t, word, api.ErrErrno)
	}
}

// TestReadWhite is of P15.2: white space, which no word has, is a byte like others in a name, and no part of a suffix.
func TestReadWhite(t *testing.T) {
	for _, white := range whites() {
		wantRead(t, white, entry(white))
		wantRead(t, white+"read", entry(white+"read"))
		wantRead(t, "read"+white, entry("read"+white))
		wantRead(t, white+":kill", suffixed(white, api.KillProcess))
		wantRead(t, "a"+white+"b:5", suffixed("a"+white+"b", api.Fail|5))
		wantRefused(t, ":"+white, api.ErrEmpty)
		for _, suffix := range []string{"", "kill", "5", "EPERM"} {
			wantRefused(t, "read:"+white+suffix, api.ErrErrno)
			wantRefused(t, "read:"+suffix+white, api.ErrErrno)
		}
	}
}

// TestReadNearWords is of P15.2: words with a byte more, less or another one, at each place.
func TestReadNearWords(t *testing.T) {
	met := map[api.Errno]int{}
	for _, word := range []string{"a", ":", "a:", "a:kill", "ab:kill", "a:EIO", "a:EPERM", "a:EAFNOSUPPORT", "a:0", "a:5", "a:4095", "a:0001", "a:5:6", ":kill", "@a:ENOSYS", "~a:kill"} {
		near(word, func(s string) { met[wantReadAsChapter(t, s)]++ })
	}
	if len(met) != 3 || met[api.OK] < 1000 || met[api.ErrEmpty] < 1000 || met[api.ErrErrno] < 1000 {
		t.Errorf("errors by their number: %v", met)
	}
}

// TestReadShortWords is of P15.2: all short words of the bytes that count.
func TestReadShortWords(t *testing.T) {
	met := map[api.Errno]int{}
	each(":akil05EO ", 5, func(s string) { met[wantReadAsChapter(t, s)]++ })
	each(":kilo", 8, func(s string) { met[wantReadAsChapter(t, s)]++ })
	if len(met) != 3 {
		t.Errorf("errors by their number: %v", met)
	}
}

// TestReadMadeWords is of P15.2: made words, against the chapter's.
func TestReadMadeWords(t *testing.T) {
	met := map[api.Errno]int{}
	r := rand.New(rand.NewSource(15))
	for range 50000 {
		s := made(r, 4, ":", ":", ":", "a", "read", "@file", "~", "kill", "kill", "EPERM", "ENOSYS", "EIO", "5", "0", "40", "95", "4095", "x", " ", "\xff", "\u4e16")
		met[wantReadAsChapter(t, s)]++
	}
	if len(met) != 3 || met[api.OK] < 1000 || met[api.ErrEmpty] < 1000 || met[api.ErrErrno] < 1000 {
		t.Errorf("errors by their number: %v", met)
	}
}

// TestTurned is of P15.3: what begins with a tilde and what does not.
func TestTurned(t *testing.T) {
	for s, rest := range map[string]string{
		"~": "", "~a": "a", "~~": "~", "~~a": "~a", "~~~": "~~", "~a b": "a b", "~ a": " a", "~\ta ": "\ta ", "~ ": " ", "~a~": "a~", "~a ~b": "a ~b", "~:kill": ":kill", "~@file": "@file", "~\x00": "\x00", "~\xff": "\xff", "~\x80": "\x80", "~\u0303": "\u0303", "~\n": "\n",
	} {
		wantTurned(t, s, rest, true)
	}
	for _, s := range []string{"", "a", "a~", " ~a", " ~", "\t~a", "\r~", "\n~a", "\x00~", "a b", " ", "!a", "-a", "^a", "`a", "\\~a", "\"~a\"", "\u02dca", "\u223ca", "\uff5ea", "\u0303~", "\ufeff~a", "\xff~", "\xfe", "@file", ":~", "a ~b", strings.Repeat("a~", 1<<16)} {
		wantTurned(t, s, s, false)
	}
}

// TestTurnedOfEachByte is of P15.3: each byte as the first one, alone, and ahead of others.
func TestTurnedOfEachByte(t *testing.T) {
	for c := range 256 {
		b := string([]byte{byte(c)})
		for _, rest := range []string{"", "a", "~", "~a", " a b ", b, b + b, "\xff", strings.Repeat("x", 1<<12)} {
			if c == 126 {
				wantTurned(t, b+rest, rest, true)
			} else {
				wantTurned(t, b+rest, b+rest, false)
			}
		}
	}
}

// TestTextWithoutSuffix is of P15.3: without a suffix the text is the name, whatever the action is.
func TestTextWithoutSuffix(t *testing.T) {
	for _, name := range append(entryNames(), "", ":", "a:5", ":kill", " a b ") {
		for _, action := range []uint32{0, 1, api.KillProcess, api.KillThread, api.Trap, api.Fail, api.Fail | 1, api.Fail | 39, api.Fail | 4096, api.Notify, api.Trace, api.Log, api.Allow, 0xffffffff} {
			wantText(t, values.Entry{Name: name, Action: action}, name)
		}
	}
}

// TestTextOfKill is of P15.3: KillProcess alone is written kill.
func TestTextOfKill(t *testing.T) {
	for _, name := range append(entryNames(), "", ":", "a:5") {
		wantText(t, suffixed(name, api.KillProcess), name+":kill")
	}
	for i := range 32 {
		if i != 31 {
			wantText(t, suffixed("a", api.KillProcess^1<<i), "a:")
		}
	}
	for low := range uint32(1 << 16) {
		if low != 0 {
			wantText(t, suffixed("a", api.KillProcess|low), "a:")
		}
	}
}

// TestTextOfErrnos is of P15.3: Fail with each number that has a name, by hand, and with numbers that have none.
func TestTextOfErrnos(t *testing.T) {
	for n, errno := range map[uint32]string{
		1: "EPERM", 2: "ENOENT", 5: "EIO", 9: "EBADF", 11: "EAGAIN", 12: "ENOMEM", 13: "EACCES", 14: "EFAULT",
		16: "EBUSY", 19: "ENODEV", 22: "EINVAL", 38: "ENOSYS", 95: "EOPNOTSUPP", 97: "EAFNOSUPPORT", 110: "ETIMEDOUT",
		0: "0", 3: "3", 4: "4", 6: "6", 10: "10", 39: "39", 100: "100", 999: "999", 1000: "1000", 4094: "4094", 4095: "4095",
		4096: "", 4097: "", 5000: "", 0x1005: "", 0x2026: "", 0x7fff: "", 0x8000: "", 0x8001: "", 0xfffe: "", 0xffff: "",
	} {
		wantText(t, suffixed("read", api.Fail|n), "read:"+errno)
		wantText(t, suffixed("", api.Fail|n), ":"+errno)
	}
}

// TestTextOfEachLowerHalf is of P15.3: Fail with each lower half: the name of the errno, its digits, or nothing.
func TestTextOfEachLowerHalf(t *testing.T) {
	named, digits, nothing := 0, 0, 0
	for low := range uint32(1 << 16) {
		e := suffixed("a", api.Fail|low)
		want := textByChapter(e)
		wantText(t, e, want)
		switch {
		case want == "a:":
			nothing++
		case want == fmt.Sprintf("a:%d", low):
			digits++
		default:
			named++
		}
	}
	if named != 15 || digits != 4096-15 || nothing != 1<<16-4096 {
		t.Errorf("%d names, %d numbers, %d of neither", named, digits, nothing)
	}
}

// TestTextOfEachUpperHalf is of P15.3: of all upper halves Fail's alone is followed by an errno, and KillProcess alone by kill.
func TestTextOfEachUpperHalf(t *testing.T) {
	for high := range uint32(1 << 16) {
		for _, low := range []uint32{0, 1, 5, 38, 39, 4095, 4096, 0xffff} {
			e := suffixed("a", high<<16|low)
			want := "a:"
			switch {
			case high == 0x8000 && low == 0:
				want = "a:kill"
			case high == 5 && low <= 4095:
				want = "a:" + names.ErrnoName(low)
			}
			wantText(t, e, want)
			wantText(t, values.Entry{Name: "a", Action: e.Action}, "a")
		}
	}
}

// TestTextOfOtherActions is of P15.3: actions that no suffix means, known and unknown ones.
func TestTextOfOtherActions(t *testing.T) {
	for _, action := range []uint32{api.Allow, api.Log, api.Trap, api.Trace, api.KillThread, api.Notify} {
		for _, data := range []uint32{0, 1, 5, 4095, 4096, 0xffff} {
			wantText(t, suffixed("read", action|data), "read:")
		}
	}
	for _, action := range []uint32{1, 5, 38, 0x10000, 0x20000, 0x40000, 0x50000 << 1, 0x60000, 0x70000, 0x150000, 0x1050001, 0x80050000, 0x80050001, 0x7fffffff, 0x80000001, 0x80010000, 0xc0000000, 0xffffffff} {
		wantText(t, suffixed("read", action), "read:")
	}
}

// TestTextOfMadeEntries is of P15.3: made entries, against the chapter's words.
func TestTextOfMadeEntries(t *testing.T) {
	r := rand.New(rand.NewSource(15))
	for range 50000 {
		e := values.Entry{Name: made(r, 3, "a", "read", ":", "kill", "5", "~", " ", "\xff"), Action: r.Uint32(), Has: r.Intn(4) > 0}
		switch r.Intn(3) {
		case 0:
			e.Action = api.Fail | e.Action>>16
		case 1:
			e.Action = api.Fail | e.Action>>20
		}
		wantText(t, e, textByChapter(e))
	}
}

// wantBack holds that an entry that is read from a word, if it is one, has a text that is read as that entry; it tells whether it is.
func wantBack(t *testing.T, word string) bool {
	t.Helper()
	e, err := values.Read(word)
	if err != api.OK {
		return false
	}
	text := values.Text(e)
	if again, err := values.Read(text); again != e || err != api.OK {
		t.Fatalf("Read of %q: %q %#x %t; its text %q is read as %q %#x %t, %d", short(word), short(e.Name), e.Action, e.Has, short(text), short(again.Name), again.Action, again.Has, int(err))
	}
	if !e.Has && text != word {
		t.Fatalf("%q has no suffix, but the text %q", short(word), short(text))
	}
	if got := values.Words(text); len(values.Words(word)) == 1 && values.Words(word)[0] == word && !slices.Equal(got, []string{text}) {
		t.Fatalf("the text %q of a word is none", short(text))
	}
	return true
}

// TestRoundTrip is of P15.4: entries that were read have texts that are read as those entries.
func TestRoundTrip(t *testing.T) {
	found := 0
	count := func(word string) {
		if wantBack(t, word) {
			found++
		}
	}
	for _, name := range entryNames() {
		count(name)
		count(name + ":kill")
		for n := range uint32(4096) {
			if n%61 == 0 || n < 200 || n > 4000 || len(name) < 2 {
				count(fmt.Sprintf("%s:%d", name, n))
				count(fmt.Sprintf("%s:%04d", name, n))
				count(name + ":" + names.ErrnoName(n))
			}
		}
	}
	if found < 10000 {
		t.Errorf("%d entries", found)
	}
	each(":akil05EO ", 5, count)
	r := rand.New(rand.NewSource(154))
	for range 50000 {
		count(made(r, 4, ":", ":", "a", "read", "@file", "~", "kill", "kill", "EPERM", "ENOSYS", "EIO", "5", "0", "40", "95", "4095", "\xff", "\u4e16"))
	}
}

// TestRoundTripByHand is of P15.4: the texts of some entries that were read.
func TestRoundTripByHand(t *testing.T) {
	for word, want := range map[string]string{
		"read": "read", "read:kill": "read:kill", "read:EPERM": "read:EPERM", "read:1": "read:EPERM", "read:0001": "read:EPERM", "read:0": "read:0", "read:000": "read:0", "read:38": "read:ENOSYS", "read:039": "read:39", "read:4095": "read:4095", "@file:EIO": "@file:EIO", "kill:kill": "kill:kill", "5:5": "5:EIO",
	} {
		e, err := values.Read(word)
		if err != api.OK {
			t.Errorf("Read of %q: %d", word, int(err))
		}
		wantText(t, e, want)
		wantBack(t, word)
	}
}

// wantSameWords holds that words are not empty, contain no white space, and are the same ones again if they are joined with white space; it tells how many there are.
func wantSameWords(t *testing.T, s string) int {
	t.Helper()
	l := values.Words(s)
	for _, word := range l {
		if word == "" || strings.ContainsAny(word, " \t\r") {
			t.Fatalf("%q is among the words of %q", short(word), short(s))
		}
	}
	for _, white := range whites()[:15] {
		wantWords(t, strings.Join(l, white), l...)
		wantWords(t, white+strings.Join(l, white)+white, l...)
	}
	return len(l)
}

// TestWordsJoined is of P15.5: words joined by each kind of white space, and by several.
func TestWordsJoined(t *testing.T) {
	found := 0
	for _, s := range slices.Concat([]string{"", "a", "read write close", " a\tb\rc  d\t\te\r\rf "}, whites(), foreign(), noText(), entryNames()) {
		found += wantSameWords(t, s)
	}
	wantSameWords(t, strings.Join(entryNames(), " "))
	each(" \t\ra\n\xff", 4, func(s string) { found += wantSameWords(t, s) })
	pieces := slices.Concat(whites()[:15], foreign(), noText(), []string{"a", "read", "~", ":", "@file", "\u4e16"})
	r := rand.New(rand.NewSource(155))
	for range 2000 {
		found += wantSameWords(t, made(r, 30, pieces...))
	}
	if found < 5000 {
		t.Errorf("%d words", found)
	}
}

// TestWordsAreWordsOfThemselves is of P15.5: each word by itself is its only word.
func TestWordsAreWordsOfThemselves(t *testing.T) {
	r := rand.New(rand.NewSource(1))
	pieces := slices.Concat(whites()[:15], foreign(), noText(), []string{"a", "read", "~", ":"})
	for range 2000 {
		for _, word := range values.Words(made(r, 30, pieces...)) {
			wantWords(t, word, word)
		}
	}
}

// TestValueOfAList is of P15.1 to P15.3: the calls together, as a value of the document's examples is read.
func TestValueOfAList(t *testing.T) {
	rest, turned := values.Turned("~@clock:EPERM\tptrace  kill:kill ")
	if !turned {
		t.Error(rest)
	}
	want := []values.Entry{suffixed("@clock", api.Fail|1), entry("ptrace"), suffixed("kill", api.KillProcess)}
	var got []values.Entry
	for _, word := range values.Words(rest) {
		e, err := values.Read(word)
		if err != api.OK {
			t.Error(word, int(err))
		}
		got = append(got, e)
	}
	if !slices.Equal(got, want) {
		t.Errorf("%v; want %v", got, want)
	}
}

// passed are strings for all the calls.
func passed() []string {
	return slices.Concat([]string{"", "a b", "~a b", "yes", "no", "maybe", "read:kill", "read:5", ":5", "a:x", "read"}, booleans(), whites(), foreign(), noText(), entryNames())
}

// TestPassedStays is of P0.3 and P0.4: what is passed stays as it is, around it too, and nothing that was asked changes a later answer.
func TestPassedStays(t *testing.T) {
	for range 2 {
		for _, s := range passed() {
			whole := " " + s + "1"
			before := strings.Clone(whole)
			piece := whole[1 : 1+len(s)]
			wantWords(t, piece, wordsByChapter(s)...)
			want, e := boolByChapter(s)
			wantBool(t, piece, want, e)
			wantReadAsChapter(t, piece)
			if strings.HasPrefix(s, "~") {
				wantTurned(t, piece, s[1:], true)
			} else {
				wantTurned(t, piece, s, false)
			}
			wantText(t, suffixed(piece, api.Fail|5), s+":EIO")
			if whole != before || piece != s {
				t.Errorf("%q is %q after it was passed", short(before), short(whole))
			}
		}
	}
}

// TestZeroValues is of P0.1: the empty string and the zero entry.
func TestZeroValues(t *testing.T) {
	wantWords(t, "")
	wantNoBool(t, "")
	wantRefused(t, "", api.ErrEmpty)
	wantTurned(t, "", "", false)
	wantText(t, values.Entry{}, "")
	wantText(t, values.Entry{Has: true}, ":")
	wantText(t, values.Entry{Action: math.MaxUint32, Has: true}, ":")
}
