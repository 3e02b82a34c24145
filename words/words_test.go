package words_test

import (
	"slices"
	"strings"
	"testing"

	"farrier/api"
	"farrier/words"
)

// bytesOf are the bytes that the chapter's formulas give a number, whether or
// not it is a character's.
func bytesOf(n int) string {
	switch {
	case n < 128:
		return string([]byte{byte(n)})
	case n < 2048:
		return string([]byte{byte(192 + n/64), byte(128 + n%64)})
	case n < 65536:
		return string([]byte{byte(224 + n/4096), byte(128 + n/64%64), byte(128 + n%64)})
	}
	return string([]byte{byte(240 + n/262144), byte(128 + n/4096%64), byte(128 + n/64%64), byte(128 + n%64)})
}

func isCharacter(n int) bool {
	return n >= 0 && n <= 55295 || n >= 57344 && n <= 1114111
}

func isPlain(n int) bool {
	return n >= 32 && n != 127 && !(n >= 128 && n <= 159) && n != '\\'
}

// characterAt is the number of the character that stands at the beginning of s
// and how many bytes it has; -1 and 0 if none does.
func characterAt(s string) (int, int) {
	for size := 1; size <= 4 && size <= len(s); size++ {
		n := int(s[0])
		if size > 1 {
			n -= []int{192, 224, 240}[size-2]
		}
		for _, c := range []byte(s[1:size]) {
			n = n*64 + int(c) - 128
		}
		if isCharacter(n) && bytesOf(n) == s[:size] {
			return n, size
		}
	}
	return -1, 0
}

func refText(s string) bool {
	for s != "" {
		n, size := characterAt(s)
		if n < 0 {
			return false
		}
		s = s[size:]
	}
	return true
}

func refName(s string) bool {
	if s == "" || len(s) > 24 || s == "." || s == ".." {
		return false
	}
	for s != "" {
		n, size := characterAt(s)
		if n < 0 || !isPlain(n) || n == '/' {
			return false
		}
		s = s[size:]
	}
	return true
}

func refEscape(s string) string {
	const digits = "0123456789abcdef"
	var out strings.Builder
	for s != "" {
		n, size := characterAt(s)
		if n >= 0 && isPlain(n) {
			out.WriteString(s[:size])
			s = s[size:]
			continue
		}
		switch s[0] {
		case '\\':
			out.WriteString(`\\`)
		case 10:
			out.WriteString(`\n`)
		default:
			out.WriteString(`\x`)
			out.WriteByte(digits[s[0]/16])
			out.WriteByte(digits[s[0]%16])
		}
		s = s[1:]
	}
	return out.String()
}

// forStrings calls f with all strings of at most so many letters.
func forStrings(letters []string, most int, f func(string)) {
	var grow func(string, int)
	grow = func(s string, left int) {
		f(s)
		if left == 0 {
			return
		}
		for _, l := range letters {
			grow(s+l, left-1)
		}
	}
	grow("", most)
}

// edgeBytes are bytes at which the encoding or the kinds of characters change.
func edgeBytes() []string {
	var l []string
	for _, b := range []byte("\x00\n\x1f ./\\nx0Aaf\x7f\x80\x85\x8f\x90\x9f\xa0\xbd\xbf\xc0\xc1\xc2\xdf\xe0\xed\xef\xf0\xf4\xf5\xff") {
		l = append(l, string([]byte{b}))
	}
	return l
}

// P1.1: every character's bytes are a text, and no other number's are.
func TestTextOfEveryNumber(t *testing.T) {
	for n := range 1<<21 - 1 {
		s := bytesOf(n)
		if words.Text(s) != isCharacter(n) {
			t.Fatalf("number %d: %q", n, s)
		}
	}
	for _, n := range []int{0, 31, 32, 127, 128, 159, 160, 2047, 2048, 55295, 57344, 65533, 65535, 65536, 1114111} {
		if !words.Text("a" + bytesOf(n) + bytesOf(n) + "é") {
			t.Errorf("number %d within a text", n)
		}
	}
	for _, n := range []int{55296, 57343, 1114112} {
		if words.Text("a" + bytesOf(n) + "b") {
			t.Errorf("number %d within bytes", n)
		}
	}
}

// P1.1: bytes at which no character stands, wherever they are.
func TestTextOfWrongBytes(t *testing.T) {
	for _, s := range []string{
		"\x80", "\xbf", "\xc0", "\xc1", "\xf5", "\xf8", "\xfc", "\xfe", "\xff",
		"\xc2", "\xdf", "\xe0\xa0", "\xe2\x82", "\xef\xbf", "\xf0\x9f\x98", "\xf4\x8f\xbf",
		"\xc0\x80", "\xc1\xbf", "\xe0\x80\x80", "\xe0\x9f\xbf", "\xf0\x80\x80\x80", "\xf0\x8f\xbf\xbf",
		"\xed\xa0\x80", "\xed\xbf\xbf", "\xf4\x90\x80\x80", "\xf8\x88\x80\x80\x80",
		"\xc3\xa9\xa9", "\xc3\xc3\xa9", "\xef\xbf\xbd\xbd", "\xef\xbf\xef\xbf\xbd",
	} {
		for _, around := range []string{"", "a", "é", "\uFFFD"} {
			if words.Text(around + s + around) {
				t.Errorf("%q", around+s+around)
			}
		}
	}
	for _, s := range []string{"", "a", "\x00", "\uFFFD", "\uFFFD\uFFFD", "aé\u20ac😀", "\n\\"} {
		if !words.Text(s) {
			t.Errorf("%q", s)
		}
	}
}

// P1.1, P1.3: all short strings of the bytes at the edges.
func TestShortStrings(t *testing.T) {
	check := func(s string) {
		if words.Text(s) != refText(s) {
			t.Fatalf("Text of %q", s)
		}
		if words.Name(s) != refName(s) {
			t.Fatalf("Name of %q", s)
		}
		if u := words.Escape(s); u != refEscape(s) {
			t.Fatalf("Escape of %q: %s", s, u)
		}
	}
	forStrings(edgeBytes(), 4, check)
	for i := range 65536 {
		check(string([]byte{byte(i >> 8), byte(i)}))
	}
}

// P1.1: a name has 1 to 24 bytes, not characters.
func TestNameLengths(t *testing.T) {
	for n := range 60 {
		want := n >= 1 && n <= 24
		if words.Name(strings.Repeat("a", n)) != want {
			t.Errorf("%d bytes", n)
		}
		if n >= 2 && words.Name("é"+strings.Repeat("a", n-2)) != want {
			t.Errorf("%d bytes with é", n)
		}
		if n >= 4 && words.Name(strings.Repeat("a", n-4)+"😀") != want {
			t.Errorf("%d bytes with 😀", n)
		}
	}
	for s, want := range map[string]bool{
		strings.Repeat("é", 12): true, strings.Repeat("é", 13): false,
		strings.Repeat("\u20ac", 8): true, strings.Repeat("\u20ac", 9): false,
		strings.Repeat("😀", 6): true, strings.Repeat("😀", 7): false,
	} {
		if words.Name(s) != want {
			t.Errorf("%q", s)
		}
	}
}

// P1.1: a name is not a dot or two, and has plain characters without '/'.
func TestNameCharacters(t *testing.T) {
	for n := range 1<<21 - 1 {
		want := isCharacter(n) && isPlain(n) && n != '/'
		s := bytesOf(n)
		if words.Name(s) != (want && n != '.') {
			t.Fatalf("number %d", n)
		}
		if n < 70000 || n > 1114000 {
			if words.Name("a"+s+"b") != want || words.Name("."+s+".") != want {
				t.Fatalf("number %d within a name", n)
			}
		}
	}
	for s, want := range map[string]bool{
		"": false, ".": false, "..": false, "...": true, ".a": true, "a.": true, " ": true, "  .": true,
		"a b": true, "/": false, "a/": false, "/a": false, "a/b": false, `\`: false, `a\`: false, "a\n": false,
		"\xff": false, "a\xff": false, "\xc3": false, "\xe2\x82": false, "\uFFFD": true, "~": true,
	} {
		if words.Name(s) != want {
			t.Errorf("%q", s)
		}
	}
}

// P1.2: 0 to 9 names, as a path and as a list.
func TestPathCounts(t *testing.T) {
	for n := range 12 {
		var l []string
		path := ""
		for i := range n {
			l = append(l, string(rune('a'+i)))
			path += "/" + l[i]
		}
		if n == 0 {
			path = "/"
		}
		names, e := words.Path(path)
		joined, f := words.Join(l)
		if n <= 8 && (!slices.Equal(names, l) || e != api.OK || joined != path || f != api.OK) {
			t.Errorf("%d names: %q, %v; %q, %v", n, names, e, joined, f)
		}
		if n > 8 && (len(names) != 0 || e != api.ErrWordsName || joined != "" || f != api.ErrWordsName) {
			t.Errorf("%d names: %q, %v; %q, %v", n, names, e, joined, f)
		}
	}
	if _, e := words.Path(strings.Repeat("/a", 100000)); e != api.ErrWordsName {
		t.Error(e)
	}
	if _, e := words.Join(make([]string, 9)); e != api.ErrWordsName {
		t.Error(e)
	}
	if s, e := words.Join([]string{}); s != "/" || e != api.OK {
		t.Errorf("%q, %v", s, e)
	}
}

// P1.2: what is a path's name, and a list's, is a name.
func TestPathNames(t *testing.T) {
	long, longer := strings.Repeat("b", 24), strings.Repeat("b", 25)
	for s, want := range map[string][]string{
		"/": {}, "/a": {"a"}, "/a/b": {"a", "b"}, "/...": {"..."}, "/ / ": {" ", " "}, "/é/😀/\uFFFD": {"é", "😀", "\uFFFD"},
		"/" + long + "/" + long: {long, long}, "/a/a": {"a", "a"},
	} {
		if l, e := words.Path(s); !slices.Equal(l, want) || e != api.OK {
			t.Errorf("%q: %q, %v", s, l, e)
		}
	}
	for _, s := range []string{
		"", "a", "a/b", "a/", " /a", "//", "///", "/a/", "/a//", "//a", "/a//b", "/.", "/..", "/a/.", "/../a", "/a/./b",
		"/" + longer, "/a/" + longer, "/" + longer + "/a", `/\`, `\a`, "/a\n", "\n", "/\xff", "/a/\xc3", "\xff",
		"/a/a/a/a/a/a/a/a/", "/a/a/a/a/a/a/a/..", "/a/a/a/a/a/a/a//",
	} {
		if l, e := words.Path(s); len(l) != 0 || e != api.ErrWordsName {
			t.Errorf("%q: %q, %v", s, l, e)
		}
	}
	for _, name := range []string{"", ".", "..", "/", "a/b", "/a", longer, `\`, "\n", "\xff"} {
		for _, l := range [][]string{{name}, {name, "a"}, {"a", name}, {"a", name, "b"}, {"a", "a", "a", "a", "a", "a", "a", name}} {
			if s, e := words.Join(l); s != "" || e != api.ErrWordsName {
				t.Errorf("%q: %q, %v", l, s, e)
			}
		}
	}
}

// P1.2, P1.5: Path and Join for all short strings and lists.
func TestPathOfShortStrings(t *testing.T) {
	forStrings([]string{"/", ".", "a", `\`, "\n", "é", "\xff"}, 6, func(s string) {
		names := strings.Split(strings.TrimPrefix(s, "/"), "/")
		right := strings.HasPrefix(s, "/")
		if s == "/" {
			names = nil
		}
		for _, n := range names {
			right = right && refName(n)
		}
		l, e := words.Path(s)
		if right && (!slices.Equal(l, names) || e != api.OK) || !right && (len(l) != 0 || e != api.ErrWordsName) {
			t.Fatalf("%q: %q, %v", s, l, e)
		}
		if u, f := words.Join(l); right && (u != s || f != api.OK) {
			t.Fatalf("%q: Join of %q: %q, %v", s, l, u, f)
		}
	})
	forStrings([]string{"a", "/", "é.", "/..", "/b"}, 4, func(s string) {
		l := strings.Split(s, "/")
		u, e := words.Join(l)
		if e != api.OK {
			return
		}
		if back, f := words.Path(u); !slices.Equal(back, l) || f != api.OK {
			t.Fatalf("%q: Path of %q: %q, %v", l, u, back, f)
		}
	})
}

// R4: lists are neither changed nor kept, with what is behind their end.
func TestListsAreApart(t *testing.T) {
	l := []string{"a", "b", "c", "d"}
	if s, e := words.Join(l[:2]); s != "/a/b" || e != api.OK {
		t.Errorf("%q, %v", s, e)
	}
	if _, e := words.Join([]string{"a", ".."}[:2]); e != api.ErrWordsName {
		t.Error(e)
	}
	if !slices.Equal(l, []string{"a", "b", "c", "d"}) {
		t.Errorf("%q", l)
	}
	one, _ := words.Path("/a/b")
	one[0] = "x"
	_ = append(one, "y")
	two, _ := words.Path("/a/b")
	two = append(two, "z")
	if !slices.Equal(one, []string{"x", "b"}) || !slices.Equal(two, []string{"a", "b", "z"}) {
		t.Errorf("%q, %q", one, two)
	}
}

// P1.3: what each kind of character and byte is written as.
func TestEscape(t *testing.T) {
	for s, want := range map[string]string{
		"": "", "a b/c": "a b/c", `\`: `\\`, `\n`: `\\n`, `\\`: `\\\\`, "\n": `\n`, "\r": `\x0d`, "\t": `\x09`, "\x00": `\x00`,
		"\x1f": `\x1f`, " ": " ", "~": "~", "\x7f": `\x7f`, "\u0080": `\xc2\x80`, "\u009f": `\xc2\x9f`, "\u00a0": "\u00a0",
		"é\u20ac😀": "é\u20ac😀", "\uFFFD": "\uFFFD", "\U0010FFFF": "\U0010FFFF", "\ud7ff\ue000": "\ud7ff\ue000",
		"\xff": `\xff`, "\x80": `\x80`, "\xc3": `\xc3`, "\xc3a": `\xc3a`, "\xc3\xc3\xa9": `\xc3é`, "\xe2\x82": `\xe2\x82`,
		"\xf0\x9f\x98a": `\xf0\x9f\x98a`, "\xef\xbf": `\xef\xbf`, "\xef\xbf\xef\xbf\xbd": "\\xef\\xbf\uFFFD", "\xed\xa0\x80": `\xed\xa0\x80`,
		"\xc0\xaf": `\xc0\xaf`, "\xf4\x90\x80\x80": `\xf4\x90\x80\x80`, "a\\\n\xffé": `a\\\n\xffé`,
	} {
		if u := words.Escape(s); u != want {
			t.Errorf("%q: %s, not %s", s, u, want)
		}
	}
	for n := range 1<<21 - 1 {
		s := bytesOf(n)
		if u := words.Escape(s); u != refEscape(s) {
			t.Fatalf("number %d: %s", n, u)
		}
	}
}

// P1.4: what Escape writes is read, and nothing else.
func TestUnescape(t *testing.T) {
	for s, want := range map[string]string{
		"": "", "a b": "a b", `\\`: `\`, `\\n`: `\n`, `\n`: "\n", `\nn`: "\nn", `\x00`: "\x00", `\x0d`: "\r", `\xc3`: "\xc3", `\xc3a`: "\xc3a",
		`\xff\\\n`: "\xff\\\n", "é😀\uFFFD": "é😀\uFFFD", `\xc2\x85`: "\u0085", `\xc3é`: "\xc3\xc3\xa9", `\\x41`: `\x41`, `\x7f`: "\x7f",
	} {
		if v, e := words.Unescape(s); v != want || e != api.OK {
			t.Errorf("%q: %q, %v", s, v, e)
		}
	}
	for _, s := range []string{
		`\`, `a\`, `\\\`, `\x`, `\x4`, `\xf`, `\xfg`, `\xg0`, `\x41`, `\x20`, `\x2f`, `\x7e`, `\x5c`, `\x0a`, `\x0A`, `\xFF`, `\xfF`, `\xFf`, `\X00`, `\N`,
		`\q`, `\ `, `\é`, `\0`, `\x0`, `\x 0`, `\x-1`, `\x0:`, "\\x0`", `\x/0`, `\x@0`,
		"\n", "a\n", "\x00", "\x7f", "\u0085", "\xff", "\x80", "\xc3", `\xc3\xa9`, "\\xc3\xa9", `\xef\xbf\xbd`, "\\\n", "\\\xff",
	} {
		if v, e := words.Unescape(s); v != "" || e != api.ErrWordsText {
			t.Errorf("%q: %q, %v", s, v, e)
		}
	}
}

// P1.4, P1.5: of all short strings, just those that are an Escape are read.
func TestUnescapeOfShortStrings(t *testing.T) {
	const most = 4
	letters := []string{`\`, "n", "x", "0", "4", "a", "c", "f", "A", "F", "g", "\n", "\xff", "\xc3", "\xa9", "/"}
	sources := map[string]string{}
	note := func(b string) { sources[refEscape(b)] = b }
	forStrings(letters, most, note)
	for i := range 256 {
		note(string([]byte{byte(i)}))
	}
	forStrings(letters, most, func(s string) {
		b, right := sources[s]
		v, e := words.Unescape(s)
		if right && (v != b || e != api.OK) || !right && (v != "" || e != api.ErrWordsText) {
			t.Fatalf("%q: %q, %v", s, v, e)
		}
	})
}

// P1.5: what is escaped comes back, and the escape is of plain characters.
func TestEscapeComesBack(t *testing.T) {
	check := func(s string) {
		u := words.Escape(s)
		if v, e := words.Unescape(u); v != s || e != api.OK {
			t.Fatalf("%q: %s, %q, %v", s, u, v, e)
		}
		kept := true
		for rest := s; rest != ""; {
			n, size := characterAt(rest)
			if n < 0 || !isPlain(n) {
				kept = false
				break
			}
			rest = rest[size:]
		}
		if kept != (u == s) {
			t.Fatalf("%q: %s", s, u)
		}
		for rest := u; rest != ""; {
			n, size := characterAt(rest)
			if n < 0 || !isPlain(n) && n != '\\' {
				t.Fatalf("%q: %s", s, u)
			}
			rest = rest[size:]
		}
	}
	forStrings(edgeBytes(), 3, check)
	var all strings.Builder
	for n := range 70000 {
		all.WriteString(bytesOf(n))
	}
	check(all.String())
	check(strings.Repeat("a\\\n\xff\u0085é", 20000))
}
