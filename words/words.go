// Package words is layer 1: texts, names, paths: see shared/doc/01-words.md.
package words

import "farrier/api"

// unknown is what a range over a string yields for a byte at which no
// character stands. It is a character too, whose bytes are unknownBytes.
const (
	unknown      = '\uFFFD'
	unknownBytes = "\uFFFD"
)

const digits = "0123456789abcdef"

// Text tells whether bytes are a text.
func Text(s string) bool {
	for i, r := range s {
		if !stands(s, i, r) {
			return false
		}
	}
	return true
}

// Name tells whether a text may be a file's name.
func Name(s string) bool {
	if len(s) < 1 || len(s) > api.MaxName || s == "." || s == ".." {
		return false
	}
	for i, r := range s {
		if !stands(s, i, r) || !plain(r) || r == '/' {
			return false
		}
	}
	return true
}

// Path are a path's names.
func Path(s string) ([]string, api.Errno) {
	if s == "/" {
		return nil, api.OK
	}
	if s == "" || s[0] != '/' {
		return nil, api.ErrWordsName
	}
	var names []string
	for rest := s; rest != ""; {
		end := partEnd(rest)
		if len(names) == api.MaxParts || !Name(rest[1:end]) {
			return nil, api.ErrWordsName
		}
		names = append(names, rest[1:end])
		rest = rest[end:]
	}
	return names, api.OK
}

// Join is the path of names.
func Join(l []string) (string, api.Errno) {
	if len(l) == 0 {
		return "/", api.OK
	}
	if len(l) > api.MaxParts {
		return "", api.ErrWordsName
	}
	path := ""
	for _, name := range l {
		if !Name(name) {
			return "", api.ErrWordsName
		}
		path += "/" + name
	}
	return path, api.OK
}

// Escape is bytes as a text of one line.
func Escape(s string) string {
	var out []byte
	for i, r := range s {
		switch {
		case !stands(s, i, r):
			out = appendHex(out, s[i:i+1])
		case plain(r):
			out = append(out, string(r)...)
		case r == '\\':
			out = append(out, `\\`...)
		case r == '\n':
			out = append(out, `\n`...)
		default:
			out = appendHex(out, string(r))
		}
	}
	return string(out)
}

// Unescape is what such a text says.
func Unescape(s string) (string, api.Errno) {
	var out []byte
	for rest := s; rest != ""; {
		b, n := readByte(rest)
		if n == 0 {
			return "", api.ErrWordsText
		}
		out = append(out, b)
		rest = rest[n:]
	}
	said := string(out)
	// A byte may be written in several ways that can be read, but Escape
	// writes only one of them.
	if Escape(said) != s {
		return "", api.ErrWordsText
	}
	return said, api.OK
}

// stands tells whether r, which a range over s yields at the offset i, is a
// character that stands there, and not what is yielded in the place of one.
func stands(s string, i int, r rune) bool {
	if r != unknown {
		return true
	}
	return s[i:min(i+len(unknownBytes), len(s))] == unknownBytes
}

// plain tells whether a character is plain.
func plain(r rune) bool {
	return r >= 32 && (r < 127 || r > 159) && r != '\\'
}

// partEnd is the offset at which the first part of a path ends: its first
// byte, which is a '/', and what comes up to the next one.
func partEnd(path string) int {
	for i := 1; i < len(path); i++ {
		if path[i] == '/' {
			return i
		}
	}
	return len(path)
}

// appendHex appends the escapes of all bytes of s.
func appendHex(out []byte, s string) []byte {
	for i := range len(s) {
		out = append(out, '\\', 'x', digits[s[i]>>4], digits[s[i]&15])
	}
	return out
}

// readByte is the byte that the beginning of s (at least one byte) says, and
// how many bytes of s say it: none, if it is a backslash that begins no escape.
func readByte(s string) (byte, int) {
	switch {
	case s[0] != '\\':
		return s[0], 1
	case len(s) >= 2 && s[1] == '\\':
		return '\\', 2
	case len(s) >= 2 && s[1] == 'n':
		return '\n', 2
	case len(s) >= 4 && s[1] == 'x' && isDigit(s[2]) && isDigit(s[3]):
		return digitValue(s[2])<<4 | digitValue(s[3]), 4
	}
	return 0, 0
}

// isDigit tells whether a byte is a hexadecimal digit as Escape writes them.
func isDigit(c byte) bool {
	return '0' <= c && c <= '9' || 'a' <= c && c <= 'f'
}

// digitValue is what such a digit counts.
func digitValue(c byte) byte {
	if c <= '9' {
		return c - '0'
	}
	return c - 'a' + 10
}
