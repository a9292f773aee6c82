package scan

import (
	"math/rand"
	"slices"
	"strings"
	"testing"

	"keysmith/api"
)

// P16.1: words by hand, the chapter's example among them
func TestWords(t *testing.T) {
	for _, x := range []struct {
		s    string
		want []api.Token
	}{
		{"a1=2+ # x", words("a1 = 2 +", 0, 2, 3, 4)},
		{"", nil},
		{" ", nil},
		{" \t\n\r", nil},
		{"#", nil},
		{"# a = 1", nil},
		{"# a\n", nil},
		{"##a#\n#b", nil},
		{"a", words("a", 0)},
		{"_", words("_", 0)},
		{"Z9z_0", words("Z9z_0", 0)},
		{"é", words("é", 0)},
		{"éa1é+2", words("éa1é + 2", 0, 6, 7)},
		{"aé9世\U0001F600_", words("aé9世\U0001F600_", 0)},
		{"\u0080\u00a0\u0085", words("\u0080\u00a0\u0085", 0)},
		{"\ufeffproc", words("\ufeffproc", 0)},
		{"\ufffd", words("\ufffd", 0)},
		{"a\ufffd1", words("a\ufffd1", 0)},
		{"\U0010ffff", words("\U0010ffff", 0)},
		{"\u0663", words("\u0663", 0)},
		{"0", words("0", 0)},
		{"007", words("007", 0)},
		{"18446744073709551615", words("18446744073709551615", 0)},
		{"018446744073709551615 x", words("018446744073709551615 x", 0, 22)},
		{"1 2", words("1 2", 0, 2)},
		{"1#2\n3", words("1 3", 0, 4)},
		{"a#b\nc", words("a c", 0, 4)},
		{"a#b\rc\nd", words("a d", 0, 6)},
		{"#é\nb", words("b", 4)},
		{"#\ufffd\nb", words("b", 5)},
		{"#$%\x00\x7f!2a99999999999999999999\nb", words("b", 29)},
		{"a\tb\nc\rd e", words("a b c d e", 0, 2, 4, 6, 8)},
		{"a\r\n\r\n b", words("a b", 0, 6)},
		{"()[]{}<>,;:=+-*", words("( ) [ ] { } < > , ; : = + - *", 0, 1, 2, 3, 4, 5, 6, 7, 8, 9, 10, 11, 12, 13, 14)},
		{"--==<=", words("- - = = < =", 0, 1, 2, 3, 4, 5)},
		{"-1", words("- 1", 0, 1)},
		{"2*k", words("2 * k", 0, 1, 2)},
		{"a+b", words("a + b", 0, 1, 2)},
		{"1(a", words("1 ( a", 0, 1, 2)},
		{"proc f<k>(secret a[k]) {r=a*2;}", words("proc f < k > ( secret a [ k ] ) { r = a * 2 ; }", 0, 5, 6, 7, 8, 9, 10, 17, 18, 19, 20, 21, 23, 24, 25, 26, 27, 28, 29, 30)},
	} {
		holds(t, x.s, x.want, len(x.s), api.OK)
		like(t, x.s)
	}
}

// P16.1: the first error and its place, and the words ahead of it, the chapter's examples among them
func TestErrors(t *testing.T) {
	const great = "18446744073709551616"
	for _, x := range []struct {
		s     string
		ahead []api.Token
		at    int
		e     api.Errno
	}{
		{"2a", words("2", 0), 1, api.ErrText},
		{great, nil, 0, api.ErrLong},
		{"2_", words("2", 0), 1, api.ErrText},
		{"0x10", words("0", 0), 1, api.ErrText},
		{"12é", words("12", 0), 2, api.ErrText},
		{"1\ufffd", words("1", 0), 1, api.ErrText},
		{"1\u0663", words("1", 0), 1, api.ErrText},
		{"a 2b c", words("a 2", 0, 2), 3, api.ErrText},
		{"1.5", words("1", 0), 1, api.ErrText},
		{"$", nil, 0, api.ErrText},
		{"a$", words("a", 0), 1, api.ErrText},
		{"é $", words("é", 0), 3, api.ErrText},
		{"\x00", nil, 0, api.ErrText},
		{"a\x00b", words("a", 0), 1, api.ErrText},
		{"a\vb", words("a", 0), 1, api.ErrText},
		{"a\fb", words("a", 0), 1, api.ErrText},
		{"a\x7f", words("a", 0), 1, api.ErrText},
		{"a/b", words("a", 0), 1, api.ErrText},
		{"a // b", words("a", 0), 2, api.ErrText},
		{"a' ", words("a", 0), 1, api.ErrText},
		{"# x\n$", nil, 4, api.ErrText},
		{"\xff", nil, 0, api.ErrBad},
		{"a\xff", words("a", 0), 1, api.ErrBad},
		{"1\xff", words("1", 0), 1, api.ErrBad},
		{"+\xff", words("+", 0), 1, api.ErrBad},
		{" \xff", nil, 1, api.ErrBad},
		{"é\x80", words("é", 0), 2, api.ErrBad},
		{"\ufffd\xff", words("\ufffd", 0), 3, api.ErrBad},
		{"#\xff", nil, 1, api.ErrBad},
		{"# é\xc3\n", nil, 4, api.ErrBad},
		{"a # b\x80\n$", words("a", 0), 5, api.ErrBad},
		{"a # \xff", words("a", 0), 4, api.ErrBad},
		{"a 99999999999999999999 b", words("a", 0), 2, api.ErrLong},
		{"1+" + great + "+$", words("1 +", 0, 1), 2, api.ErrLong},
		{" 0" + great, nil, 1, api.ErrLong},
		// the first place counts, whatever is wrong there
		{great + "a", nil, 0, api.ErrLong},
		{great + "\xff", nil, 0, api.ErrLong},
		{great + "$", nil, 0, api.ErrLong},
		{"#\xff\n" + great, nil, 1, api.ErrBad},
		{"$\xff", nil, 0, api.ErrText},
		{"\xff$", nil, 0, api.ErrBad},
		{"1a" + great, words("1", 0), 1, api.ErrText},
		{"1\xffa", words("1", 0), 1, api.ErrBad},
		{"1a\xff", words("1", 0), 1, api.ErrText},
		{"\xff" + great, nil, 0, api.ErrBad},
	} {
		holds(t, x.s, x.ahead, x.at, x.e)
		like(t, x.s)
	}
}

// P16.1: bytes that are no right UTF-8: the first of them is told, wherever they stand.
func TestWrongUTF8(t *testing.T) {
	for _, bad := range []string{
		"\x80", "\xbf", "\xc0", "\xc1", "\xc2", "\xf5", "\xfe", "\xff",
		"\xc0\x80", "\xc1\xbf", "\xc3\x28", "\xc3\xc3\xa9",
		"\xe0\x80\x80", "\xe0\x9f\xbf", "\xe4\xb8", "\xe4\xb8a", "\xef\xbf", "\xef\xbf\xc0",
		"\xed\xa0\x80", "\xed\xbf\xbf", "\xed\xa0\xbd\xed\xb8\x80",
		"\xf0\x80\x80\x80", "\xf0\x8f\xbf\xbf", "\xf0\x9f\x98", "\xf4\x90\x80\x80", "\xf8\x88\x80\x80\x80",
	} {
		for _, x := range []struct {
			ahead string
			words []api.Token
		}{
			{"", nil}, {"a", words("a", 0)}, {"17", words("17", 0)}, {"*", words("*", 0)}, {" \n", nil}, {"#", nil}, {"a#é", words("a", 0)}, {"\ufffd", words("\ufffd", 0)},
		} {
			for _, behind := range []string{"", "a", " b", "\n", "$", "\xff"} {
				holds(t, x.ahead+bad+behind, x.words, len(x.ahead), api.ErrBad)
			}
		}
	}
}

// P16.1, P16.2: each rune there is, alone, in a name, behind a number, in a comment; Letter of it
func TestEachRune(t *testing.T) {
	for r := rune(0); r <= 0x10ffff; r++ {
		if 0xd800 <= r && r < 0xe000 {
			continue
		}
		s := string(r)
		isLetter := 'a' <= r && r <= 'z' || 'A' <= r && r <= 'Z' || r == '_' || r >= 128
		if Letter(r) != isLetter {
			t.Fatalf("%U: %v", r, Letter(r))
		}
		if r >= 256 {
			holds(t, s, []api.Token{{Kind: api.TokName, Text: s}}, len(s), api.OK)
			continue
		}
		for _, whole := range []string{s, "a" + s, s + "a", "a" + s + "b", "1" + s, s + "1", "1" + s + "2", "#" + s + "\nb", "+" + s + s} {
			like(t, whole)
		}
	}
}

// P16.2: what is no rune is no letter.
func TestNoRunes(t *testing.T) {
	for _, r := range []rune{-1, -'a', -128, -1 << 31, 0xd800, 0xdbff, 0xdc00, 0xdfff, 0x110000, 0x110061, 1<<31 - 1} {
		if Letter(r) {
			t.Errorf("%x", r)
		}
	}
	for r := rune(0xd800); r < 0xe000; r++ {
		if Letter(r) {
			t.Fatalf("%x", r)
		}
	}
}

// P16.1: a source of 2^16 bytes may be; of more, whatever they are, there is no word.
func TestLongSources(t *testing.T) {
	for _, part := range []string{"a", "1", "0", "+", " ", "a ", "1 ", "#", "é", "a$", "\xff", "2a", "\n#b"} {
		s := strings.Repeat(part, 1<<16)[:1<<16]
		like(t, s)
		like(t, s[:1<<16-1])
		for _, more := range []string{s + " ", s + "a", s + "\xff", s + s} {
			holds(t, more, nil, 0, api.ErrLong)
		}
	}
	s := strings.Repeat(" ", 1<<16-1) + "é"
	holds(t, s, nil, 0, api.ErrLong)
	holds(t, s[1:], words("é", 1<<16-2), 1<<16, api.OK)
	name := strings.Repeat("n", 1<<16)
	holds(t, name, words(name, 0), 1<<16, api.OK)
	noughts := strings.Repeat("0", 1<<16-1) + "7"
	holds(t, noughts, words(noughts, 0), 1<<16, api.OK)
	l, at, e := All(strings.Repeat(";", 1<<16))
	if len(l) != 1<<16 || at != 1<<16 || e != api.OK || l[1<<16-1].At != 1<<16-1 {
		t.Error(len(l), at, e)
	}
}

// rows calls f for each row of so many of the pieces.
func rows(pieces []string, many int, s string, f func(string)) {
	if many == 0 {
		f(s)
		return
	}
	for _, p := range pieces {
		rows(pieces, many-1, s+p, f)
	}
}

// P16.1: all rows of a few pieces
func TestAllRows(t *testing.T) {
	pieces := []string{" ", "\t", "\n", "\r", "#", "a", "Z", "_", "0", "9", "18446744073709551615", "é", "\ufffd", "\xc3", "\xa9", "\xef", "+", "}", "$", "\x00"}
	for many := range 5 {
		rows(pieces, many, "", func(s string) { like(t, s) })
	}
}

// chanceSource answers a source of pieces by chance; a right one has no error.
func chanceSource(chance *rand.Rand, right bool) string {
	pieces := []string{" ", " ", "\n", "\t", "\r", "#", "# x\n", "a ", "k", "ab_1 ", "é", "世 ", "\ufffd", "0 ", "7 ", "65536 ", "18446744073709551615 ", "(", ")", "[", "]", "{", "}", "<", ">", ",", ";", ":", "=", "+", "-", "*", "proc ", "let "}
	if !right {
		pieces = append(pieces, "1", "18446744073709551616", "$", ".", "\x00", "\xff", "\xe4\xb8", "\x80")
	}
	var b strings.Builder
	for range chance.Intn(60) {
		b.WriteString(pieces[chance.Intn(len(pieces))])
	}
	return b.String()
}

// P16.1: sources by chance
func TestSourcesByChance(t *testing.T) {
	chance := rand.New(rand.NewSource(16))
	for range 20000 {
		like(t, chanceSource(chance, false))
		s := chanceSource(chance, true)
		like(t, s)
		if _, _, e := All(s); e != api.OK {
			t.Fatalf("%q: %d", s, e)
		}
	}
	for range 20000 {
		s := make([]byte, chance.Intn(40))
		chance.Read(s)
		like(t, string(s))
		for i := range s {
			s[i] = "ab01 9#\n\xc3\xa9+;"[chance.Intn(12)]
		}
		like(t, string(s))
	}
}

// P16.1: Each may be left behind each word, and gone through again, also within itself; each time it begins anew.
func TestEachLeft(t *testing.T) {
	for _, s := range []string{"a b c d", "a+1 # x", "a + 2b c", "a 1 18446744073709551616", "a b \xff", "a"} {
		each := Each(s)
		all := slices.Collect(each)
		for many := range all {
			var l []api.Token
			for w := range each {
				l = append(l, w)
				if len(l) == many+1 {
					break
				}
			}
			if !slices.Equal(l, all[:many+1]) {
				t.Errorf("%q, %d: %v", s, many, l)
			}
		}
		n := 0
		for w := range each {
			if w != all[n] || !slices.Equal(slices.Collect(each), all) {
				t.Errorf("%q: %v within", s, w)
			}
			n++
		}
		if n != len(all) || len(all) == 0 {
			t.Error(s, n)
		}
	}
	for range Each("") {
		t.Error("a word of nothing")
	}
}

// An answer is new memory: what is done to one changes no other one.
func TestListsAreApart(t *testing.T) {
	const s = "a b c"
	l, _, _ := All(s)
	other, _, _ := All(s)
	for i := range l[:cap(l)] {
		if i >= len(l) && l[:cap(l)][i] != (api.Token{}) {
			t.Error(i, l[:cap(l)])
		}
		l[:cap(l)][i] = api.Token{Kind: 9, Text: "x", At: 9}
	}
	if want := words("a b c", 0, 2, 4); !slices.Equal(other, want) {
		t.Error(other)
	}
	like(t, s)
}
