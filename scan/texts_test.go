package scan

import (
	"math"
	"math/big"
	"math/rand"
	"slices"
	"strconv"
	"strings"
	"testing"

	"keysmith/api"
)

// P16.2: numbers by hand, at the edges
func TestNumber(t *testing.T) {
	for _, x := range []struct {
		t    string
		want uint64
	}{
		{"0", 0}, {"00", 0}, {"1", 1}, {"9", 9}, {"10", 10}, {"007", 7}, {"1234567890", 1234567890},
		{"18446744073709551609", math.MaxUint64 - 6}, {"18446744073709551610", math.MaxUint64 - 5}, {"18446744073709551615", math.MaxUint64}, {"018446744073709551615", math.MaxUint64},
		{"9223372036854775808", 1 << 63}, {"10000000000000000000", 10000000000000000000},
		{strings.Repeat("0", 100000), 0}, {strings.Repeat("0", 100000) + "18446744073709551615", math.MaxUint64},
	} {
		if n, ok := Number(x.t); n != x.want || !ok {
			t.Errorf("%.40q: %d, %v", x.t, n, ok)
		}
	}
}

// P16.2: what tells no number below 2^64
func TestNoNumber(t *testing.T) {
	for _, s := range []string{
		"", " ", "a", "-", "+", "-1", "+1", "-0", " 1", "1 ", "1 2", "1\n", "1_0", "0x1", "0b1", "1a", "a1", "1e3", "1.0", ".", "1,000", "\x00", "1\x00", "\xff", "1\xff", "\u0663", "1\u0663", "\uff11", "/", ":", "1/", "1:", "é",
		"18446744073709551616", "18446744073709551617", "18446744073709551619", "18446744073709551620", "018446744073709551616", "18446744073709551625",
		"27670116110564327424", "36893488147419103232", "36893488147419103233", "99999999999999999999", "100000000000000000000", "184467440737095516150", "184467440737095516160", "340282366920938463463374607431768211456",
		strings.Repeat("9", 100000), "1" + strings.Repeat("0", 100000), "18446744073709551616a",
	} {
		if n, ok := Number(s); n != 0 || ok {
			t.Errorf("%.40q: %d, %v", s, n, ok)
		}
	}
}

// P16.2: numbers by chance, of all lengths, and around what goes round at 2^64; All asks the same of them.
func TestNumbersByChance(t *testing.T) {
	chance := rand.New(rand.NewSource(17))
	round := new(big.Int).Lsh(big.NewInt(1), 64)
	check := func(s string) {
		want, _ := new(big.Int).SetString(s, 10)
		n, ok := Number(s)
		if ok != want.IsUint64() || ok && n != want.Uint64() || !ok && n != 0 {
			t.Fatalf("%s: %d, %v", s, n, ok)
		}
		like(t, " "+s)
	}
	for range 20000 {
		n := chance.Uint64() >> chance.Intn(64)
		check(strconv.FormatUint(n, 10))
		many := new(big.Int).Mul(round, big.NewInt(1+chance.Int63n(1000)))
		check(many.Add(many, big.NewInt(chance.Int63n(41)-20)).String())
		b := make([]byte, 1+chance.Intn(24))
		for i := range b {
			b[i] = '0' + byte(chance.Intn(10))
		}
		check(string(b))
	}
}

// P16.2: Text of none, one, many, whatever they are: their texts alone count.
func TestText(t *testing.T) {
	for _, x := range []struct {
		l    []api.Token
		want string
	}{
		{nil, ""},
		{[]api.Token{}, ""},
		{words("a", 5), "a"},
		{words("a1 = 2 +", 0, 2, 3, 4), "a1 = 2 +"},
		{[]api.Token{{}}, ""},
		{[]api.Token{{}, {}, {}}, "  "},
		{[]api.Token{{Text: "a"}, {}, {Kind: -1, Text: "b", At: -7}}, "a  b"},
		{[]api.Token{{Kind: 99, Text: "x y\xff", At: math.MaxInt}, {Text: " "}, {Text: "#"}}, "x y\xff   #"},
	} {
		if s := Text(x.l); s != x.want {
			t.Errorf("%v: %q, not %q", x.l, s, x.want)
		}
	}
	l := words("a b c", 0, 2, 4)
	if s := Text(l[:2]); s != "a b" || l[2].Text != "c" {
		t.Error(s, l)
	}
	if s := Text(make([]api.Token, 1<<20)); s != strings.Repeat(" ", 1<<20-1) {
		t.Error(len(s))
	}
}

// P16.2: all names that are reserved, and those near to them
func TestReserved(t *testing.T) {
	all := strings.Fields("proc requires ensures odd public secret out let repeat swap call kmul lt sel mod addm subm mont pow")
	for _, s := range all {
		if !Reserved(s) {
			t.Error(s)
		}
		for _, near := range []string{
			s[1:], s[:len(s)-1], s + "s", s + "1", s + " ", " " + s, "_" + s, s + "\x00", s + s, strings.ToUpper(s), strings.ToUpper(s[:1]) + s[1:], s[:1] + strings.ToUpper(s[1:2]) + s[2:],
		} {
			if Reserved(near) {
				t.Error(near)
			}
		}
	}
	for _, s := range []string{"", " ", "a", "r", "require", "ensure", "less", "pos", "add", "sub", "mul", "less", "if", "for", "in", "set", "copy", "const", "+", "-", "*", "0", "1", "(", "\xff", "é"} {
		if Reserved(s) {
			t.Error(s)
		}
	}
	for _, a := range all {
		for _, b := range all {
			if Reserved(a + b) {
				t.Error(a + b)
			}
		}
	}
}

// P16.3: words of Text of words are the same but for where they begin.
func TestWordsOfText(t *testing.T) {
	check := func(s string) {
		t.Helper()
		l, _, e := All(s)
		if e != api.OK {
			t.Fatalf("%q: %d", s, e)
		}
		text := Text(l)
		again, at, e := All(text)
		if e != api.OK || at != len(text) || len(again) != len(l) {
			t.Fatalf("%.80q: %d, %d, %d words, not %d", s, at, e, len(again), len(l))
		}
		from := 0
		for i, w := range again {
			if w.Kind != l[i].Kind || w.Text != l[i].Text || w.At != from {
				t.Fatalf("%.80q: %v, not %v", s, w, l[i])
			}
			from += len(w.Text) + 1
		}
		if Text(again) != text {
			t.Fatalf("%.80q: another text", s)
		}
	}
	for _, s := range []string{"", " # x", "a1=2+ # x", "()[]{}<>,;:=+-*", "é\ufffd+007", strings.Repeat("a", 1<<16), strings.Repeat("+", 1<<15), strings.Repeat("1#\n", 1<<14)} {
		check(s)
	}
	chance := rand.New(rand.NewSource(18))
	for range 20000 {
		check(chanceSource(chance, true))
	}
	// what is cut out of a row of words is a row of words
	l, _, _ := All("proc f<k>(secret a[k], out r[2*k]) { r = a * a; }")
	for a := range l {
		for b := a; b <= len(l); b++ {
			again, _, e := All(Text(l[a:b]))
			if e != api.OK || !slices.EqualFunc(again, l[a:b], func(x, y api.Token) bool { return x.Kind == y.Kind && x.Text == y.Text }) {
				t.Fatal(a, b, again, e)
			}
		}
	}
}
