package lex_test

import (
	"math/big"
	"slices"
	"strconv"
	"strings"
	"testing"
	"unicode/utf8"

	"gatefold/api"
	"gatefold/lex"
)

// answer is what Of answers.
type answer struct {
	l  []api.Token
	at int
	e  api.Errno
}

func of(s string) answer {
	l, at, e := lex.Of(s)
	return answer{l, at, e}
}

// same tells whether a and b are equal; an empty list is as good as nil.
func same(a, b answer) bool { return slices.Equal(a.l, b.l) && a.at == b.at && a.e == b.e }

func sign(c rune, at int) api.Token { return api.Token{Kind: api.TokSign, Sign: c, At: at} }

func num(n, at int) api.Token { return api.Token{Kind: api.TokNum, N: n, At: at} }

func fine(l ...api.Token) answer { return answer{l, 0, api.OK} }

func wrong(at int) answer { return answer{nil, at, api.ErrMalformed} }

// wellFormed is how long the character of well-formed UTF-8 is with which s begins, byte by byte by the standard's table; 0: there is none.
func wellFormed(s string) int {
	in := func(i int, low, high byte) bool { return i < len(s) && low <= s[i] && s[i] <= high }
	rest := func(from, to int) bool {
		for i := from; i < to; i++ {
			if !in(i, 0x80, 0xbf) {
				return false
			}
		}
		return true
	}
	switch {
	case in(0, 0, 0x7f):
		return 1
	case in(0, 0xc2, 0xdf) && rest(1, 2):
		return 2
	case in(0, 0xe0, 0xe0) && in(1, 0xa0, 0xbf) && rest(2, 3),
		in(0, 0xed, 0xed) && in(1, 0x80, 0x9f) && rest(2, 3),
		(in(0, 0xe1, 0xec) || in(0, 0xee, 0xef)) && rest(1, 3):
		return 3
	case in(0, 0xf0, 0xf0) && in(1, 0x90, 0xbf) && rest(2, 4),
		in(0, 0xf4, 0xf4) && in(1, 0x80, 0x8f) && rest(2, 4),
		in(0, 0xf1, 0xf3) && rest(1, 4):
		return 4
	}
	return 0
}

// may tells whether a row of digits may be a number, reckoned with no limit of bits.
func may(digits string) bool {
	n, _ := new(big.Int).SetString(digits, 10)
	return n.Cmp(big.NewInt(api.Max)) <= 0 && n.String() == digits
}

// plain is the chapter's words, byte by byte.
func plain(s string) answer {
	var l []api.Token
	for at := 0; at < len(s); {
		long := wellFormed(s[at:])
		switch {
		case long == 0:
			return wrong(at)
		case strings.Contains(" \t\n", s[at:at+long]):
		case s[at] == '#':
			for at+long < len(s) && s[at+long] != '\n' {
				one := wellFormed(s[at+long:])
				if one == 0 {
					return wrong(at + long)
				}
				long += one
			}
		case strings.Contains("0123456789", s[at:at+long]):
			for at+long < len(s) && '0' <= s[at+long] && s[at+long] <= '9' {
				long++
			}
			if !may(s[at : at+long]) {
				return wrong(at)
			}
			n, _ := strconv.Atoi(s[at : at+long])
			l = append(l, num(n, at))
		default:
			c, _ := utf8.DecodeRuneInString(s[at:])
			l = append(l, sign(c, at))
		}
		at += long
	}
	return fine(l...)
}

// letters are what short scripts are made of: the ends of all the chapter's words, and parts of characters.
func letters() []string {
	return []string{"0", "1", "9", " ", "\n", "#", "[", "\u00e9", "\ufffd", "\xc3", "\xa9", "\xff"}
}

// scripts are all that are made of at most n letters.
func scripts(n int) []string {
	all := []string{""}
	for from := 0; n > 0; n-- {
		to := len(all)
		for _, s := range all[from:to] {
			for _, x := range letters() {
				all = append(all, s+x)
			}
		}
		from = to
	}
	return all
}

// TestPlain: the tests' own words agree with the library's of UTF-8, and with the chapter's examples.
func TestPlain(t *testing.T) {
	for i := range 1 << 16 {
		for _, s := range []string{string([]byte{byte(i >> 8), byte(i), 0x80, 0xbf}), string([]byte{byte(i >> 8), byte(i)})} {
			c, long := utf8.DecodeRuneInString(s)
			if c == utf8.RuneError && long == 1 {
				long = 0
			}
			if wellFormed(s) != long {
				t.Fatalf("%q: %d, not %d", s, wellFormed(s), long)
			}
		}
	}
	if !may("0") || !may("1099511627776") || may("00") || may("1099511627777") {
		t.Error("may")
	}
}

// TestExamples: P4.1, the chapter's examples.
func TestExamples(t *testing.T) {
	for _, x := range []struct {
		s    string
		want answer
	}{
		{"[m12]", fine(sign('[', 0), sign('m', 1), num(12, 2), sign(']', 4))},
		{"#\u00e9\n(5 0: 7", fine(sign('(', 4), num(5, 5), num(0, 7), sign(':', 8), num(7, 10))},
		{"", fine()},
		{"\xff", wrong(0)},
		{"007", wrong(0)},
		{"1099511627777", wrong(0)},
		{"\u00e9", fine(sign(0xe9, 0))},
	} {
		if a := of(x.s); !same(a, x.want) {
			t.Errorf("%q: %v, not %v", x.s, a, x.want)
		}
		if a := plain(x.s); !same(a, x.want) {
			t.Errorf("%q: the tests' own words say %v", x.s, a)
		}
	}
}

// TestSigns: P4.1: what is no white, no comment and no digit is a sign, each character one.
func TestSigns(t *testing.T) {
	for _, x := range []struct {
		s    string
		want answer
	}{
		{"[[", fine(sign('[', 0), sign('[', 1))},
		{"mn", fine(sign('m', 0), sign('n', 1))},
		{"-5", fine(sign('-', 0), num(5, 1))},
		{"+5.5e5", fine(sign('+', 0), num(5, 1), sign('.', 2), num(5, 3), sign('e', 4), num(5, 5))},
		{"0x1_0", fine(num(0, 0), sign('x', 1), num(1, 2), sign('_', 3), num(0, 4))},
		{"\x00", fine(sign(0, 0))},
		{"\r\n\r", fine(sign('\r', 0), sign('\r', 2))},
		{"\v\f\x7f", fine(sign('\v', 0), sign('\f', 1), sign(0x7f, 2))},
		{"\u00a0\u2028\u3000", fine(sign(0xa0, 0), sign(0x2028, 2), sign(0x3000, 5))},
		{"\ufeff1", fine(sign(0xfeff, 0), num(1, 3))},
		{"\u0661\uff11\u00b2", fine(sign(0x661, 0), sign(0xff11, 2), sign(0xb2, 5))},
		{"e\u0301", fine(sign('e', 0), sign(0x301, 1))},
		{"\u0080\u07ff\u0800\uffff", fine(sign(0x80, 0), sign(0x7ff, 2), sign(0x800, 4), sign(0xffff, 7))},
		{"\ud7ff\ue000\U00010000\U0010ffff", fine(sign(0xd7ff, 0), sign(0xe000, 3), sign(0x10000, 6), sign(0x10ffff, 10))},
		{"\ufffd\ufffd", fine(sign(0xfffd, 0), sign(0xfffd, 3))},
	} {
		if a := of(x.s); !same(a, x.want) {
			t.Errorf("%q: %v, not %v", x.s, a, x.want)
		}
	}
}

// TestEachCharacter: P4.1, of each character alone, and between numbers.
func TestEachCharacter(t *testing.T) {
	for c := range rune(utf8.MaxRune + 1) {
		if !utf8.ValidRune(c) {
			continue
		}
		one, two := fine(sign(c, 0)), fine(num(7, 0), sign(c, 1), num(8, 1+utf8.RuneLen(c)))
		switch {
		case c == ' ' || c == '\t' || c == '\n':
			one, two = fine(), fine(num(7, 0), num(8, 2))
		case c == '#':
			one, two = fine(), fine(num(7, 0))
		case '0' <= c && c <= '9':
			n := int(c - '0')
			one, two = fine(num(n, 0)), fine(num(708+10*n, 0))
		}
		if a := of(string(c)); !same(a, one) {
			t.Errorf("%q: %v, not %v", c, a, one)
		}
		if a := of("7" + string(c) + "8"); !same(a, two) {
			t.Errorf("%q between numbers: %v, not %v", c, a, two)
		}
	}
}

// TestNothing: P4.1: white and comments are no tokens, and part what stands beside them.
func TestNothing(t *testing.T) {
	for _, x := range []struct {
		s    string
		want answer
	}{
		{" ", fine()},
		{" \t\n\n\t ", fine()},
		{"#", fine()},
		{"##", fine()},
		{"# 12 [ \t # \r \u00e9\ufffd\x00", fine()},
		{"#\n#\n", fine()},
		{"#\r5", fine()},
		{"#007", fine()},
		{"#1099511627777\n", fine()},
		{"1 2\t3\n4", fine(num(1, 0), num(2, 2), num(3, 4), num(4, 6))},
		{"1#2\n3", fine(num(1, 0), num(3, 4))},
		{"10#5\n6", fine(num(10, 0), num(6, 5))},
		{"0 0#0\n0", fine(num(0, 0), num(0, 2), num(0, 6))},
		{"[#]\n]#[", fine(sign('[', 0), sign(']', 4))},
		{"\n#\n\n1", fine(num(1, 4))},
		{"#\n1", fine(num(1, 2))},
	} {
		if a := of(x.s); !same(a, x.want) {
			t.Errorf("%q: %v, not %v", x.s, a, x.want)
		}
	}
}

// TestNumbers: P4.1: the longest row of digits, and which may be.
func TestNumbers(t *testing.T) {
	for _, x := range []struct {
		s    string
		want answer
	}{
		{"0", fine(num(0, 0))},
		{"9", fine(num(9, 0))},
		{"10", fine(num(10, 0))},
		{"100500", fine(num(100500, 0))},
		{"1234567890", fine(num(1234567890, 0))},
		{"1099511627775", fine(num(api.Max-1, 0))},
		{"1099511627776", fine(num(api.Max, 0))},
		{"[1099511627776]", fine(sign('[', 0), num(api.Max, 1), sign(']', 14))},
		{"1099511627777", wrong(0)},
		{"1099511627780", wrong(0)},
		{"2000000000000", wrong(0)},
		{"10995116277760", wrong(0)},
		{"9223372036854775807", wrong(0)},
		{"9223372036854775808", wrong(0)},
		{"18446744073709551616", wrong(0)},
		{"18446744073709551621", wrong(0)},
		{"340282366920938463463374607431768211461", wrong(0)},
		{"00", wrong(0)},
		{"01", wrong(0)},
		{"[ 00", wrong(2)},
		{"1 0 01 1", wrong(4)},
		{"0000000000000000000000000", wrong(0)},
		{"01099511627776", wrong(0)},
		{"5 99999999999999999999999", wrong(2)},
		{"00 1099511627777", wrong(0)},
		{"1099511627777 00", wrong(0)},
		{"7]007[", wrong(2)},
	} {
		if a := of(x.s); !same(a, x.want) {
			t.Errorf("%q: %v, not %v", x.s, a, x.want)
		}
	}
}

// TestLongNumbers: P4.1, of rows of digits that are beyond all bits.
func TestLongNumbers(t *testing.T) {
	for n := 1; n < 200; n++ {
		for _, s := range []string{strings.Repeat("9", n), "1" + strings.Repeat("0", n-1), "1" + strings.Repeat("0", n-1) + "1", strings.Repeat("0", n)} {
			if a, want := of("[ "+s+"]"), plain("[ "+s+"]"); !same(a, want) {
				t.Errorf("%s: %v, not %v", s, a, want)
			}
		}
	}
	if a := of("1 " + strings.Repeat("8", 1<<20)); !same(a, wrong(2)) {
		t.Errorf("a million digits: %d, %d", a.at, a.e)
	}
}

// TestWrongBytes: P4.1 and P4.2: the first place at which no character begins.
func TestWrongBytes(t *testing.T) {
	for s, at := range map[string]int{
		"\x80": 0, "\xbf": 0, "\xc0": 0, "\xc1\xbf": 0, "\xf5\x80\x80\x80": 0, "\xfe": 0, "\xff": 0,
		"a\xc3": 1, "\xc3(": 0, "\xe2\x82": 0, "\xe2\x82(": 0, "\xf0\x9f\x98": 0, "\xf0\x9f\x98(": 0,
		"\xc0\x80": 0, "\xe0\x9f\xbf": 0, "\xf0\x8f\xbf\xbf": 0,
		"\xed\xa0\x80": 0, "\xed\xbf\xbf": 0, "\xf4\x90\x80\x80": 0,
		"\u00e9\x80": 2, "\u20ac\x80": 3, "\U0001f600\x80": 4, "\ufffd\xff": 3, "\ufffd\ufffd\xef\xbf": 6,
		"[m5]\xff": 4, "5\xff": 1, "12 \xff": 3, "# \xff": 2, "#\xff\n": 1, "#\xc3": 1, "#\xc3\n\xa9": 1, "#\n\xff": 2,
		"\xff\xfe": 0, "a\xffb\xff": 1, "\xff01": 0, "0\xff1": 1,
	} {
		if a := of(s); !same(a, wrong(at)) {
			t.Errorf("%q: %v, not at %d", s, a, at)
		}
		if n, ok := lex.Text(s); n != at || ok {
			t.Errorf("Text(%q): %d, %v, not %d", s, n, ok, at)
		}
	}
}

// TestFirstFault: P4.1: of several faults it is the first one in the script.
func TestFirstFault(t *testing.T) {
	for s, at := range map[string]int{
		"01\xff": 0, "\xff01": 0, "01 \xff": 0, "1 \xff 01": 2, "1 01 \xff": 2,
		"1099511627777\xff": 0, "5\xff01": 1, "#01\xff": 3, "#\n01\xff": 2, "0\xff0": 1, "00\xff": 0, "\xc300": 0,
	} {
		if a := of(s); !same(a, wrong(at)) {
			t.Errorf("%q: %v, not at %d", s, a, at)
		}
	}
}

// TestText: P4.2: a text is no script: what its characters are doesn't matter.
func TestText(t *testing.T) {
	for _, s := range []string{"", "a", "007", "1099511627777", "# \x00\r\n\t", "\u00e9\ufffd", "\ufffd", "\u0080\u07ff\u0800\ud7ff\ue000\uffff\U00010000\U0010ffff"} {
		if at, ok := lex.Text(s); at != 0 || !ok {
			t.Errorf("Text(%q): %d, %v", s, at, ok)
		}
	}
	for s, want := range map[string]int{"ab\xffc": 2, "007\xff": 3, "\xff": 0, "\u00e9\xa9": 2} {
		if at, ok := lex.Text(s); at != want || ok {
			t.Errorf("Text(%q): %d, %v, not %d", s, at, ok, want)
		}
	}
}

// TestTextBytes: P4.2, of all texts of two bytes, each behind a character, and with bytes that go on.
func TestTextBytes(t *testing.T) {
	for i := range 1 << 16 {
		two := string([]byte{byte(i >> 8), byte(i)})
		for _, s := range []string{two, "\ufffd" + two, two + "\x80", two + "\xbf\xbf"} {
			want := 0
			for want < len(s) && wellFormed(s[want:]) > 0 {
				want += wellFormed(s[want:])
			}
			whole := want == len(s)
			if whole {
				want = 0
			}
			if at, ok := lex.Text(s); at != want || ok != whole {
				t.Fatalf("Text(%q): %d, %v, not %d, %v", s, at, ok, want, whole)
			}
		}
	}
}

// TestShort: P4.1 and P4.2, of all short scripts.
func TestShort(t *testing.T) {
	for _, s := range scripts(4) {
		if a, want := of(s), plain(s); !same(a, want) {
			t.Fatalf("%q: %v, not %v", s, a, want)
		}
		if at, ok := lex.Text(s); ok != utf8.ValidString(s) || ok && at != 0 || !ok && (wellFormed(s[at:]) != 0 || !utf8.ValidString(s[:at])) {
			t.Fatalf("Text(%q): %d, %v", s, at, ok)
		}
	}
}

// TestWhere: P4.3, of all short scripts that may be: what a token tells stands at its place, and nothing else but white and comments.
func TestWhere(t *testing.T) {
	for _, s := range scripts(4) {
		a := of(s)
		if a.e != api.OK {
			continue
		}
		end := 0
		for _, tok := range a.l {
			if tok.At < end || !nothing(s[end:tok.At]) {
				t.Fatalf("%q: %v stands behind %d", s, tok, end)
			}
			text := string(tok.Sign)
			if tok.Kind == api.TokNum {
				text = strconv.Itoa(tok.N)
			}
			if !strings.HasPrefix(s[tok.At:], text) {
				t.Fatalf("%q: %v does not stand there", s, tok)
			}
			end = tok.At + len(text)
		}
		if !nothing(s[end:]) {
			t.Fatalf("%q: there is more behind %d", s, end)
		}
	}
}

// nothing tells whether s is white and comments alone.
func nothing(s string) bool {
	for line := range strings.SplitSeq(s, "\n") {
		line, _, _ = strings.Cut(line, "#")
		if strings.Trim(line, " \t") != "" {
			return false
		}
	}
	return true
}

// TestOneBehindTheOther: P4.4, of all pairs of short scripts.
func TestOneBehindTheOther(t *testing.T) {
	l := scripts(2)
	l = append(l, "[m12]", "#\u00e9\n(5 0: 7", "# 007", "007", "1099511627776", "1099511627777", "# \xff", "[01\xff", "\xe2\x82")
	for _, one := range l {
		for _, two := range l {
			a, b, both := of(one), of(two), of(one+"\n"+two)
			if a.e != api.OK {
				if !same(both, a) {
					t.Fatalf("%q, then %q: %v, not %v", one, two, both, a)
				}
				continue
			}
			behind := len(one) + 1
			want := wrong(b.at + behind)
			if b.e == api.OK {
				want = fine(a.l...)
				for _, tok := range b.l {
					tok.At += behind
					want.l = append(want.l, tok)
				}
			}
			if !same(both, want) {
				t.Fatalf("%q, then %q: %v, not %v", one, two, both, want)
			}
		}
	}
}

// TestNewMemory: R3: the tokens that are answered are nobody else's.
func TestNewMemory(t *testing.T) {
	want := fine(sign('[', 0), num(5, 1), sign(']', 2))
	one, two := of("[5]"), of("[5]")
	for i := range one.l {
		one.l[i] = num(-7, -7)
	}
	one.l = append(one.l, num(-7, -7))
	if three := of("[5]"); !same(two, want) || !same(three, want) {
		t.Errorf("the answer is not new memory: %v, %v", two, three)
	}
}

// TestAlways: R1 and R5, of long scripts: there is an answer, and the same one again.
func TestAlways(t *testing.T) {
	const many = 50000
	for _, x := range []struct {
		piece       string
		tokens, end int
	}{
		{"[", many, 0}, {"7 ", many, 0}, {"\ufffd", many, 0}, {" \n\t", 0, 0}, {"#[7", 0, 0}, {"#[7\n", 0, 0}, {"(5 0: 7#\n", 5 * many, 0},
	} {
		s := strings.Repeat(x.piece, many)
		a := of(s)
		if a.e != api.OK || len(a.l) != x.tokens || !same(a, of(s)) || !same(a, plain(s)) {
			t.Errorf("many of %q: %d tokens, %d, %d", x.piece, len(a.l), a.at, a.e)
		}
		if a := of(s + "\n\xff"); !same(a, wrong(len(s)+1)) {
			t.Errorf("many of %q, and a wrong byte: %d tokens, %d, %d", x.piece, len(a.l), a.at, a.e)
		}
	}
}
