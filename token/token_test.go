package token_test

import (
	"math"
	"slices"
	"strings"
	"testing"

	"scullery/api"
	"scullery/token"
)

const (
	letters  = "abcdefghijklmnopqrstuvwxyz"
	digits   = "0123456789"
	allSigns = "=()[],+.:<>"
)

func word(s string) api.Token   { return api.Token{Kind: api.Word, Text: s} }
func number(s string) api.Token { return api.Token{Kind: api.Digit, Text: s} }
func quote(s string) api.Token  { return api.Token{Kind: api.Quote, Text: s} }
func sign(s string) api.Token   { return api.Token{Kind: api.Sign, Text: s} }

func has(set string, b byte) bool { return strings.IndexByte(set, b) >= 0 }

// checkOne asks Check of a single token.
func checkOne(t *testing.T, tok api.Token, want api.Errno) {
	t.Helper()
	if e := token.Check([]api.Token{tok}); e != want {
		t.Errorf("Check of kind %d %.30q: %v, want %v", tok.Kind, tok.Text, e, want)
	}
}

// cuts asks Cut for tokens that it must tell.
func cuts(t *testing.T, s string, want ...api.Token) {
	t.Helper()
	if l, e := token.Cut(s); e != api.OK || !slices.Equal(l, want) {
		t.Errorf("Cut of %.60q: %v, %v, want %v", s, l, e, want)
	}
}

// cutRefused asks Cut for an error, with nothing beside it.
func cutRefused(t *testing.T, s string, want api.Errno) {
	t.Helper()
	if l, e := token.Cut(s); e != want || len(l) != 0 {
		t.Errorf("Cut of %.60q: %v, %v, want %v", s, l, e, want)
	}
}

// showRefused asks Show for an error, with nothing beside it.
func showRefused(t *testing.T, l []api.Token, want api.Errno) {
	t.Helper()
	if s, e := token.Show(l); e != want || s != "" {
		t.Errorf("Show: %.60q, %v, want %v", s, e, want)
	}
}

func TestP1_1WordLength(t *testing.T) {
	for n := range 40 {
		want := n >= 1 && n <= api.MaxName
		if got := token.Word(strings.Repeat("a", n)); got != want {
			t.Errorf("Word of %d bytes: %v", n, got)
		}
	}
	if token.Word(strings.Repeat("a", 1<<20)) {
		t.Error("Word of a very long text")
	}
}

func TestP1_1WordBytes(t *testing.T) {
	for i := range 256 {
		b := byte(i)
		one := string([]byte{b})
		later := has(letters, b) || has(digits, b)
		for s, want := range map[string]bool{
			one:                  has(letters, b),
			one + "a":            has(letters, b),
			"a" + one:            later,
			"a" + one + "z":      later,
			"abcdefg" + one:      later,
			"abcdefgh" + one:     false,
			"zz9" + one + "0000": later,
		} {
			if got := token.Word(s); got != want {
				t.Errorf("Word(%q): %v", s, got)
			}
		}
	}
}

func TestP1_1QuotableLength(t *testing.T) {
	for n := range 60 {
		want := n <= api.MaxQuote
		if got := token.Quotable(strings.Repeat("~", n)); got != want {
			t.Errorf("Quotable of %d bytes: %v", n, got)
		}
	}
}

func TestP1_1QuotableBytes(t *testing.T) {
	for i := range 256 {
		b := byte(i)
		one := string([]byte{b})
		want := i >= 32 && i <= 126 && b != '"' && b != '\\'
		for _, s := range []string{one, "x" + one, one + "x", "Ab 9" + one + "!"} {
			if got := token.Quotable(s); got != want {
				t.Errorf("Quotable(%q): %v", s, got)
			}
		}
	}
	if token.Quotable("é") {
		t.Error("Quotable of a letter outside of ASCII")
	}
}

func TestP1_1Numbers(t *testing.T) {
	for _, s := range []string{"0", "1", "9", "10", "100", "12345", "100000", "999998", "999999"} {
		checkOne(t, number(s), api.OK)
		cuts(t, s, number(s))
	}
	for _, s := range []string{"00", "01", "07", "000000", "0999999", "1000000", "9999990", "9223372036854775807",
		"18446744073709551616", "18446744073709551617", "1a", "1e5", "0a", "0x1", "2e"} {
		checkOne(t, number(s), api.ErrForm)
		cutRefused(t, s, api.ErrForm)
	}
	for _, s := range []string{"", " ", "a", "-1", "+1", "1 ", " 1", "1.0", "/", ":", "1:", "1/", "１",
		strings.Repeat("9", 1<<20), strings.Repeat("0", 1<<20)} {
		checkOne(t, number(s), api.ErrForm)
	}
}

func TestP1_1Signs(t *testing.T) {
	for i := range 256 {
		one := string([]byte{byte(i)})
		want := api.ErrForm
		if has(allSigns, byte(i)) {
			want = api.OK
		}
		checkOne(t, sign(one), want)
		checkOne(t, sign(one+one), api.ErrForm)
	}
	for _, s := range []string{"", "()", "=(", allSigns} {
		checkOne(t, sign(s), api.ErrForm)
	}
}

func TestP1_2CheckTakes(t *testing.T) {
	if e := token.Check(nil); e != api.OK {
		t.Errorf("Check of nothing: %v", e)
	}
	if e := token.Check([]api.Token{}); e != api.OK {
		t.Errorf("Check of an empty list: %v", e)
	}
	if e := token.Check([]api.Token{word("func"), word("f"), sign("("), sign(")"), number("0"), quote(""), quote("a b")}); e != api.OK {
		t.Errorf("Check of ordinary tokens: %v", e)
	}
}

func TestP1_2CheckKinds(t *testing.T) {
	for _, k := range []int{0, 5, 6, -1, -4, 256 + api.Word, math.MaxInt, math.MinInt, 1<<32 + api.Word} {
		for _, s := range []string{"", "a", "1", "=", strings.Repeat("a", 300)} {
			checkOne(t, api.Token{Kind: k, Text: s}, api.ErrKind)
		}
	}
}

func TestP1_2CheckTextFitsKind(t *testing.T) {
	texts := []struct {
		text string
		ok   [5]bool // by kind
	}{
		{"a", [5]bool{api.Word: true, api.Quote: true}},
		{"abcdefgh", [5]bool{api.Word: true, api.Quote: true}},
		{"abcdefghi", [5]bool{api.Quote: true}},
		{"7", [5]bool{api.Digit: true, api.Quote: true}},
		{"07", [5]bool{api.Quote: true}},
		{"=", [5]bool{api.Sign: true, api.Quote: true}},
		{"", [5]bool{api.Quote: true}},
		{"A", [5]bool{api.Quote: true}},
		{"*", [5]bool{api.Quote: true}},
		{`"`, [5]bool{}},
		{`\`, [5]bool{}},
		{"\n", [5]bool{}},
		{strings.Repeat("1", api.MaxQuote), [5]bool{api.Quote: true}},
		{strings.Repeat("1", api.MaxQuote+1), [5]bool{}},
	}
	for _, c := range texts {
		for k := api.Word; k <= api.Sign; k++ {
			want := api.ErrForm
			if c.ok[k] {
				want = api.OK
			}
			checkOne(t, api.Token{Kind: k, Text: c.text}, want)
		}
	}
}

func TestP1_2CheckOrderOfErrors(t *testing.T) {
	noKind, noForm := api.Token{Kind: 9, Text: "?"}, word("?")
	full := slices.Repeat([]api.Token{word("a")}, api.MaxTokens)
	for i, c := range []struct {
		l    []api.Token
		want api.Errno
	}{
		{full, api.OK},
		{append(slices.Clone(full), word("a")), api.ErrSize},
		{append(slices.Clone(full), noKind), api.ErrSize},
		{append([]api.Token{noForm}, full...), api.ErrSize},
		{append(slices.Clone(full[1:]), noKind), api.ErrKind},
		{append(slices.Clone(full[1:]), noForm), api.ErrForm},
		{[]api.Token{noKind, noForm}, api.ErrKind},
		{[]api.Token{noForm, noKind}, api.ErrForm},
		{[]api.Token{word("a"), noForm, noKind}, api.ErrForm},
		{[]api.Token{word("a"), noKind, noForm}, api.ErrKind},
	} {
		if e := token.Check(c.l); e != c.want {
			t.Errorf("case %d: %v, want %v", i, e, c.want)
		}
	}
}

func TestP1_3Show(t *testing.T) {
	for _, c := range []struct {
		l    []api.Token
		want string
	}{
		{nil, ""},
		{[]api.Token{}, ""},
		{[]api.Token{word("a")}, "a"},
		{[]api.Token{number("0")}, "0"},
		{[]api.Token{quote("")}, `""`},
		{[]api.Token{quote(" a  b ")}, `" a  b "`},
		{[]api.Token{quote("x"), sign("=")}, `"x" =`},
		{[]api.Token{word("f"), sign("("), word("x"), sign(")"), sign("+"), number("12"), quote("q"), quote("r")}, `f ( x ) + 12 "q" "r"`},
	} {
		if s, e := token.Show(c.l); s != c.want || e != api.OK {
			t.Errorf("Show of %v: %q, %v", c.l, s, e)
		}
	}
}

func TestP1_3ShowOfTheLongest(t *testing.T) {
	one := strings.Repeat("x", api.MaxQuote)
	s, e := token.Show(slices.Repeat([]api.Token{quote(one)}, api.MaxTokens))
	want := strings.TrimSuffix(strings.Repeat(`"`+one+`" `, api.MaxTokens), " ")
	if s != want || e != api.OK {
		t.Errorf("Show of the most tokens: %d bytes, %v", len(s), e)
	}
}

func TestP1_3ShowRefuses(t *testing.T) {
	showRefused(t, slices.Repeat([]api.Token{word("a")}, api.MaxTokens+1), api.ErrSize)
	showRefused(t, []api.Token{word("a"), {Kind: 5, Text: "a"}}, api.ErrKind)
	showRefused(t, []api.Token{word("a"), word("A")}, api.ErrForm)
	showRefused(t, []api.Token{quote(`"`)}, api.ErrForm)
	showRefused(t, []api.Token{number("00"), {}}, api.ErrForm)
}

func TestP1_4Cut(t *testing.T) {
	cuts(t, "")
	cuts(t, " ")
	cuts(t, "     ")
	cuts(t, "a", word("a"))
	cuts(t, "  a  ", word("a"))
	cuts(t, "a b", word("a"), word("b"))
	cuts(t, "a1b2", word("a1b2"))
	cuts(t, " f(x)+1", word("f"), sign("("), word("x"), sign(")"), sign("+"), number("1"))
	cuts(t, "func f<t>(p: [t], q: m.a): int = p[0]",
		word("func"), word("f"), sign("<"), word("t"), sign(">"), sign("("),
		word("p"), sign(":"), sign("["), word("t"), sign("]"), sign(","),
		word("q"), sign(":"), word("m"), sign("."), word("a"), sign(")"), sign(":"),
		word("int"), sign("="), word("p"), sign("["), number("0"), sign("]"))
	cuts(t, "1.2", number("1"), sign("."), number("2"))
	cuts(t, "0 0", number("0"), number("0"))
	cuts(t, "==", sign("="), sign("="))
}

func TestP1_4CutQuotes(t *testing.T) {
	cuts(t, `""`, quote(""))
	cuts(t, `"a b" c`, quote("a b"), word("c"))
	cuts(t, `"a""b"`, quote("a"), quote("b"))
	cuts(t, `a"b"1"2"(`, word("a"), quote("b"), number("1"), quote("2"), sign("("))
	cuts(t, `" = ( A * ? "`, quote(" = ( A * ? "))
	cuts(t, `"`+strings.Repeat("~", api.MaxQuote)+`"`, quote(strings.Repeat("~", api.MaxQuote)))
	cutRefused(t, `"`+strings.Repeat("~", api.MaxQuote+1)+`"`, api.ErrForm)
	for _, s := range []string{`"`, `"a`, `a"`, `"a" "`, `"""`, `" `, `"\"`, `"\""`, "\"\n\"", "\"\x7f\"", "\"\x1f\"", `"é"`} {
		cutRefused(t, s, api.ErrForm)
	}
}

func TestP1_4CutOneByte(t *testing.T) {
	for i := range 256 {
		b := byte(i)
		s := string([]byte{b})
		switch {
		case b == ' ':
			cuts(t, s)
		case has(letters, b):
			cuts(t, s, word(s))
		case has(digits, b):
			cuts(t, s, number(s))
		case has(allSigns, b):
			cuts(t, s, sign(s))
			cuts(t, "a"+s+"0", word("a"), sign(s), number("0"))
		default:
			cutRefused(t, s, api.ErrForm)
			cutRefused(t, "a "+s+" a", api.ErrForm)
			cutRefused(t, "a"+s, api.ErrForm)
			cutRefused(t, s+"a", api.ErrForm)
			cutRefused(t, "1"+s+"1", api.ErrForm)
		}
	}
}

func TestP1_4CutTakesAllLettersAndDigits(t *testing.T) {
	cuts(t, "abcdefgh", word("abcdefgh"))
	for _, s := range []string{"abcdefghi", "abcdefg12", "12ab", "1a", "007", "a = 07", "1234567", strings.Repeat("9", api.MaxSource)} {
		cutRefused(t, s, api.ErrForm)
	}
}

func TestP1_4CutSizeOfText(t *testing.T) {
	cuts(t, strings.Repeat(" ", api.MaxSource))
	cuts(t, strings.Repeat(" ", api.MaxSource-1)+"a", word("a"))
	cutRefused(t, strings.Repeat(" ", api.MaxSource+1), api.ErrSize)
	cutRefused(t, strings.Repeat("?", api.MaxSource), api.ErrForm)
	cutRefused(t, strings.Repeat("?", api.MaxSource+1), api.ErrSize)
	cutRefused(t, strings.Repeat("a ", 1<<20), api.ErrSize)
}

func TestP1_4CutCountOfTokens(t *testing.T) {
	most := strings.Repeat("(", api.MaxTokens)
	cuts(t, most, slices.Repeat([]api.Token{sign("(")}, api.MaxTokens)...)
	cuts(t, most+"   ", slices.Repeat([]api.Token{sign("(")}, api.MaxTokens)...)
	cutRefused(t, most+"(", api.ErrSize)
	cutRefused(t, strings.Repeat("=", api.MaxSource), api.ErrSize)
	// A wrong form is told ahead of too many tokens, even if it stands behind them.
	cutRefused(t, most+"(?", api.ErrForm)
	cutRefused(t, most+`("`, api.ErrForm)
	cutRefused(t, most+"(((( 00", api.ErrForm)
}

// draw: numbers that look drawn, the same each time.
type draw uint64

func (d *draw) n(most int) int {
	*d = *d*6364136223846793005 + 1442695040888963407
	return int(uint64(*d>>33) % uint64(most))
}

func (d *draw) text(set string, most int) string {
	b := make([]byte, d.n(most+1))
	for i := range b {
		b[i] = set[d.n(len(set))]
	}
	return string(b)
}

func (d *draw) token() api.Token {
	switch d.n(4) {
	case 0:
		return word(letters[d.n(26):][:1] + d.text(letters+digits, api.MaxName-1))
	case 1:
		return number(digits[1+d.n(9):][:1] + d.text(digits, 5))
	case 2:
		return quote(d.text(letters+digits+allSigns+" ", api.MaxQuote))
	}
	return sign(allSigns[d.n(len(allSigns)):][:1])
}

func TestP1_4CutReadsWhatShowWrites(t *testing.T) {
	d := draw(7)
	for range 500 {
		l := make([]api.Token, d.n(60))
		for i := range l {
			l[i] = d.token()
		}
		s, e := token.Show(l)
		if e != api.OK {
			t.Fatalf("Show of %v: %v", l, e)
		}
		cuts(t, s, l...)
	}
}

// Whatever Cut is given, what it tells is what Check takes, and shown and cut again it is the same.
func TestP1_4CutOfAnything(t *testing.T) {
	d := draw(11)
	set := letters[:3] + "012 \"\"\\A\n\x00\xff" + allSigns
	taken := 0
	for range 20000 {
		s := d.text(set[:d.n(len(set))+1], 12)
		l, e := token.Cut(s)
		if e != api.OK {
			if len(l) != 0 || e != api.ErrForm {
				t.Fatalf("Cut of %q: %v, %v", s, l, e)
			}
			continue
		}
		taken++
		shown, e := token.Show(l)
		if e != api.OK {
			t.Fatalf("Cut of %q tells %v, which Show refuses: %v", s, l, e)
		}
		cuts(t, shown, l...)
	}
	if taken < 1000 {
		t.Errorf("only %d texts were taken", taken)
	}
}

func TestListsHandedInStayAsTheyWere(t *testing.T) {
	room := []api.Token{word("a"), quote("b c"), sign("="), word("spare")}
	before := slices.Clone(room)
	l := room[:3]
	token.Check(l)
	token.Show(l)
	if !slices.Equal(room, before) {
		t.Errorf("changed: %v", room)
	}
}

func TestAnswersShareNothing(t *testing.T) {
	a, _ := token.Cut("a b c")
	b, _ := token.Cut("a b c")
	for i := range a[:cap(a)] {
		a[:cap(a)][i] = sign("?")
	}
	if !slices.Equal(b, []api.Token{word("a"), word("b"), word("c")}) {
		t.Errorf("another answer changed: %v", b)
	}
	cuts(t, "a b c", word("a"), word("b"), word("c"))
}
