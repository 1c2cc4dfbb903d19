package kind_test

import (
	"strings"
	"testing"

	"scullery/api"
	"scullery/kind"
)

// lists: a text within so many brackets.
func lists(n int, s string) string {
	return strings.Repeat("[", n) + s + strings.Repeat("]", n)
}

// bases: the kinds that are no lists.
func bases() []string { return []string{"int", "text", "*"} }

// noKinds: texts in no form, all of them short enough for a kind.
func noKinds() []string {
	return []string{
		"", " ", "[", "]", "[]", "[[]]", "][", "]int[", "]*[", "[[", "]]", "[]]", "[[]",
		"in", "nt", "ints", "iint", "Int", "INT", "int ", " int", "int\n", "int\x00", "\x00", "tex", "texts", "Text", "a", "0",
		"**", "***", "*int", "int*", "* ", " *", "*\n", "textint", "int,text", "inttext",
		"[int", "int]", "[[int]", "[int]]", "[*", "*]", "[text]]]", "[[[text]",
		"[int][int]", "[int]int", "int[int]", "[int,int]", "[*]*", "*[*]", "[*][*]", "[[*][*]]", "[[int]int]",
		"[ int]", "[int ]", "[ ]", " [int]", "[int] ", "[**]", "[a]", "[in]", "(int)", "{int}", "<*>", "[int)", "(int]",
		"é", "[é]", "\xff", "[\xff]", "＊", "[＊]", "\\*", "\"int\"",
	}
}

func checks(t *testing.T, s string, want api.Errno) {
	t.Helper()
	if e := kind.Check(s); e != want {
		t.Errorf("Check of %.40q (%d bytes): %v, want %v", s, len(s), e, want)
	}
}

func elemIs(t *testing.T, s, want string) {
	t.Helper()
	if in, ok := kind.Elem(s); !ok || in != want {
		t.Errorf("Elem of %.40q: %.40q, %v, want %.40q", s, in, ok, want)
	}
}

func noElem(t *testing.T, s string) {
	t.Helper()
	if in, ok := kind.Elem(s); ok || in != "" {
		t.Errorf("Elem of %.40q: %.40q, %v", s, in, ok)
	}
}

func listRefused(t *testing.T, s string, want api.Errno) {
	t.Helper()
	if l, e := kind.ListOf(s); e != want || l != "" {
		t.Errorf("ListOf %.40q (%d bytes): %.40q, %v, want %v", s, len(s), l, e, want)
	}
}

func TestP3_1CheckTakes(t *testing.T) {
	for _, base := range bases() {
		for n := range 20 {
			checks(t, lists(n, base), api.OK)
		}
	}
}

func TestP3_1CheckForm(t *testing.T) {
	for _, s := range noKinds() {
		checks(t, s, api.ErrForm)
		checks(t, "["+s+"]", api.ErrForm)
		checks(t, lists(250, s), api.ErrForm)
	}
}

func TestP3_1CheckBrackets(t *testing.T) {
	for _, base := range bases() {
		for open := range 8 {
			for closed := range 8 {
				want := api.ErrForm
				if open == closed {
					want = api.OK
				}
				checks(t, strings.Repeat("[", open)+base+strings.Repeat("]", closed), want)
			}
		}
	}
}

func TestP3_1CheckBytes(t *testing.T) {
	for i := range 256 {
		one := string([]byte{byte(i)})
		alone := api.ErrForm
		if one == "*" {
			alone = api.OK
		}
		checks(t, one, alone)
		checks(t, "["+one+"]", alone)
		checks(t, "int"+one, api.ErrForm)
		checks(t, one+"text", api.ErrForm)
		if one != "[" {
			checks(t, one+"int]", api.ErrForm)
		}
		if one != "]" {
			checks(t, "[int"+one, api.ErrForm)
		}
	}
}

// Each single byte of a kind that is another one, or missing, makes it none.
func TestP3_1CheckSpoiled(t *testing.T) {
	for _, s := range []string{"int", "text", "[[int]]", "[[text]]", "[[*]]"} {
		for i := range s {
			checks(t, s[:i]+"x"+s[i+1:], spoiled(s, i))
			checks(t, s[:i]+s[i+1:], api.ErrForm)
			checks(t, s[:i]+" "+s[i:], api.ErrForm)
		}
	}
}

// spoiled: the one byte of text that is an x is not spoiled by one.
func spoiled(s string, at int) api.Errno {
	if s[at] == 'x' {
		return api.OK
	}
	return api.ErrForm
}

func TestP3_1CheckSize(t *testing.T) {
	for _, base := range bases() {
		for n := 290; n < 310; n++ {
			want := api.OK
			if len(base)+2*n > api.MaxKind {
				want = api.ErrSize
			}
			checks(t, lists(n, base), want)
		}
	}
	checks(t, lists(298, "text"), api.OK)
	checks(t, lists(299, "text"), api.ErrSize)
	checks(t, lists(298, "int"), api.OK)
	checks(t, lists(299, "int"), api.ErrSize)
	checks(t, lists(299, "*"), api.OK)
	checks(t, lists(300, "*"), api.ErrSize)
}

func TestP3_1CheckSizeAheadOfForm(t *testing.T) {
	for _, one := range []string{"a", "[", "]", "*", " ", "\x00", "\xff"} {
		checks(t, strings.Repeat(one, api.MaxKind), api.ErrForm)
		checks(t, strings.Repeat(one, api.MaxKind+1), api.ErrSize)
		checks(t, strings.Repeat(one, 1<<20), api.ErrSize)
	}
	checks(t, lists(300, ""), api.ErrForm)
	checks(t, lists(301, ""), api.ErrSize)
	checks(t, lists(1<<20, "int"), api.ErrSize)
}

func TestP3_2ElemOfLists(t *testing.T) {
	for _, base := range bases() {
		for n := range 20 {
			elemIs(t, lists(n+1, base), lists(n, base))
		}
		noElem(t, base)
	}
}

// Elem looks at the brackets alone: neither the form of what is between nor its length is asked.
func TestP3_2ElemOfOthers(t *testing.T) {
	for _, s := range append(noKinds(), lists(300, "*"), strings.Repeat("a", 1<<20)) {
		if s != "" {
			elemIs(t, "["+s+"]", s)
		}
	}
	elemIs(t, "[int][int]", "int][int")
	elemIs(t, "[]]", "]")
	elemIs(t, "[[]", "[")
	elemIs(t, "[[]]", "[]")
	elemIs(t, "[ ]", " ")
	elemIs(t, "[\x00]", "\x00")
}

func TestP3_2ElemOfNone(t *testing.T) {
	for _, s := range []string{"", "[", "]", "[]", "][", "[[", "]]", "*", "a", "in", "[int", "int]", "]int[", "[int]a", "a[int]",
		"[int] ", " [int]", "(int)", "[int)", "(int]", "{*}", "abc", "[[[", "]]]", "]a]", "[a["} {
		noElem(t, s)
	}
	for i := range 256 {
		one := string([]byte{byte(i)})
		noElem(t, one)
		noElem(t, "["+one)
		noElem(t, one+"]")
		if one != "[" {
			noElem(t, one+"int]")
		}
		if one != "]" {
			noElem(t, "[int"+one)
		}
	}
}

func TestP3_2ListOf(t *testing.T) {
	for _, base := range bases() {
		for n := range 20 {
			s := lists(n, base)
			l, e := kind.ListOf(s)
			if e != api.OK || l != "["+s+"]" {
				t.Errorf("ListOf %q: %q, %v", s, l, e)
			}
			checks(t, l, api.OK)
			elemIs(t, l, s)
		}
	}
}

func TestP3_2ListOfForm(t *testing.T) {
	for _, s := range noKinds() {
		listRefused(t, s, api.ErrForm)
		listRefused(t, lists(3, s), api.ErrForm)
	}
}

func TestP3_2ListOfSize(t *testing.T) {
	for _, base := range bases() {
		for n := 290; n < 310; n++ {
			s := lists(n, base)
			if len(s)+2 > api.MaxKind {
				listRefused(t, s, api.ErrSize)
				continue
			}
			if l, e := kind.ListOf(s); e != api.OK || l != lists(n+1, base) {
				t.Errorf("ListOf %d bytes: %d bytes, %v", len(s), len(l), e)
			}
		}
	}
	if l, e := kind.ListOf(lists(297, "text")); e != api.OK || len(l) != api.MaxKind {
		t.Errorf("ListOf a kind of 598 bytes: %d bytes, %v", len(l), e)
	}
	listRefused(t, lists(1<<20, "int"), api.ErrSize)
}

// A list that would be too long is told only of kinds.
func TestP3_2ListOfOrderOfErrors(t *testing.T) {
	for n := api.MaxKind - 3; n <= api.MaxKind; n++ {
		listRefused(t, strings.Repeat("a", n), api.ErrForm)
		listRefused(t, strings.Repeat("[", n), api.ErrForm)
	}
	listRefused(t, strings.Repeat("a", api.MaxKind+1), api.ErrSize)
	listRefused(t, strings.Repeat("a", 1<<20), api.ErrSize)
}

func TestP3_2Open(t *testing.T) {
	for n := range 20 {
		for base, want := range map[string]bool{"int": false, "text": false, "*": true} {
			if kind.Open(lists(n, base)) != want {
				t.Errorf("Open of %q: %v", lists(n, base), !want)
			}
		}
	}
	// Any text may be asked, be it a kind or not.
	for _, s := range append(noKinds(), strings.Repeat("*", 1<<20), strings.Repeat("a", 1<<20), strings.Repeat("a", 1<<20)+"*") {
		if kind.Open(s) != strings.Contains(s, "*") {
			t.Errorf("Open of %.40q: %v", s, kind.Open(s))
		}
	}
	for i := range 256 {
		for _, s := range []string{string([]byte{byte(i)}), "[" + string([]byte{byte(i)}) + "]", "int" + string([]byte{byte(i)})} {
			if kind.Open(s) != (i == '*') {
				t.Errorf("Open of %q: %v", s, kind.Open(s))
			}
		}
	}
}
