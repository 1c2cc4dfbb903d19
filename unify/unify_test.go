package unify_test

import (
	"slices"
	"strings"
	"testing"

	"scullery/api"
	"scullery/kind"
	"scullery/unify"
)

// lists: a text within so many brackets.
func lists(n int, s string) string {
	return strings.Repeat("[", n) + s + strings.Repeat("]", n)
}

// kinds: all of them that are lists of lists less than so many times.
func kinds(n int) []string {
	var l []string
	for i := range n {
		l = append(l, lists(i, "int"), lists(i, "text"), lists(i, "*"))
	}
	return l
}

// noKinds: texts that Check refuses, with what it tells.
func noKinds() map[string]api.Errno {
	return map[string]api.Errno{
		" ": api.ErrForm, "[]": api.ErrForm, "[": api.ErrForm, "ints": api.ErrForm, "**": api.ErrForm, "[*": api.ErrForm, "*]": api.ErrForm,
		"[*][*]": api.ErrForm, "[[int]": api.ErrForm, "\x00": api.ErrForm, "[\xff]": api.ErrForm, strings.Repeat("*", 600): api.ErrForm,
		lists(300, "*"): api.ErrSize, lists(299, "int"): api.ErrSize, strings.Repeat("a", 601): api.ErrSize, lists(1<<16, "*"): api.ErrSize,
	}
}

// answers: a call's answer is held against what is wanted.
func answers(t *testing.T, what string, got string, e api.Errno, want string, wantE api.Errno) {
	t.Helper()
	if got != want || e != wantE {
		t.Errorf("%.200q: %.40q, %v, want %.40q, %v", what, got, e, want, wantE)
	}
}

func matches(t *testing.T, pattern, is, bound, want string) {
	t.Helper()
	got, e := unify.Match(pattern, is, bound)
	answers(t, "Match "+pattern+" with "+is+", bound "+bound, got, e, want, api.OK)
}

func matchRefused(t *testing.T, pattern, is, bound string, want api.Errno) {
	t.Helper()
	got, e := unify.Match(pattern, is, bound)
	answers(t, "Match "+pattern+" with "+is+", bound "+bound, got, e, "", want)
}

func puts(t *testing.T, pattern, bound, want string) {
	t.Helper()
	got, e := unify.Put(pattern, bound)
	answers(t, "Put "+bound+" into "+pattern, got, e, want, api.OK)
}

func putRefused(t *testing.T, pattern, bound string, want api.Errno) {
	t.Helper()
	got, e := unify.Put(pattern, bound)
	answers(t, "Put "+bound+" into "+pattern, got, e, "", want)
}

// words: a list, its elements parted by blanks.
func words(s string) []string { return strings.Fields(s) }

func tells(t *testing.T, params, args, result, want string) {
	t.Helper()
	got, e := unify.All(words(params), words(args), result)
	answers(t, "All of "+params+" with "+args+", telling "+result, got, e, want, api.OK)
}

func allRefused(t *testing.T, params, args []string, result string, want api.Errno) {
	t.Helper()
	got, e := unify.All(params, args, result)
	answers(t, "All of "+strings.Join(params, " ")+" with "+strings.Join(args, " ")+", telling "+result, got, e, "", want)
}

func TestP4_1MatchBinds(t *testing.T) {
	for _, k := range kinds(5) {
		for n := range 5 {
			matches(t, lists(n, "*"), lists(n, k), "", k)
			matches(t, lists(n, "*"), lists(n, k), k, k)
		}
	}
}

// A variable is no list: it stands for what is left of the other one, be that a list or not.
func TestP4_1MatchLists(t *testing.T) {
	matches(t, "*", "[int]", "", "[int]")
	matches(t, "[*]", "[[int]]", "", "[int]")
	matches(t, "[[*]]", "[[int]]", "", "int")
	matchRefused(t, "[*]", "int", "", api.ErrMatch)
	matchRefused(t, "[[*]]", "[text]", "", api.ErrMatch)
	matchRefused(t, "[[*]]", "text", "text", api.ErrMatch)
}

func TestP4_1MatchWithoutVariable(t *testing.T) {
	for _, k := range kinds(4) {
		for _, other := range kinds(4) {
			for _, bound := range append(kinds(3), "") {
				if kind.Open(k) {
					continue
				}
				if k == other {
					matches(t, k, other, bound, bound)
				} else {
					matchRefused(t, k, other, bound, api.ErrMatch)
				}
			}
		}
	}
}

// The other one's variable stands for nothing: it is a kind like others.
func TestP4_1MatchOthersVariable(t *testing.T) {
	matches(t, "*", "*", "", "*")
	matches(t, "[*]", "[*]", "*", "*")
	matches(t, "*", "[*]", "", "[*]")
	matchRefused(t, "*", "*", "int", api.ErrMatch)
	matchRefused(t, "*", "int", "*", api.ErrMatch)
	matchRefused(t, "int", "*", "", api.ErrMatch)
	matchRefused(t, "int", "*", "int", api.ErrMatch)
	matchRefused(t, "[*]", "*", "", api.ErrMatch)
	matchRefused(t, "[*]", "*", "*", api.ErrMatch)
	matchRefused(t, "[text]", "[*]", "text", api.ErrMatch)
}

func TestP4_1MatchBoundAlready(t *testing.T) {
	for _, k := range kinds(4) {
		for _, bound := range kinds(4) {
			for n := range 3 {
				if k == bound {
					matches(t, lists(n, "*"), lists(n, k), bound, k)
				} else {
					matchRefused(t, lists(n, "*"), lists(n, k), bound, api.ErrMatch)
				}
			}
		}
	}
}

func TestP4_1MatchRefusesNoKinds(t *testing.T) {
	for s, e := range noKinds() {
		matchRefused(t, s, "int", "", e)
		matchRefused(t, "*", s, "", e)
		matchRefused(t, "*", "int", s, e)
		matchRefused(t, s, s, s, e)
	}
	matchRefused(t, "", "int", "", api.ErrForm)
	matchRefused(t, "*", "", "", api.ErrForm)
	matchRefused(t, "", "", "", api.ErrForm)
}

// Of the pattern is told first, then of the other one, then of bound, then whether they fit.
func TestP4_1MatchOrderOfErrors(t *testing.T) {
	long, bad := lists(300, "*"), "[]"
	matchRefused(t, long, bad, bad, api.ErrSize)
	matchRefused(t, bad, long, long, api.ErrForm)
	matchRefused(t, "*", long, bad, api.ErrSize)
	matchRefused(t, "*", bad, long, api.ErrForm)
	matchRefused(t, "int", "text", long, api.ErrSize)
	matchRefused(t, "int", "text", bad, api.ErrForm)
	matchRefused(t, "int", "int", long, api.ErrSize)
	matchRefused(t, "int", "int", bad, api.ErrForm)
}

func TestP4_1MatchLongest(t *testing.T) {
	matches(t, lists(299, "*"), lists(298, "[*]"), "", "*")
	matches(t, lists(298, "*"), lists(298, "text"), "text", "text")
	matches(t, "*", lists(298, "text"), "", lists(298, "text"))
	matches(t, "*", lists(298, "text"), lists(298, "text"), lists(298, "text"))
	matches(t, lists(298, "int"), lists(298, "int"), lists(299, "*"), lists(299, "*"))
	matchRefused(t, lists(298, "int"), lists(298, "text"), "", api.ErrMatch)
	matchRefused(t, lists(299, "*"), lists(298, "text"), "", api.ErrMatch)
	matchRefused(t, lists(298, "*"), lists(297, "text"), "", api.ErrMatch)
}

func TestP4_2Put(t *testing.T) {
	for _, k := range kinds(5) {
		for n := range 5 {
			puts(t, lists(n, "*"), k, lists(n, k))
		}
	}
}

// Without a variable what it would stand for is not even looked at.
func TestP4_2PutWithoutVariable(t *testing.T) {
	for n := range 5 {
		for _, base := range []string{"int", "text"} {
			puts(t, lists(n, base), "", lists(n, base))
			puts(t, lists(n, base), "[*]", lists(n, base))
			for s := range noKinds() {
				puts(t, lists(n, base), s, lists(n, base))
			}
		}
	}
	puts(t, lists(298, "text"), lists(298, "text"), lists(298, "text"))
}

func TestP4_2PutRefusesNoKinds(t *testing.T) {
	for s, e := range noKinds() {
		putRefused(t, s, "int", e)
		putRefused(t, "*", s, e)
		putRefused(t, "[[*]]", s, e)
	}
	putRefused(t, "", "int", api.ErrForm)
	putRefused(t, "*", "", api.ErrForm)
	putRefused(t, "[*]", "", api.ErrForm)
}

func TestP4_2PutOrderOfErrors(t *testing.T) {
	long, bad := lists(300, "*"), "[]"
	putRefused(t, long, bad, api.ErrSize)
	putRefused(t, bad, long, api.ErrForm)
	// A text out of form is told of ahead of the length that would come of it.
	putRefused(t, lists(299, "*"), strings.Repeat("a", 600), api.ErrForm)
	putRefused(t, lists(299, "*"), "ints", api.ErrForm)
}

func TestP4_2PutSize(t *testing.T) {
	for n := 290; n < 300; n++ {
		for m := range 12 {
			for _, base := range []string{"int", "text", "*"} {
				want := lists(n+m, base)
				if len(want) > api.MaxKind {
					putRefused(t, lists(n, "*"), lists(m, base), api.ErrSize)
					putRefused(t, lists(m, "*"), lists(n, base), api.ErrSize)
				} else {
					puts(t, lists(n, "*"), lists(m, base), want)
					puts(t, lists(m, "*"), lists(n, base), want)
				}
			}
		}
	}
	puts(t, lists(298, "*"), "text", lists(298, "text"))
	putRefused(t, lists(299, "*"), "int", api.ErrSize)
	putRefused(t, lists(298, "*"), "[text]", api.ErrSize)
	putRefused(t, lists(299, "*"), lists(299, "*"), api.ErrSize)
	puts(t, lists(299, "*"), "*", lists(299, "*"))
}

func TestP4_3All(t *testing.T) {
	tells(t, "", "", "int", "int")
	tells(t, "", "", "[[text]]", "[[text]]")
	tells(t, "int", "int", "text", "text")
	tells(t, "*", "int", "*", "int")
	tells(t, "*", "[int]", "[*]", "[[int]]")
	tells(t, "[*]", "[text]", "*", "text")
	tells(t, "* [*]", "int [int]", "[[*]]", "[[int]]")
	tells(t, "[*] *", "[[int]] [int]", "*", "[int]")
	tells(t, "int * text", "int text text", "[*]", "[text]")
	tells(t, "* int", "text int", "*", "text")
	tells(t, "*", "*", "[*]", "[*]")
	tells(t, "*", "int", "text", "text")
}

// What the ones ahead left is kept through those that have no variable, and held against those that have.
func TestP4_3AllOneByOne(t *testing.T) {
	tells(t, "* int int *", "text int int text", "*", "text")
	tells(t, "int * int", "int text int", "*", "text")
	for _, c := range []struct{ params, args string }{
		{"* *", "int text"},
		{"* [*]", "int int"},
		{"* [*]", "[int] [int]"},
		{"* int *", "text int int"},
		{"[*] text *", "[int] text [int]"},
		{"int", "text"},
		{"int *", "text int"},
		{"* int", "int text"},
		{"[*]", "int"},
		{"int", "*"},
	} {
		allRefused(t, words(c.params), words(c.args), "int", api.ErrMatch)
		allRefused(t, words(c.params), words(c.args), "*", api.ErrMatch)
	}
}

// Each place among as many as there may be is looked at.
func TestP4_3AllPlaces(t *testing.T) {
	params := slices.Repeat([]string{"[*]"}, api.MaxArgs)
	for n := 1; n <= api.MaxArgs; n++ {
		args := slices.Repeat([]string{"[text]"}, n)
		got, e := unify.All(params[:n], args, "[*]")
		answers(t, "as many as there may be", got, e, "[text]", api.OK)
		for at := range n {
			spoiled := slices.Clone(args)
			spoiled[at] = "text"
			allRefused(t, params[:n], spoiled, "[*]", api.ErrMatch)
			spoiled[at] = "texts"
			allRefused(t, params[:n], spoiled, "[*]", api.ErrForm)
		}
	}
}

func TestP4_3AllNumbers(t *testing.T) {
	for n := range 2 * api.MaxArgs {
		for m := range 2 * api.MaxArgs {
			params, args := slices.Repeat([]string{"int"}, n), slices.Repeat([]string{"int"}, m)
			if n > api.MaxArgs || m > api.MaxArgs {
				allRefused(t, params, args, "text", api.ErrSize)
			} else if n != m {
				allRefused(t, params, args, "text", api.ErrNone)
			} else if got, e := unify.All(params, args, "text"); got != "text" || e != api.OK {
				t.Errorf("All of %d: %q, %v", n, got, e)
			}
		}
	}
	allRefused(t, make([]string, 1<<16), nil, "int", api.ErrSize)
	allRefused(t, nil, make([]string, 1<<16), "int", api.ErrSize)
}

func TestP4_3AllRefusesNoKinds(t *testing.T) {
	for s, e := range noKinds() {
		allRefused(t, []string{s}, []string{"int"}, "int", e)
		allRefused(t, []string{"*"}, []string{s}, "int", e)
		allRefused(t, []string{"*"}, []string{"int"}, s, e)
		allRefused(t, nil, nil, s, e)
		allRefused(t, []string{"*", s}, []string{"int", "int"}, "*", e)
	}
	allRefused(t, []string{""}, []string{"int"}, "int", api.ErrForm)
	allRefused(t, []string{"*"}, []string{""}, "int", api.ErrForm)
	allRefused(t, []string{"*"}, []string{"int"}, "", api.ErrForm)
	allRefused(t, nil, nil, "", api.ErrForm)
}

func TestP4_3AllStandsForNothing(t *testing.T) {
	for n := range 5 {
		allRefused(t, nil, nil, lists(n, "*"), api.ErrMatch)
		allRefused(t, words("int [text]"), words("int [text]"), lists(n, "*"), api.ErrMatch)
	}
	allRefused(t, nil, nil, lists(299, "*"), api.ErrMatch)
}

func TestP4_3AllSize(t *testing.T) {
	tells(t, "*", "text", lists(298, "*"), lists(298, "text"))
	tells(t, "*", lists(298, "text"), "*", lists(298, "text"))
	tells(t, "*", lists(298, "text"), "int", "int")
	tells(t, lists(200, "*"), lists(298, "int"), lists(200, "*"), lists(298, "int"))
	allRefused(t, words("*"), words("int"), lists(299, "*"), api.ErrSize)
	allRefused(t, words("*"), words(lists(298, "text")), "[*]", api.ErrSize)
}

func TestP4_3AllOrderOfErrors(t *testing.T) {
	long, bad := lists(300, "*"), "[]"
	many := slices.Repeat([]string{bad}, api.MaxArgs+1)
	allRefused(t, many, nil, bad, api.ErrSize)
	allRefused(t, nil, many, bad, api.ErrSize)
	allRefused(t, many, many, bad, api.ErrSize)
	allRefused(t, []string{bad}, nil, long, api.ErrNone)
	allRefused(t, nil, []string{long}, bad, api.ErrNone)
	// The ones ahead are told of ahead, whatever is wrong with those behind, and with the result.
	allRefused(t, []string{"int", long}, []string{"text", "int"}, bad, api.ErrMatch)
	allRefused(t, []string{"int", long}, []string{bad, "int"}, bad, api.ErrForm)
	allRefused(t, []string{"int", "*"}, []string{"int", long}, bad, api.ErrSize)
	allRefused(t, []string{"int"}, []string{"text"}, bad, api.ErrMatch)
	allRefused(t, []string{"int"}, []string{"text"}, long, api.ErrMatch)
	allRefused(t, nil, nil, long, api.ErrSize)
	allRefused(t, nil, nil, "[**]", api.ErrForm)
}

func TestP4_3AllLeavesLists(t *testing.T) {
	params, args := words("* [*] int spare"), words("int [int] int spare")
	if got, e := unify.All(params[:3], args[:3], "*"); got != "int" || e != api.OK {
		t.Errorf("%q, %v", got, e)
	}
	if !slices.Equal(params, words("* [*] int spare")) || !slices.Equal(args, words("int [int] int spare")) {
		t.Errorf("the lists are %q, %q", params, args)
	}
}
