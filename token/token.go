// Package token: lines, cut into words, numbers, quotes and signs.
package token

import (
	"strings"

	"scullery/api"
)

// signs: each byte of it is one.
const signs = "=()[],+.:<>"

// Word: may it be one?
func Word(s string) bool {
	if len(s) == 0 || len(s) > api.MaxName {
		return false
	}
	return letter(s[0]) && every(s, wordByte)
}

// Quotable: may it be quoted?
func Quotable(s string) bool {
	return len(s) <= api.MaxQuote && every(s, quoteByte)
}

// Check tokens.
func Check(l []api.Token) api.Errno {
	if len(l) > api.MaxTokens {
		return api.ErrSize
	}
	for _, t := range l {
		if e := checkOne(t); e != api.OK {
			return e
		}
	}
	return api.OK
}

// Cut a line into tokens.
func Cut(s string) ([]api.Token, api.Errno) {
	if len(s) > api.MaxSource {
		return nil, api.ErrSize
	}
	var l []api.Token
	run := runOf(s)
	at := run(0, blank)
	for at < len(s) {
		t, end := tokenAt(s, at)
		if checkOne(t) != api.OK {
			return nil, api.ErrForm
		}
		l = append(l, t)
		at = run(end, blank)
	}
	// Only here, as a wrong form at the very end is told ahead of too many tokens.
	if len(l) > api.MaxTokens {
		return nil, api.ErrSize
	}
	return l, api.OK
}

// Show tokens, with a blank between.
func Show(l []api.Token) (string, api.Errno) {
	if e := Check(l); e != api.OK {
		return "", e
	}
	var b strings.Builder
	for i, t := range l {
		if i > 0 {
			b.WriteByte(' ')
		}
		b.WriteString(written(t))
	}
	return b.String(), api.OK
}

func checkOne(t api.Token) api.Errno {
	fits := false
	switch t.Kind {
	case api.Word:
		fits = Word(t.Text)
	case api.Digit:
		fits = number(t.Text)
	case api.Quote:
		fits = Quotable(t.Text)
	case api.Sign:
		fits = sign(t.Text)
	default:
		return api.ErrKind
	}
	if !fits {
		return api.ErrForm
	}
	return api.OK
}

// tokenAt: what begins at a place, and where it ends. A quote without an end is a token of no kind, which is refused as any other wrong one.
func tokenAt(s string, at int) (api.Token, int) {
	run := runOf(s)
	switch b := s[at]; {
	case b == '"':
		end := run(at+1, func(b byte) bool { return b != '"' })
		if end == len(s) {
			return api.Token{}, end
		}
		return tokenOf(api.Quote, s[at+1:end]), end + 1
	case letter(b):
		end := run(at, wordByte)
		return tokenOf(api.Word, s[at:end]), end
	case digit(b):
		// Letters belong to it too, so that 2e is no number, rather than one with a word behind it.
		end := run(at, wordByte)
		return tokenOf(api.Digit, s[at:end]), end
	}
	return tokenOf(api.Sign, s[at:at+1]), at + 1
}

// tokenOf copies its text, as what is answered shares no memory with the line.
func tokenOf(kind int, text string) api.Token {
	return api.Token{Kind: kind, Text: strings.Clone(text)}
}

func written(t api.Token) string {
	if t.Kind == api.Quote {
		return `"` + t.Text + `"`
	}
	return t.Text
}

// runOf a text: a look at its bytes, from a place on as long as they fit: the first place behind them.
func runOf(s string) func(from int, fits func(b byte) bool) int {
	return func(from int, fits func(b byte) bool) int {
		at := from
		for at < len(s) && fits(s[at]) {
			at++
		}
		return at
	}
}

func every(s string, fits func(b byte) bool) bool {
	return runOf(s)(0, fits) == len(s)
}

func number(s string) bool {
	if len(s) == 0 || len(s) > 1 && s[0] == '0' {
		return false
	}
	n := 0
	return every(s, func(b byte) bool {
		// The bound is asked digit by digit: a text of any length does not wrap n round.
		n = n*10 + int(b) - '0'
		return digit(b) && n <= api.MaxNumber
	})
}

func sign(s string) bool {
	return len(s) == 1 && strings.IndexByte(signs, s[0]) >= 0
}

func letter(b byte) bool { return 'a' <= b && b <= 'z' }

func digit(b byte) bool { return '0' <= b && b <= '9' }

func blank(b byte) bool { return b == ' ' }

func wordByte(b byte) bool { return letter(b) || digit(b) }

func quoteByte(b byte) bool { return 32 <= b && b <= 126 && b != '"' && b != '\\' }
