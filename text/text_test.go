package text_test

import (
	"strings"
	"testing"

	"vaultage/api"
	"vaultage/text"
)

func has(s string) api.Value { return api.Value{There: true, Bytes: s} }

func wantShow(t *testing.T, s, shown string) {
	t.Helper()
	if got := text.Show(s); got != shown {
		t.Errorf("Show(%q) = %q, want %q", s, got, shown)
	}
}

func wantMean(t *testing.T, shown, s string) {
	t.Helper()
	if got, ok := text.Mean(shown); got != s || !ok {
		t.Errorf("Mean(%q) = %q, %v, want %q, true", shown, got, ok, s)
	}
}

// wantNothing: what means nothing is told as an empty text.
func wantNothing(t *testing.T, shown string) {
	t.Helper()
	if got, ok := text.Mean(shown); got != "" || ok {
		t.Errorf("Mean(%q) = %q, %v, want nothing", shown, got, ok)
	}
}

func wantValue(t *testing.T, v api.Value, shown string) {
	t.Helper()
	if got := text.Value(v); got != shown {
		t.Errorf("Value(%#v) = %q, want %q", v, got, shown)
	}
}

type example struct{ name, s, shown string }

func examples() []example {
	return []example{
		{"no bytes", "", ""},
		{"letters", "abcXYZ", "abcXYZ"},
		{"digits and signs", "0189=-#\"'", "0189=-#\"'"},
		{"a blank", " ", `\20`},
		{"a blank between", "a b", `a\20b`},
		{"blanks at both ends", " a ", `\20a\20`},
		{"a newline", "\n", `\0a`},
		{"a tab", "\t", `\09`},
		{"the lowest byte", "\x00", `\00`},
		{"the greatest byte", "\xff", `\ff`},
		{"the last ahead of those as they are", "\x20", `\20`},
		{"the first as it is", "\x21", "!"},
		{"the last as it is", "\x7e", "~"},
		{"the first behind those as they are", "\x7f", `\7f`},
		{"the first of 128", "\x80", `\80`},
		{"a backslash", `\`, `\5c`},
		{"those beside a backslash", `[\]`, `[\5c]`},
		{"backslashes", `\\`, `\5c\5c`},
		{"a slash", "/", "/"},
		{"what looks like a byte", `\20`, `\5c20`},
		{"what looks like a shown backslash", `\5c`, `\5c5c`},
		{"digits behind a byte", "\x0a0a", `\0a0a`},
		{"the higher one first", "\x1f\xf1", `\1f\f1`},
		{"all digits", "\x01\x8a\x9b\xcd\xef", `\01\8a\9b\cd\ef`},
		{"a rune of two bytes", "\u00e9", `\c3\a9`},
		{"a rune of four bytes", "\U0001f600", `\f0\9f\98\80`},
		{"bytes that are no rune", "\xc3a", `\c3a`},
		{"the bytes of the rune of bad ones", "\xef\xbf\xbd", `\ef\bf\bd`},
	}
}

func TestShow(t *testing.T) {
	for _, e := range examples() {
		t.Run(e.name, func(t *testing.T) { wantShow(t, e.s, e.shown) })
	}
}

func TestMean(t *testing.T) {
	for _, e := range examples() {
		t.Run(e.name, func(t *testing.T) { wantMean(t, e.shown, e.s) })
	}
}

func TestMeanOfNothing(t *testing.T) {
	for _, e := range []struct{ name, shown string }{
		{"a blank", " "},
		{"a blank between", "a b"},
		{"a blank at the end", "a "},
		{"a newline", "\n"},
		{"the lowest byte", "\x00"},
		{"the first behind those as they are", "\x7f"},
		{"the greatest byte", "\xff"},
		{"a rune", "\u00e9"},
		{"a backslash alone", `\`},
		{"a backslash at the end", `a\`},
		{"a digit alone", `\2`},
		{"a digit alone at the end", `a\f`},
		{"two backslashes", `\\`},
		{"a backslash shown by one of itself", `\\5c`},
		{"a backslash behind a digit", `\2\20`},
		{"high letters", `\FF`},
		{"a high letter first", `\Ff`},
		{"a high letter last", `\fF`},
		{"a letter that is no digit, first", `\g0`},
		{"a letter that is no digit, last", `\0g`},
		{"the signs beside the digits, first", `\/0`},
		{"the signs beside the digits, last", `\0:`},
		{"the signs beside the letters, first", "\\`0"},
		{"a sign ahead of a digit", `\+1`},
		{"a blank and a digit", `\ 1`},
		{"another way of writing a byte", `\x20`},
		{"a newline by its letter", `\n`},
		{"a letter by its number", `\41`},
		{"the first as it is, by its number", `\21`},
		{"the last as it is, by its number", `\7e`},
		{"those beside a backslash, by their numbers", `\5b`},
		{"those beside a backslash, by their numbers, too", `\5d`},
		{"a fault at the end alone", strings.Repeat(`a\20`, 50) + `\4`},
		{"a fault at the beginning alone", ` ` + strings.Repeat(`a\20`, 50)},
	} {
		t.Run(e.name, func(t *testing.T) { wantNothing(t, e.shown) })
	}
}

func TestValue(t *testing.T) {
	for _, e := range []struct {
		name  string
		v     api.Value
		shown string
	}{
		{"no value", api.Value{}, "-"},
		{"a value without bytes", has(""), "="},
		{"a value", has("ab"), "=ab"},
		{"a value with a blank", has("a b"), `=a\20b`},
		{"a value like no value", has("-"), "=-"},
		{"a value like a text of one", has("=a"), "==a"},
		{"the longest value", has(strings.Repeat("\xff", 12)), "=" + strings.Repeat(`\ff`, 12)},
		{"one that is too long", has(strings.Repeat("x", 13)), "=xxxxxxxxxxxxx"},
		{"bytes, but not there", api.Value{Bytes: "x"}, "-"},
		{"a blank, but not there", api.Value{Bytes: " "}, "-"},
	} {
		t.Run(e.name, func(t *testing.T) { wantValue(t, e.v, e.shown) })
	}
}

// TestValueOfExamples: behind = stands what Show shows.
func TestValueOfExamples(t *testing.T) {
	for _, e := range examples() {
		wantValue(t, has(e.s), "="+e.shown)
		wantValue(t, api.Value{Bytes: e.s}, "-")
	}
}

func TestLongTexts(t *testing.T) {
	const count = 1 << 20
	bytes := strings.Repeat("a \\\xff", count)
	shown := strings.Repeat(`a\20\5c\ff`, count)
	// Told without the texts, which would be all that is to be read.
	if text.Show(bytes) != shown {
		t.Errorf("a long text is shown otherwise")
	}
	if got, ok := text.Mean(shown); got != bytes || !ok {
		t.Errorf("a long text means something else")
	}
	if got, ok := text.Mean(shown + `\`); got != "" || ok {
		t.Errorf("a long text with a fault at its end means something")
	}
}
