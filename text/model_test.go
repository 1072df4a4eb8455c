package text_test

import (
	"fmt"
	"math/rand"
	"strings"
	"testing"

	"vaultage/api"
	"vaultage/chain"
	"vaultage/text"
)

// shownByte is point 1 of the chapter, of one byte.
func shownByte(c byte) string {
	if c < 33 || c > 126 || c == 92 {
		return fmt.Sprintf("\\%02x", c)
	}
	return string([]byte{c})
}

// byteTexts are all bytes, by what they are shown as.
var byteTexts = func() map[string]string {
	all := map[string]string{}
	for c := range 256 {
		all[shownByte(byte(c))] = string([]byte{byte(c)})
	}
	return all
}()

// shown is that point, of all bytes one behind the other.
func shown(s string) string {
	var parts []string
	for _, c := range []byte(s) {
		parts = append(parts, shownByte(c))
	}
	return strings.Join(parts, "")
}

// rows are all texts of at most that many of these bytes.
func rows(letters string, most int) []string {
	all := []string{""}
	for from := 0; most > 0; most-- {
		to := len(all)
		for _, s := range all[from:to] {
			for _, c := range []byte(letters) {
				all = append(all, s+string([]byte{c}))
			}
		}
		from = to
	}
	return all
}

// meanings are what has a text of at most that many bytes, by that text: it
// shows bytes instead of reading texts, as the program does.
func meanings(most int) map[string]string {
	all := map[string]string{}
	var goOn func(s, told string)
	goOn = func(s, told string) {
		all[told] = s
		for c := range 256 {
			if more := told + shownByte(byte(c)); len(more) <= most {
				goOn(s+string([]byte{byte(c)}), more)
			}
		}
	}
	goOn("", "")
	return all
}

// holdMean holds Mean against all meanings of texts that are short enough.
func holdMean(t *testing.T, told string, all map[string]string) {
	t.Helper()
	if s, ok := all[told]; ok {
		wantMean(t, told, s)
	} else {
		wantNothing(t, told)
	}
}

func allBytes() string {
	b := make([]byte, 256)
	for i := range b {
		b[i] = byte(i)
	}
	return string(b)
}

// TestEveryByte: each byte alone, and each two of them.
func TestEveryByte(t *testing.T) {
	for _, s := range rows(allBytes(), 2) {
		wantShow(t, s, shown(s))
		wantMean(t, shown(s), s)
		wantValue(t, has(s), "="+shown(s))
	}
}

// TestEveryMarkedByte: a backslash, and all that may stand behind it.
func TestEveryMarkedByte(t *testing.T) {
	for _, s := range rows(allBytes(), 2) {
		holdMean(t, `\`+s, byteTexts)
	}
}

// TestEveryTextOfTwoBytes: all texts of at most two bytes, whatever these are.
func TestEveryTextOfTwoBytes(t *testing.T) {
	all := meanings(2)
	for _, told := range rows(allBytes(), 2) {
		holdMean(t, told, all)
	}
}

// someBytes are digits, letters that are none, a mark, and bytes on both sides
// of those that are shown as they are.
const someBytes = "\\025cfgF \x7f\xff"

// TestEveryShortRow: of few bytes, all rows that are short enough.
func TestEveryShortRow(t *testing.T) {
	all := map[string]string{}
	for _, s := range rows(someBytes, 5) {
		wantShow(t, s, shown(s))
		all[shown(s)] = s
	}
	for told, s := range all {
		wantMean(t, told, s)
	}
}

// TestEveryShortText: a text that means something is what that is shown as,
// and one that is no byte's means nothing.
func TestEveryShortText(t *testing.T) {
	for _, told := range rows(someBytes, 5) {
		holdText(t, told)
	}
}

// holdText looks at what is promised of any text, read and shown.
func holdText(t *testing.T, s string) {
	t.Helper()
	told := text.Show(s)
	if told != shown(s) {
		t.Fatalf("Show(%q) = %q, want %q", s, told, shown(s))
	}
	for _, c := range []byte(told) {
		if c < 33 || c > 126 {
			t.Fatalf("Show(%q) = %q has the byte %d", s, told, c)
		}
	}
	wantMean(t, told, s)
	wantValue(t, has(s), "="+told)
	meant, ok := text.Mean(s)
	if ok && shown(meant) != s {
		t.Fatalf("Mean(%q) = %q, which is shown as %q", s, meant, shown(meant))
	}
	if !ok && meant != "" {
		t.Fatalf("Mean(%q) = %q, false", s, meant)
	}
	if !ok && isShown(s) {
		t.Fatalf("Mean(%q) is nothing, but it is shown", s)
	}
}

// isShown tells whether bytes are shown so: it takes away whatever a byte is
// shown as, from the end on.
func isShown(told string) bool {
	for told != "" {
		size := shownAtEnd(told)
		if size == 0 {
			return false
		}
		told = told[:len(told)-size]
	}
	return true
}

// shownAtEnd is how many bytes at the end show the last byte; 0: none do.
func shownAtEnd(told string) int {
	// The longer one first: digits behind a mark are no bytes themselves.
	for _, size := range []int{3, 1} {
		if size > len(told) {
			continue
		}
		if _, ok := byteTexts[told[len(told)-size:]]; ok {
			return size
		}
	}
	return 0
}

// TestNoTwoAlike: bytes with the same text are the same, and so are values that
// are without fault.
func TestNoTwoAlike(t *testing.T) {
	values := map[string]api.Value{}
	for _, s := range rows(someBytes, 4) {
		for _, v := range []api.Value{has(s), {Bytes: s}} {
			if chain.Check(v) != 0 {
				continue
			}
			told := text.Value(v)
			if other, ok := values[told]; ok && other != v {
				t.Fatalf("%#v and %#v have the text %q", other, v, told)
			}
			values[told] = v
		}
	}
	if len(values) != len(rows(someBytes, 4))+1 {
		t.Errorf("%d texts of values", len(values))
	}
}

// TestOneBehindTheOther: what two texts are shown as, one behind the other, is
// what both together are shown as; what they mean is likewise.
func TestOneBehindTheOther(t *testing.T) {
	all := rows(someBytes, 2)
	for _, a := range all {
		for _, b := range all {
			wantShow(t, a+b, text.Show(a)+text.Show(b))
			wantMean(t, text.Show(a)+text.Show(b), a+b)
		}
	}
}

// someText is up to that many bytes, of all kinds or of few.
func someText(r *rand.Rand, most int) string {
	letters := allBytes()
	if r.Intn(2) == 0 {
		letters = someBytes
	}
	b := make([]byte, r.Intn(most+1))
	for i := range b {
		b[i] = letters[r.Intn(len(letters))]
	}
	return string(b)
}

// TestBrokenTexts breaks a byte or two of what is shown.
func TestBrokenTexts(t *testing.T) {
	r := rand.New(rand.NewSource(1))
	meant := map[bool]int{}
	for range 20000 {
		told := []byte(text.Show(someText(r, 20)) + "x")
		for range r.Intn(3) {
			told[r.Intn(len(told))] = someBytes[r.Intn(len(someBytes))]
		}
		holdText(t, string(told))
		meant[isShown(string(told))]++
	}
	if meant[true] == 0 || meant[false] == 0 {
		t.Errorf("%d mean something, %d nothing", meant[true], meant[false])
	}
}

// TestAskedTwice: what is told hangs on what is asked alone.
func TestAskedTwice(t *testing.T) {
	r := rand.New(rand.NewSource(2))
	for range 2000 {
		a, b := someText(r, 30), someText(r, 30)
		show, value := text.Show(a), text.Value(has(a))
		mean, ok := text.Mean(a)
		text.Show(b)
		text.Mean(b)
		text.Value(has(b))
		again, okAgain := text.Mean(a)
		if text.Show(a) != show || text.Value(has(a)) != value || again != mean || okAgain != ok {
			t.Fatalf("%q is told otherwise behind %q", a, b)
		}
	}
}

// FuzzMean runs its few texts as a test; go test -fuzz makes more.
func FuzzMean(f *testing.F) {
	for _, e := range examples() {
		f.Add(e.s)
		f.Add(e.shown)
	}
	f.Add(`\41`)
	f.Add(`\FF`)
	f.Fuzz(func(t *testing.T, s string) { holdText(t, s) })
}
