package desk_test

import (
	"fmt"
	"math/big"
	"math/rand"
	"regexp"
	"slices"
	"strconv"
	"strings"
	"testing"

	"vaultage/api"
	"vaultage/desk"
	"vaultage/hall"
)

// Forms of what stands behind a line's first word: whole lines are matched
// here, where the program cuts words.
const (
	aNumber = ` +(0|-?[1-9][0-9]*)`
	aText   = ` +=(?P<bytes>(?:[!-\[\]-~]|\\(?:[01][0-9a-f]|20|5c|7f|[89a-f][0-9a-f]))*)`
)

// rule is a line of the chapter's table.
type rule struct {
	form *regexp.Regexp
	do   func(h *hall.Hall, n []int, b string) api.Event
	tell func(h *hall.Hall, e api.Event) string
}

func lineForm(parts ...string) *regexp.Regexp {
	return regexp.MustCompile(`^ *` + strings.Join(parts, "") + ` *$`)
}

func tellOk(*hall.Hall, api.Event) string { return "ok" }

func tellOkN(_ *hall.Hall, e api.Event) string { return fmt.Sprintf("ok %d", e.N) }

func tellHas(_ *hall.Hall, e api.Event) string { return "has " + shownValue(e.V) }

func tellAll(_ *hall.Hall, e api.Event) string {
	told := "all"
	for _, p := range e.L {
		told += fmt.Sprintf(" %d%s", p.Key, shownValue(p.V))
	}
	return told
}

func tellLast(h *hall.Hall, _ api.Event) string {
	return fmt.Sprintf("last %d %d %d", h.Last(), h.First(), h.Least())
}

// rules are the chapter's table.
var rules = []rule{
	{lineForm("shot", aNumber), func(h *hall.Hall, n []int, b string) api.Event {
		return h.Do(api.Step{Kind: 1, S: n[0], Mode: 1})
	}, tellOk},
	{lineForm("sure", aNumber), func(h *hall.Hall, n []int, b string) api.Event {
		return h.Do(api.Step{Kind: 1, S: n[0], Mode: 2})
	}, tellOk},
	{lineForm("look", aNumber, aNumber), func(h *hall.Hall, n []int, b string) api.Event {
		return h.Do(api.Step{Kind: 1, S: n[0], Mode: 3, At: n[1]})
	}, tellOk},
	{lineForm("get", aNumber, aNumber), func(h *hall.Hall, n []int, b string) api.Event {
		return h.Do(api.Step{Kind: 2, S: n[0], Key: n[1]})
	}, tellHas},
	{lineForm("put", aNumber, aNumber, aText), func(h *hall.Hall, n []int, b string) api.Event {
		return h.Do(api.Step{Kind: 3, S: n[0], Key: n[1], Bytes: b})
	}, tellOk},
	{lineForm("drop", aNumber, aNumber), func(h *hall.Hall, n []int, b string) api.Event {
		return h.Do(api.Step{Kind: 4, S: n[0], Key: n[1]})
	}, tellOk},
	{lineForm("list", aNumber, aNumber, aNumber), func(h *hall.Hall, n []int, b string) api.Event {
		return h.Do(api.Step{Kind: 5, S: n[0], Key: n[1], To: n[2]})
	}, tellAll},
	{lineForm("commit", aNumber), func(h *hall.Hall, n []int, b string) api.Event {
		return h.Do(api.Step{Kind: 6, S: n[0]})
	}, tellOkN},
	{lineForm("clear"), func(h *hall.Hall, n []int, b string) api.Event {
		return h.Do(api.Step{Kind: 8})
	}, tellOkN},
	{lineForm("tear", aNumber, aNumber), func(h *hall.Hall, n []int, b string) api.Event {
		return h.Do(api.Step{Kind: 10, S: n[0], Keep: n[1]})
	}, tellOkN},
	{lineForm("abort", aNumber), func(h *hall.Hall, n []int, b string) api.Event {
		return h.Do(api.Step{Kind: 7, S: n[0]})
	}, tellOk},
	{lineForm("crash"), func(h *hall.Hall, n []int, b string) api.Event {
		return h.Do(api.Step{Kind: 9})
	}, tellOk},
	{lineForm("last"), func(h *hall.Hall, n []int, b string) api.Event {
		return api.Event{}
	}, tellLast},
}

func shownValue(v api.Value) string {
	if !v.There {
		return "-"
	}
	told := "="
	for _, c := range []byte(v.Bytes) {
		if c < 33 || c > 126 || c == 92 {
			told += fmt.Sprintf("\\%02x", c)
		} else {
			told += string([]byte{c})
		}
	}
	return told
}

var shownByte = regexp.MustCompile(`\\..`)

func meantBytes(shown string) string {
	return shownByte.ReplaceAllStringFunc(shown, func(s string) string {
		c, _ := strconv.ParseUint(s[1:], 16, 8)
		return string([]byte{byte(c)})
	})
}

// numbers are what words say; false: one has more than 64 bits.
func numbers(words []string) ([]int, bool) {
	var l []int
	for _, w := range words {
		n, _ := new(big.Int).SetString(w, 10)
		if !n.IsInt64() {
			return nil, false
		}
		l = append(l, int(n.Int64()))
	}
	return l, true
}

// modelLine is what a line tells.
func modelLine(h *hall.Hall, line string) string {
	if strings.Trim(line, " ") == "" {
		return ""
	}
	for _, r := range rules {
		m := r.form.FindStringSubmatch(line)
		if m == nil {
			continue
		}
		words, shown := m[1:], ""
		if i := r.form.SubexpIndex("bytes"); i >= 0 {
			words, shown = m[1:i], m[i]
		}
		n, ok := numbers(words)
		if !ok {
			return "what\n"
		}
		e := r.do(h, n, meantBytes(shown))
		if e.Code != 0 {
			return fmt.Sprintf("no %d\n", e.Code)
		}
		return r.tell(h, e) + "\n"
	}
	return "what\n"
}

// modelDo is the chapter's Do.
func modelDo(h *hall.Hall, lines []string) (string, api.Fault) {
	if len(lines) > 150 {
		return "", api.Fault{Code: 14, At: -1}
	}
	if i := slices.IndexFunc(lines, func(s string) bool { return strings.ContainsRune(s, '\n') }); i >= 0 {
		return "", api.Fault{Code: 15, At: i}
	}
	told := ""
	for _, line := range lines {
		told += modelLine(h, line)
	}
	return told, api.Fault{}
}

// hold holds a Do against the model.
func hold(t *testing.T, d *desk.Desk, h *hall.Hall, lines []string) {
	t.Helper()
	told, fault := modelDo(h, lines)
	got, f := d.Do(lines)
	if got != told || f != fault {
		t.Fatalf("Do(%q) = %q, %v, want %q, %v", lines, got, f, told, fault)
	}
}

// rows are all lists of at most that many of these.
func rows(words []string, most int) [][]string {
	all := [][]string{nil}
	for from := 0; most > 0; most-- {
		to := len(all)
		for _, l := range all[from:to] {
			for _, w := range words {
				all = append(all, append(slices.Clip(l), w))
			}
		}
		from = to
	}
	return all
}

// TestEveryShortTalk: all rows of a few lines.
func TestEveryShortTalk(t *testing.T) {
	lines := []string{"shot 0", "sure 1", "look 1 0", "put 0 1 =a", "put 1 2 =", "get 1 1", "list 1 0 7", "commit 0", "commit 1",
		"tear 0 4", "drop 0 1", "abort 1", "clear", "crash", "last", "what", ""}
	for _, l := range rows(lines, 4) {
		hold(t, desk.New(), hall.New(), l)
	}
}

// holdLine looks at one line, ahead of a deed and behind, and at what it did.
func holdLine(t *testing.T, line string) {
	t.Helper()
	hold(t, desk.New(), hall.New(), []string{line, "last", "shot 0", "put 0 1 =a", "commit 0", "shot 0", line, "list 0 0 7", "commit 0", "last"})
}

// TestEveryShortLine: all rows of a few words.
func TestEveryShortLine(t *testing.T) {
	for _, l := range rows([]string{"shot", "look", "get", "put", "drop", "list", "commit", "tear", "clear", "last", "0", "1", "=", "x"}, 3) {
		holdLine(t, strings.Join(l, " "))
	}
	for _, name := range []string{"shot", "sure", "look", "get", "put", "drop", "list", "commit", "clear", "tear", "abort", "crash", "last"} {
		for _, l := range rows([]string{"0", "1", "5", "=", `=\20`, "-0"}, 4) {
			holdLine(t, name+" "+strings.Join(l, " "))
		}
	}
}

// TestEveryShortEnd: lines that end with all rows of a few bytes.
func TestEveryShortEnd(t *testing.T) {
	bytes := []string{"0", "1", "-", "+", "=", " ", "\\", "f", "\n", "\t"}
	for _, ahead := range []string{"", "shot", "get 0", "tear 0", "list 0 0", "put 0 1"} {
		for _, l := range rows(bytes, 3) {
			holdLine(t, ahead+strings.Join(l, ""))
			holdLine(t, ahead+" "+strings.Join(l, ""))
		}
	}
	for _, l := range rows([]string{"\\", "0", "4", "c", "5", "F", " "}, 4) {
		holdLine(t, "put 0 1 ="+strings.Join(l, ""))
	}
}

// TestEveryByte: each byte in each place of some lines.
func TestEveryByte(t *testing.T) {
	for _, line := range []string{"last", "get 0 1", "put 0 1 =a"} {
		for c := range 256 {
			for i := range len(line) + 1 {
				holdLine(t, line[:i]+string([]byte{byte(c)})+line[i:])
			}
		}
	}
}

func pick(r *rand.Rand, l ...string) string { return l[r.Intn(len(l))] }

// someSeat and the like are such a word, and seldom a wrong one.
func someSeat(r *rand.Rand) string {
	if r.Intn(40) == 0 {
		return pick(r, "5", "-1", "00", "x", "=0", "9223372036854775807", "9223372036854775808")
	}
	if r.Intn(10) == 0 {
		return strconv.Itoa(r.Intn(5))
	}
	// Of few seats more have deeds that go on.
	return strconv.Itoa(r.Intn(2))
}

func someKey(r *rand.Rand) string {
	if r.Intn(40) == 0 {
		return pick(r, "8", "-1", "01", "+1", "-9223372036854775808", "-9223372036854775809", "")
	}
	return strconv.Itoa(r.Intn(8))
}

func someText(r *rand.Rand) string {
	if r.Intn(40) == 0 {
		return pick(r, "x", `=\41`, `=\`, "-", "=a b", "=\xff", "")
	}
	b := make([]byte, r.Intn(14))
	for i := range b {
		b[i] = byte(r.Intn(256))
		if r.Intn(2) == 0 {
			b[i] = "ab \\\n\x7f\xff"[r.Intn(7)]
		}
	}
	return shownValue(api.Value{There: true, Bytes: string(b)})
}

func someLine(r *rand.Rand, last int) string {
	s, k := someSeat(r), someKey(r)
	switch r.Intn(30) {
	case 0, 1, 2:
		return "shot " + s
	case 3, 4, 5:
		return "sure " + s
	case 6, 7:
		return fmt.Sprintf("look %s %d", s, r.Intn(last+2))
	case 8, 9, 10, 11:
		return "get " + s + " " + k
	case 12, 13, 14, 15, 16:
		return "put " + s + " " + k + " " + someText(r)
	case 17, 18:
		return "drop " + s + " " + k
	case 19, 20:
		return "list " + s + " " + k + " " + someKey(r)
	case 21, 22, 23, 24:
		return "commit " + s
	case 25:
		return pick(r, "clear", "last", "crash", " clear  ", " last ", "crash ", "last 0", "last last")
	case 26:
		return fmt.Sprintf("tear %s %d", s, r.Intn(30)-2)
	case 27:
		return "abort " + s
	case 28:
		return "last"
	}
	return pick(r, "", " ", "what", "x y z", "get", "last\t", "clear")
}

// someLines is one of the talks by which a desk is looked at.
func someLines(r *rand.Rand, last, most int) []string {
	l := make([]string, r.Intn(most+1))
	for i := range l {
		l[i] = someLine(r, last)
		if r.Intn(2000) == 0 {
			l[i] += "\n"
		}
	}
	return l
}

func TestLongTalks(t *testing.T) {
	told := map[string]int{}
	for seed := range 30 {
		r := rand.New(rand.NewSource(int64(seed)))
		d, h := desk.New(), hall.New()
		for range 400 {
			lines := someLines(r, h.Last(), 20)
			if r.Intn(50) == 0 {
				lines = append(lines, someLines(r, h.Last(), 300)...)
			}
			want, fault := modelDo(h, lines)
			got, f := d.Do(lines)
			if got != want || f != fault {
				t.Fatalf("Do(%q) = %q, %v, want %q, %v", lines, got, f, want, fault)
			}
			told[fmt.Sprint("fault ", f.Code)]++
			for _, thing := range strings.Split(got, "\n") {
				first, _, _ := strings.Cut(thing, " ")
				if first == "no" {
					first = thing
				}
				told[first]++
			}
		}
	}
	for _, thing := range []string{"ok", "has", "all", "last", "what", "no 1", "no 2", "no 3", "no 7", "no 8", "no 9", "no 10", "no 11",
		"no 12", "fault 0", "fault 14", "fault 15"} {
		if told[thing] == 0 {
			t.Errorf("%q was never told: %v", thing, told)
		}
	}
}

// TestTwoAsOne: what two Do tell one behind the other one Do of both tells.
func TestTwoAsOne(t *testing.T) {
	for seed := range 200 {
		r := rand.New(rand.NewSource(int64(seed)))
		var lines []string
		for range 150 {
			lines = append(lines, someLine(r, 3))
		}
		one, f := desk.New().Do(lines)
		if f != (api.Fault{}) {
			t.Fatal(f)
		}
		cut := r.Intn(151)
		two := desk.New()
		first, f := two.Do(lines[:cut])
		second, g := two.Do(lines[cut:])
		if first+second != one || f != g || f != (api.Fault{}) {
			t.Fatalf("cut at %d, %q: %q, then %q, but at once %q", cut, lines, first, second, one)
		}
		each := ""
		d := desk.New()
		for _, line := range lines {
			s, _ := d.Do([]string{line})
			each += s
		}
		if each != one {
			t.Fatalf("%q: line by line %q, but at once %q", lines, each, one)
		}
	}
}

// TestToldAgain: what was asked again of a new desk is told again.
func TestToldAgain(t *testing.T) {
	for seed := range 20 {
		talkOf := func() string {
			r := rand.New(rand.NewSource(int64(seed)))
			d := desk.New()
			all := ""
			for range 40 {
				told, f := d.Do(someLines(r, 9, 30))
				all += fmt.Sprintf("%s%v", told, f)
			}
			return all
		}
		if first, again := talkOf(), talkOf(); first != again {
			t.Fatalf("told was %q, and again %q", first, again)
		}
	}
}

// TestTwoDesks: two desks know nothing of each other.
func TestTwoDesks(t *testing.T) {
	for seed := range 20 {
		r := rand.New(rand.NewSource(int64(seed)))
		a, b := desk.New(), desk.New()
		ofA, ofB := hall.New(), hall.New()
		for range 60 {
			if r.Intn(2) == 0 {
				hold(t, a, ofA, someLines(r, ofA.Last(), 10))
			} else {
				hold(t, b, ofB, someLines(r, ofB.Last(), 10))
			}
		}
	}
	a, b := desk.New(), desk.New()
	want(t, a, []string{"shot 0", "put 0 1 =a", "commit 0"}, "ok\nok\nok 1\n")
	want(t, b, []string{"last", "get 0 1", "shot 0", "get 0 1"}, "last 0 0 0\nno 7\nok\nhas -\n")
	want(t, a, []string{"last", "get 0 1", "look 0 1", "get 0 1"}, "last 1 0 1\nno 7\nok\nhas =a\n")
}

// TestNoPanic: lines of any bytes, and lines that were broken.
func TestNoPanic(t *testing.T) {
	r := rand.New(rand.NewSource(1))
	for range 100 {
		d, h := desk.New(), hall.New()
		for range 40 {
			lines := someLines(r, h.Last(), 10)
			for i, line := range lines {
				b := []byte(line + " ")
				for range r.Intn(3) {
					b[r.Intn(len(b))] = byte(r.Intn(256))
				}
				lines[i] = string(b)
			}
			hold(t, d, h, lines)
		}
	}
}

// FuzzDo runs its few talks as a test; go test -fuzz makes more. A ; parts
// lines, so that they may have newlines.
func FuzzDo(f *testing.F) {
	f.Add("shot 0;put 0 1 =a\\20b;get 0 1;commit 0;last")
	f.Add("sure 1;list 1 0 7;drop 1 3;tear 1 3;look 2 0;clear;crash;abort 2")
	f.Add(" last ;;what;get 0 01;put 0 1 =\\41;get 0 9223372036854775808")
	f.Add("last;a\nb")
	f.Fuzz(func(t *testing.T, s string) {
		lines := strings.Split(s, ";")
		d, h := desk.New(), hall.New()
		hold(t, d, h, lines)
		hold(t, d, h, []string{"last", "list 0 0 7", "commit 0", "shot 4", "list 4 0 7", "last"})
		hold(t, d, h, lines)
	})
}
