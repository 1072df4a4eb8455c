package desk_test

import (
	"fmt"
	"slices"
	"strings"
	"testing"

	"vaultage/api"
	"vaultage/desk"
)

// want: the lines are without fault, and tell that.
func want(t *testing.T, d *desk.Desk, lines []string, told string) {
	t.Helper()
	got, f := d.Do(lines)
	if got != told || f != (api.Fault{}) {
		t.Fatalf("Do(%q) = %q, %v, want %q", lines, got, f, told)
	}
}

// wantFault: with a fault nothing is told.
func wantFault(t *testing.T, d *desk.Desk, lines []string, code, at int) {
	t.Helper()
	got, f := d.Do(lines)
	if got != "" || f != (api.Fault{Code: code, At: at}) {
		t.Fatalf("Do of %d lines = %q, %v, want the fault %d at %d", len(lines), got, f, code, at)
	}
}

// talk asks a new desk, line by line; each line here is what is asked, and,
// behind an arrow, what is told of it.
func talk(t *testing.T, l ...string) {
	t.Helper()
	d := desk.New()
	for _, both := range l {
		line, told, _ := strings.Cut(both, " -> ")
		want(t, d, []string{line}, told+"\n")
	}
}

// wantWhat: a line is none of the table's, ahead of a seat's deed and behind.
func wantWhat(t *testing.T, lines ...string) {
	t.Helper()
	for _, line := range lines {
		d := desk.New()
		want(t, d, []string{line, "shot 0", line, "last"}, "what\nok\nwhat\nlast 0 0 0\n")
		// The deed goes on: nothing was done to it.
		want(t, d, []string{"put 0 1 =", "commit 0", line, "last"}, "ok\nok 1\nwhat\nlast 1 0 1\n")
	}
}

// times is a line that many times.
func times(n int, line string) []string {
	l := make([]string, n)
	for i := range l {
		l[i] = line
	}
	return l
}

func TestNew(t *testing.T) {
	want(t, desk.New(), nil, "")
	want(t, desk.New(), []string{}, "")
	talk(t, "last -> last 0 0 0", "get 0 0 -> no 7", "clear -> ok 0", "shot 0 -> ok", "list 0 0 7 -> all")
}

func TestBegin(t *testing.T) {
	talk(t, "shot 0 -> ok", "sure 1 -> ok", "look 2 0 -> ok", "shot 4 -> ok")
	talk(t, "shot 0 -> ok", "shot 0 -> no 8", "sure 0 -> no 8", "look 0 0 -> no 8")
	talk(t, "shot -1 -> no 1", "shot 5 -> no 1", "sure 5 -> no 1", "look 5 0 -> no 1")
	talk(t, "look 0 1 -> no 1", "look 0 -1 -> no 1", "look 0 0 -> ok")
	talk(t, "shot 0 -> ok", "put 0 1 =x -> ok", "commit 0 -> ok 1", "clear -> ok 1",
		"look 0 0 -> no 12", "look 0 1 -> ok", "look 1 2 -> no 1")
}

// TestModes: what a deed of each mode may do.
func TestModes(t *testing.T) {
	other := []string{"shot 4 -> ok", "put 4 1 =y -> ok", "commit 4 -> ok 1"}
	read := []string{"get 0 1 -> has -", "put 0 2 =x -> ok"}
	talk(t, slices.Concat([]string{"shot 0 -> ok"}, read, other, []string{"commit 0 -> ok 2"})...)
	talk(t, slices.Concat([]string{"sure 0 -> ok"}, read, other, []string{"commit 0 -> no 11"})...)
	talk(t, "look 0 0 -> ok", "put 0 2 =x -> no 3", "drop 0 2 -> no 3", "get 0 2 -> has -", "commit 0 -> ok 0")
}

// TestLook: a look is behind the commit that is named.
func TestLook(t *testing.T) {
	talk(t, "shot 0 -> ok", "put 0 1 =a -> ok", "commit 0 -> ok 1",
		"shot 0 -> ok", "put 0 1 =b -> ok", "commit 0 -> ok 2",
		"look 0 0 -> ok", "look 1 1 -> ok", "look 2 2 -> ok",
		"get 0 1 -> has -", "get 1 1 -> has =a", "get 2 1 -> has =b", "last -> last 2 0 0",
		"abort 0 -> ok", "last -> last 2 0 1", "abort 1 -> ok", "last -> last 2 0 2")
}

func TestGetPutDrop(t *testing.T) {
	talk(t, "shot 0 -> ok", "get 0 1 -> has -", "put 0 1 =x -> ok", "get 0 1 -> has =x",
		"put 0 1 = -> ok", "get 0 1 -> has =", "drop 0 1 -> ok", "get 0 1 -> has -")
	talk(t, "shot 0 -> ok", "get 0 -1 -> no 1", "get 0 8 -> no 1", "put 0 8 =x -> no 1", "drop 0 8 -> no 1",
		"put 0 -1 =x -> no 1", "drop 0 -1 -> no 1", "get 0 0 -> has -", "get 0 7 -> has -")
	talk(t, "get 1 1 -> no 7", "put 1 1 =x -> no 7", "drop 1 1 -> no 7", "list 1 0 7 -> no 7")
	talk(t, "get 5 1 -> no 1", "put 5 1 =x -> no 1", "drop 5 1 -> no 1", "list 5 0 7 -> no 1")
}

// TestBytes: how bytes come in, and how they are told.
func TestBytes(t *testing.T) {
	for _, b := range []string{"=", "==", "=-", "=a", "==a", `=\20`, `=a\20b`, `=\0a`, `=\5c`, `=\00\7f\80\ff`, "=!~",
		`=\c3\a9`, "=123456789012", "=" + strings.Repeat(`\ff`, 12)} {
		talk(t, "shot 0 -> ok", "put 0 1 "+b+" -> ok", "get 0 1 -> has "+b, "list 0 0 7 -> all 1"+b,
			"commit 0 -> ok 1", "crash -> ok", "look 0 1 -> ok", "get 0 1 -> has "+b)
	}
	for _, b := range []string{"=1234567890123", "=" + strings.Repeat(`\ff`, 13), "=" + strings.Repeat("x", 1000)} {
		talk(t, "shot 0 -> ok", "put 0 1 "+b+" -> no 2", "get 0 1 -> has -")
	}
}

func TestNoBytes(t *testing.T) {
	for _, b := range []string{"a", "-", "-a", "0", `\`, `\20`, `=\`, `=\2`, `=\41`, `=\21`, `=\7e`, `=\FF`, `=\g0`,
		`=\\`, `=a\`, "=\x7f", "=\t", "=\xff", "=\u00e9", "a=", "\x00=", "'='", "=a b", "= a", "= =", `=\ 20`} {
		wantWhat(t, "put 0 1 "+b)
	}
	wantWhat(t, "put 0 1", "put 0 1 ")
}

func TestList(t *testing.T) {
	talk(t, "shot 0 -> ok", "put 0 7 =z -> ok", `put 0 0 =a\20b -> ok`, "put 0 3 = -> ok", "put 0 4 =x -> ok", "drop 0 4 -> ok",
		`list 0 0 7 -> all 0=a\20b 3= 7=z`, "list 0 3 3 -> all 3=", "list 0 1 6 -> all 3=", "list 0 4 6 -> all",
		"list 0 7 0 -> all", "list 0 7 7 -> all 7=z", "list 0 0 8 -> no 1", "list 0 -1 7 -> no 1", "list 0 8 7 -> no 1")
}

// TestListReads: a list reads its keys from the first number to the second.
func TestListReads(t *testing.T) {
	for k, told := range []string{"ok 2", "ok 2", "no 11", "no 11", "no 11", "ok 2", "ok 2", "no 10"} {
		talk(t, "sure 0 -> ok", "list 0 2 4 -> all", "put 0 7 =x -> ok", "shot 1 -> ok", fmt.Sprintf("put 1 %d =y -> ok", k),
			"commit 1 -> ok 1", "commit 0 -> "+told)
	}
}

func TestCommit(t *testing.T) {
	talk(t, "commit 0 -> no 7", "commit 5 -> no 1", "commit -1 -> no 1")
	talk(t, "shot 0 -> ok", "commit 0 -> ok 0", "commit 0 -> no 7", "last -> last 0 0 0")
	talk(t, "shot 0 -> ok", "shot 1 -> ok", "put 0 1 =a -> ok", "put 1 1 =b -> ok", "commit 0 -> ok 1", "commit 1 -> no 10",
		"get 1 1 -> no 7", "shot 1 -> ok", "get 1 1 -> has =a")
}

func TestAbort(t *testing.T) {
	talk(t, "abort 0 -> no 7", "abort 5 -> no 1", "abort -1 -> no 1")
	talk(t, "shot 0 -> ok", "shot 1 -> ok", "put 0 1 =a -> ok", "abort 0 -> ok", "abort 0 -> no 7", "get 1 1 -> has -",
		"shot 0 -> ok", "get 0 1 -> has -", "last -> last 0 0 0")
}

func TestClear(t *testing.T) {
	talk(t, "look 0 0 -> ok", "shot 1 -> ok", "put 1 1 =a -> ok", "put 1 2 =b -> ok", "commit 1 -> ok 1",
		"clear -> ok 0", "last -> last 1 0 0", "abort 0 -> ok", "clear -> ok 2", "last -> last 1 1 1", "clear -> ok 0")
}

func TestCrash(t *testing.T) {
	talk(t, "shot 0 -> ok", "put 0 1 =a -> ok", "commit 0 -> ok 1", "clear -> ok 1", "last -> last 1 1 1",
		"shot 0 -> ok", "shot 4 -> ok", "put 0 1 =b -> ok", "crash -> ok", "last -> last 1 0 1", "commit 0 -> no 7", "abort 4 -> no 7",
		"look 0 0 -> ok", "get 0 1 -> has -", "look 1 1 -> ok", "get 1 1 -> has =a")
}

// TestTear: the commit has five bytes.
func TestTear(t *testing.T) {
	for _, e := range []struct{ keep, told, has string }{
		{"-1", "ok 0", "-"}, {"0", "ok 0", "-"}, {"4", "ok 0", "-"}, {"5", "ok 1", "=a"}, {"6", "ok 1", "=a"},
		{"-9223372036854775808", "ok 0", "-"}, {"9223372036854775807", "ok 1", "=a"},
	} {
		talk(t, "shot 0 -> ok", "shot 1 -> ok", "put 0 1 =a -> ok", "tear 0 "+e.keep+" -> "+e.told,
			"get 0 1 -> no 7", "get 1 1 -> no 7", "shot 2 -> ok", "get 2 1 -> has "+e.has)
	}
	talk(t, "tear 0 1 -> no 7", "tear 5 1 -> no 1", "tear -1 1 -> no 1", "shot 0 -> ok", "tear 1 9 -> no 7", "get 0 1 -> has -",
		"tear 0 9 -> ok 0", "get 0 1 -> no 7")
	// With a code, too, no seat has a deed any more.
	talk(t, "shot 0 -> ok", "shot 1 -> ok", "shot 2 -> ok", "put 0 1 =a -> ok", "put 1 1 =b -> ok", "commit 0 -> ok 1",
		"tear 1 9 -> no 10", "get 2 1 -> no 7")
}

func TestLast(t *testing.T) {
	talk(t, "shot 0 -> ok", "put 0 1 =a -> ok", "commit 0 -> ok 1", "shot 1 -> ok", "last -> last 1 0 1",
		"shot 0 -> ok", "put 0 1 =b -> ok", "commit 0 -> ok 2", "last -> last 2 0 1", "clear -> ok 1", "last -> last 2 1 1",
		"shot 0 -> ok", "put 0 1 =c -> ok", "commit 0 -> ok 3", "last -> last 3 1 1", "abort 1 -> ok", "last -> last 3 1 3")
}

// TestFull: more than 40 commits there are not.
func TestFull(t *testing.T) {
	d := desk.New()
	for n := 1; n <= 40; n++ {
		want(t, d, []string{"shot 0", "put 0 1 =", "commit 0"}, fmt.Sprintf("ok\nok\nok %d\n", n))
	}
	want(t, d, []string{"shot 0", "put 0 1 =", "commit 0", "last"}, "ok\nok\nno 9\nlast 40 0 40\n")
	want(t, d, []string{"shot 0", "drop 0 1", "tear 0 9", "last"}, "ok\nok\nno 9\nlast 40 0 40\n")
}

func TestNumbers(t *testing.T) {
	for _, n := range []string{"-1", "5", "10", "123", "-10", "9223372036854775807", "-9223372036854775808"} {
		talk(t, "shot "+n+" -> no 1", "get "+n+" 0 -> no 1", "look 0 "+n+" -> no 1")
		talk(t, "commit "+n+" -> no 1", "abort "+n+" -> no 1", "tear "+n+" 0 -> no 1")
	}
	for _, n := range []string{"-1", "8", "10", "9223372036854775807", "-9223372036854775808"} {
		talk(t, "shot 0 -> ok", "get 0 "+n+" -> no 1", "put 0 "+n+" = -> no 1", "drop 0 "+n+" -> no 1",
			"list 0 "+n+" 0 -> no 1", "list 0 0 "+n+" -> no 1")
	}
}

func TestNoNumbers(t *testing.T) {
	for _, n := range []string{"00", "01", "-0", "-00", "-01", "+0", "+1", "-", "+", "--1", "x", "1x", "x1", "1.0", "1e0", "0x1", "0b1",
		"0o1", "1_0", "=1", "1=", "1,", "1\t", "\t1", "1\r", "1\x00", "\u0661", "9223372036854775808", "-9223372036854775809",
		"18446744073709551615", "18446744073709551616", "100000000000000000000", strings.Repeat("0", 100) + "1", strings.Repeat("9", 1000)} {
		wantWhat(t, "shot "+n, "sure "+n, "look "+n+" 0", "look 1 "+n, "get "+n+" 0", "get 0 "+n, "put "+n+" 0 =", "put 0 "+n+" =",
			"drop "+n+" 0", "drop 0 "+n, "list "+n+" 0 7", "list 0 "+n+" 7", "list 0 0 "+n, "commit "+n, "abort "+n, "tear "+n+" 0", "tear 0 "+n)
	}
}

// TestWordsTooFewTooMany: a line of the table with a word less, and one more.
func TestWordsTooFewTooMany(t *testing.T) {
	for _, line := range []string{"shot 0", "sure 0", "look 0 0", "get 0 1", "put 0 1 =x", "drop 0 1", "list 0 0 7", "commit 0",
		"clear", "tear 0 9", "abort 0", "crash", "last"} {
		words := strings.Split(line, " ")
		for n := 1; n < len(words); n++ {
			wantWhat(t, strings.Join(words[:n], " "))
		}
		for _, more := range []string{"0", "=", "x", "0 0", "0 =", "= 0", "0 0 0", "0 0 =", "last", "-"} {
			wantWhat(t, line+" "+more)
		}
	}
}

func TestOtherWords(t *testing.T) {
	wantWhat(t, "what", "x", "Last", "LAST", "lasts", "las", "-", "=", "0", "ok", "no", "has", "all", "begin 0", "read 0 1",
		"Shot 0", "SHOT 0", "shots 0", "shot0", "0 shot", "0", "get,0,1", "get 0,1", "step 0", "\"last\"", "'last'", "last;", "\x00",
		"\xff", "\u00a0", "last\u00a0", "#", "// last", "last last", "crash crash", "clear 0", "MShot 0", "SCrash")
}

func TestBlanks(t *testing.T) {
	talk(t, " shot 0 -> ok", "shot  1 -> ok", "shot 2  -> ok", "   look    3     0      -> ok",
		"  put  0   1    =x     -> ok", "get 0 1   -> has =x", "    list 0 0 7 -> all 1=x", "  last   -> last 0 0 0", " x -> what")
	// No other byte parts words.
	wantWhat(t, "\tlast", "last\t", "last\r", "\rlast", "last\v", "last\f", "last\x00", "last\u0085", "last\u2003",
		"get\t0\t1", "get 0\t1", "commit\u00a00", "shot\r0", "\t", "\r", " \t ", "\v", "\f", "\u3000")
}

func TestNoWords(t *testing.T) {
	want(t, desk.New(), []string{""}, "")
	want(t, desk.New(), []string{" ", "   ", "", strings.Repeat(" ", 1000)}, "")
	want(t, desk.New(), []string{"", "last", " ", "last", ""}, "last 0 0 0\nlast 0 0 0\n")
	want(t, desk.New(), make([]string, 150), "")
}

func TestTooManyLines(t *testing.T) {
	want(t, desk.New(), times(150, "x"), strings.Repeat("what\n", 150))
	for _, n := range []int{151, 152, 1000} {
		wantFault(t, desk.New(), make([]string, n), 14, -1)
		wantFault(t, desk.New(), times(n, "x"), 14, -1)
		// Too many is told ahead of a line with a newline.
		wantFault(t, desk.New(), times(n, "\n"), 14, -1)
	}
}

func TestNewlines(t *testing.T) {
	for _, line := range []string{"\n", "last\n", "\nlast", "la\nst", "a\nb", " \n ", "\n\n", "\r\n", "put 0 1 =\n", strings.Repeat("x", 1000) + "\n"} {
		wantFault(t, desk.New(), []string{line}, 15, 0)
		wantFault(t, desk.New(), []string{"", line, "last"}, 15, 1)
		wantFault(t, desk.New(), []string{"last", "last", line, line}, 15, 2)
		wantFault(t, desk.New(), append(times(149, "last"), line), 15, 149)
		wantFault(t, desk.New(), append(times(150, "last"), line), 14, -1)
	}
	// A newline that is shown is none.
	talk(t, "shot 0 -> ok", `put 0 1 =\0a -> ok`, `get 0 1 -> has =\0a`, `last \n -> what`)
}

// TestNothingDone: with a fault no line is done, not even those ahead of it.
func TestNothingDone(t *testing.T) {
	d := desk.New()
	want(t, d, []string{"shot 0", "put 0 1 =a", "commit 0", "shot 0", "put 0 2 =b"}, "ok\nok\nok 1\nok\nok\n")
	for _, line := range []string{"crash", "clear", "commit 0", "abort 0", "tear 0 9", "shot 1", "drop 0 2", "put 0 3 =c", "last"} {
		wantFault(t, d, []string{line, "\n"}, 15, 1)
		wantFault(t, d, []string{"\n", line}, 15, 0)
		wantFault(t, d, times(151, line), 14, -1)
	}
	want(t, d, []string{"last", "list 0 0 7", "get 1 0", "commit 0", "last"}, "last 1 0 1\nall 1=a 2=b\nno 7\nok 2\nlast 2 0 2\n")
}

// TestToldStays: what was told is not changed by what is told behind it.
func TestToldStays(t *testing.T) {
	d := desk.New()
	first, _ := d.Do([]string{"last", "x"})
	second, _ := d.Do([]string{"shot 0", "put 0 1 =abc", "list 0 0 7"})
	d.Do(times(150, "list 0 0 7"))
	if first != "last 0 0 0\nwhat\n" || second != "ok\nok\nall 1=abc\n" {
		t.Errorf("told were %q and %q", first, second)
	}
}

// TestLinesStay: the lines are not changed, and what lies behind them is not
// read.
func TestLinesStay(t *testing.T) {
	memory := []string{" last ", "shot  0", "x", "", "put 0 1 =a", "a\nb", "crash"}
	kept := slices.Clone(memory)
	d := desk.New()
	want(t, d, memory[:5], "last 0 0 0\nok\nwhat\nok\n")
	want(t, d, []string{"get 0 1"}, "has =a\n")
	if !slices.Equal(memory, kept) {
		t.Errorf("the lines are %q by now", memory)
	}
	all := slices.Clone(append(times(150, ""), "\n"))
	want(t, d, all[:150], "")
	wantFault(t, d, all, 14, -1)
}

// TestLinesNotKept: a line's memory is the asker's again behind a Do.
func TestLinesNotKept(t *testing.T) {
	lines := []string{"shot 0", "put 0 1 =a"}
	d := desk.New()
	want(t, d, lines, "ok\nok\n")
	lines[1] = "put 0 1 =b"
	want(t, d, []string{"get 0 1"}, "has =a\n")
}

func TestLongLines(t *testing.T) {
	const count = 1 << 20
	d := desk.New()
	want(t, d, []string{strings.Repeat(" ", count), strings.Repeat("x", count), strings.Repeat("x ", count), strings.Repeat("0 ", count)}, "what\nwhat\nwhat\n")
	far := strings.Repeat(" ", count)
	want(t, d, []string{far + "shot" + far + "0" + far, "put" + far + "0 1" + far + "=x", "put 0 2 =" + strings.Repeat("x", count)}, "ok\nok\nno 2\n")
	want(t, d, []string{"put 0 2 =" + strings.Repeat("x", count) + `\`, "get 0 " + strings.Repeat("1", count), "list 0 0 7"}, "what\nwhat\nall 1=x\n")
	wantFault(t, d, []string{far + "\n"}, 15, 0)
}
