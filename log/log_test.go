package log_test

import (
	"bytes"
	"math"
	"slices"
	"strings"
	"testing"

	"vaultage/api"
	"vaultage/log"
	"vaultage/table"
)

func has(s string) api.Value { return api.Value{There: true, Bytes: s} }

func pair(k int, s string) api.Pair { return api.Pair{Key: k, V: has(s)} }

func drop(k int) api.Pair { return api.Pair{Key: k} }

func pairs(p ...api.Pair) []api.Pair { return p }

// letters is a text of that many bytes.
func letters(n int) string { return strings.Repeat("x", n) }

// allKeys gives every key that value.
func allKeys(v api.Value) []api.Pair {
	var w []api.Pair
	for k := range api.MaxKeys {
		w = append(w, api.Pair{Key: k, V: v})
	}
	return w
}

// longest is a commit of 114 bytes, the most that one can have.
func longest() []api.Pair { return allKeys(has(letters(12))) }

type commit struct {
	name string
	w    []api.Pair
	b    []byte
}

func commits() []commit {
	return []commit{
		{"no pairs", nil, []byte{2, 0}},
		{"no pairs, an empty list", pairs(), []byte{2, 0}},
		{"no value", pairs(drop(5)), []byte{4, 1, 5, 255}},
		{"a value without bytes", pairs(pair(5, "")), []byte{4, 1, 5, 0}},
		{"a value", pairs(pair(0, "abc")), []byte{7, 1, 0, 3, 'a', 'b', 'c'}},
		{"bytes like commits", pairs(pair(2, "\x02\x00\x02\x00")), []byte{8, 1, 2, 4, 2, 0, 2, 0}},
		{"several", pairs(pair(1, "ab"), drop(3), pair(7, "")), []byte{10, 3, 1, 2, 'a', 'b', 3, 255, 7, 0}},
		{"the longest", longest(), encode(longest())},
	}
}

type fault struct {
	name string
	w    []api.Pair
	code int
}

// faults are no commits, with codec.Encode's code.
func faults() []fault {
	return []fault{
		{"a key below all", pairs(drop(-1)), api.ErrRange},
		{"a key above all", pairs(drop(8)), api.ErrRange},
		{"no key behind a key", pairs(pair(1, "a"), pair(8, "b")), api.ErrRange},
		{"twice the same key", pairs(pair(1, "a"), pair(1, "a")), api.ErrOrder},
		{"a lower key", pairs(pair(1, "a"), pair(0, "a")), api.ErrOrder},
		{"too long", pairs(pair(1, letters(13))), api.ErrLong},
		{"bytes of no value", pairs(api.Pair{Key: 1, V: api.Value{Bytes: "x"}}), api.ErrForm},
		{"the first pair's is told", pairs(pair(1, letters(13)), drop(9)), api.ErrLong},
	}
}

func put(t *testing.T, g *log.Log, w []api.Pair) {
	t.Helper()
	if code := g.Put(w); code != 0 {
		t.Fatalf("Put(%#v) = %d, want 0", w, code)
	}
}

// wantLog looks at the log without mending it.
func wantLog(t *testing.T, g *log.Log, b []byte, n int) {
	t.Helper()
	if got := g.Bytes(); !bytes.Equal(got, b) {
		t.Fatalf("Bytes() = %v, want %v", got, b)
	}
	if got := g.Len(); got != n {
		t.Fatalf("Len() = %d, want %d", got, n)
	}
}

// wantMend mends the log: so many bytes are cut off, and then no more.
func wantMend(t *testing.T, g *log.Log, cut int) {
	t.Helper()
	if got := g.Mend(); got != cut {
		t.Fatalf("Mend() = %d, want %d", got, cut)
	}
	b, n := g.Bytes(), g.Len()
	for range 2 {
		if got := g.Mend(); got != 0 {
			t.Fatalf("Mend() again = %d, want 0", got)
		}
		wantLog(t, g, b, n)
	}
}

func TestNewIsEmpty(t *testing.T) {
	g := log.New()
	wantLog(t, g, nil, 0)
	wantMend(t, g, 0)
	wantLog(t, g, nil, 0)
}

func TestPut(t *testing.T) {
	g := log.New()
	var all []byte
	for i, c := range commits() {
		put(t, g, c.w)
		all = append(all, c.b...)
		wantLog(t, g, all, i+1)
		wantMend(t, g, 0)
		wantLog(t, g, all, i+1)
	}
}

// TestPutFault: behind a code the log is as it was.
func TestPutFault(t *testing.T) {
	g := log.New()
	for _, ahead := range [][]byte{nil, {4, 1, 3, 255}} {
		for _, f := range faults() {
			if code := g.Put(f.w); code != f.code {
				t.Errorf("%s: Put = %d, want %d", f.name, code, f.code)
			}
			wantLog(t, g, ahead, len(ahead)/4)
			wantMend(t, g, 0)
		}
		if ahead == nil {
			put(t, g, pairs(drop(3)))
		}
	}
}

func TestTearFault(t *testing.T) {
	g := log.New()
	put(t, g, pairs(drop(3)))
	for _, f := range faults() {
		for _, keep := range []int{math.MinInt, -1, 0, 1, 3, 99, math.MaxInt} {
			if code := g.Tear(f.w, keep); code != f.code {
				t.Errorf("%s: Tear = %d, want %d", f.name, code, f.code)
			}
			wantLog(t, g, []byte{4, 1, 3, 255}, 1)
			wantMend(t, g, 0)
		}
	}
}

// TestTear tears every commit behind every other one, at every byte.
func TestTear(t *testing.T) {
	for _, first := range commits() {
		for _, c := range commits() {
			for keep := -2; keep <= len(c.b)+2; keep++ {
				holdTear(t, first, c, keep, min(max(keep, 0), len(c.b)))
			}
			holdTear(t, first, c, math.MinInt, 0)
			holdTear(t, first, c, math.MaxInt, len(c.b))
		}
	}
}

// holdTear: of a commit that is torn all came, or nothing of it is left when
// the log was mended.
func holdTear(t *testing.T, first, c commit, keep, kept int) {
	t.Helper()
	g := log.New()
	put(t, g, first.w)
	if code := g.Tear(c.w, keep); code != 0 {
		t.Fatalf("%s: Tear(%d) = %d, want 0", c.name, keep, code)
	}
	torn := slices.Concat(first.b, c.b[:kept])
	if kept == len(c.b) {
		wantLog(t, g, torn, 2)
		wantMend(t, g, 0)
		wantLog(t, g, torn, 2)
		return
	}
	wantLog(t, g, torn, 1)
	wantLog(t, g, torn, 1)
	wantMend(t, g, kept)
	wantLog(t, g, first.b, 1)
	put(t, g, c.w)
	wantLog(t, g, slices.Concat(first.b, c.b), 2)
}

// TestTornFirst: behind a torn first commit nothing is left at all.
func TestTornFirst(t *testing.T) {
	g := log.New()
	if code := g.Tear(pairs(drop(6)), 3); code != 0 {
		t.Fatalf("Tear = %d, want 0", code)
	}
	wantLog(t, g, []byte{4, 1, 6}, 0)
	wantMend(t, g, 3)
	wantLog(t, g, nil, 0)
}

func TestTornAgainAndAgain(t *testing.T) {
	g := log.New()
	put(t, g, pairs(drop(1)))
	for keep := range 114 {
		if code := g.Tear(longest(), keep); code != 0 {
			t.Fatalf("Tear(%d) = %d, want 0", keep, code)
		}
		wantMend(t, g, keep)
	}
	wantLog(t, g, []byte{4, 1, 1, 255}, 1)
}

// fill puts as many commits without pairs as there can be; those that are torn
// between do not count.
func fill(t *testing.T) *log.Log {
	t.Helper()
	g := log.New()
	for i := range api.MaxCommits {
		if code := g.Tear(pairs(drop(2)), 3); code != 0 {
			t.Fatalf("Tear ahead of commit %d = %d, want 0", i+1, code)
		}
		wantMend(t, g, 3)
		put(t, g, nil)
	}
	return g
}

func TestFullOfCommits(t *testing.T) {
	g := fill(t)
	all := bytes.Repeat([]byte{2, 0}, 40)
	wantLog(t, g, all, 40)
	for _, c := range commits() {
		if code := g.Put(c.w); code != api.ErrFull {
			t.Errorf("%s: Put = %d, want ErrFull", c.name, code)
		}
		for _, keep := range []int{math.MinInt, -1, 0, 1, 2, 114, math.MaxInt} {
			if code := g.Tear(c.w, keep); code != api.ErrFull {
				t.Errorf("%s: Tear(%d) = %d, want ErrFull", c.name, keep, code)
			}
		}
		wantLog(t, g, all, 40)
		wantMend(t, g, 0)
		wantLog(t, g, all, 40)
	}
}

// TestFullByTear: the last commit may come by a Tear that cuts nothing.
func TestFullByTear(t *testing.T) {
	g := log.New()
	for range api.MaxCommits - 1 {
		put(t, g, nil)
	}
	if code := g.Tear(nil, 2); code != 0 {
		t.Errorf("Tear = %d, want 0", code)
	}
	wantLog(t, g, bytes.Repeat([]byte{2, 0}, 40), 40)
	if code := g.Put(nil); code != api.ErrFull {
		t.Errorf("Put = %d, want ErrFull", code)
	}
}

// TestFaultAheadOfFull: codec.Encode's code is told first.
func TestFaultAheadOfFull(t *testing.T) {
	for _, g := range []*log.Log{fill(t), nearlyFull(t, 0)} {
		for _, f := range faults() {
			if code := g.Put(f.w); code != f.code {
				t.Errorf("%s: Put = %d, want %d", f.name, code, f.code)
			}
			if code := g.Tear(f.w, 1); code != f.code {
				t.Errorf("%s: Tear = %d, want %d", f.name, code, f.code)
			}
		}
	}
}

// nearlyFull is a log of 29 commits with room for so many bytes more, at most
// five.
func nearlyFull(t *testing.T, room int) *log.Log {
	t.Helper()
	g := log.New()
	for range 26 {
		put(t, g, longest())
	}
	for _, n := range []int{10, 6, 8 - room} {
		put(t, g, pairs(pair(4, letters(n))))
	}
	if n := len(g.Bytes()); n != api.MaxBytes-room {
		t.Fatalf("%d bytes, want %d", n, api.MaxBytes-room)
	}
	return g
}

// TestFullOfBytes: a log may have MaxBytes bytes, but not one more.
func TestFullOfBytes(t *testing.T) {
	for room := range 6 {
		for _, c := range commits() {
			g := nearlyFull(t, room)
			ahead := g.Bytes()
			if len(c.b) <= room {
				put(t, g, c.w)
				wantLog(t, g, slices.Concat(ahead, c.b), 30)
				continue
			}
			if code := g.Put(c.w); code != api.ErrFull {
				t.Errorf("%s, room for %d: Put = %d, want ErrFull", c.name, room, code)
			}
			wantLog(t, g, ahead, 29)
			wantMend(t, g, 0)
			wantLog(t, g, ahead, 29)
		}
	}
}

// TestTearFullOfBytes: a commit that would not fit whole has Put's code, even
// if what is kept of it would fit.
func TestTearFullOfBytes(t *testing.T) {
	g := nearlyFull(t, 3)
	ahead := g.Bytes()
	for _, keep := range []int{math.MinInt, -1, 0, 1, 3, 4, math.MaxInt} {
		if code := g.Tear(pairs(drop(1)), keep); code != api.ErrFull {
			t.Errorf("Tear(%d) = %d, want ErrFull", keep, code)
		}
		wantLog(t, g, ahead, 29)
		wantMend(t, g, 0)
	}
	if code := g.Tear(nil, 1); code != 0 {
		t.Errorf("Tear of what fits = %d, want 0", code)
	}
	wantMend(t, g, 1)
	put(t, g, nil)
	wantLog(t, g, slices.Concat(ahead, []byte{2, 0}), 30)
}

// TestNoPanic: nothing is promised of a log that is not mended behind a cut,
// but that no call panics.
func TestNoPanic(t *testing.T) {
	for keep := range 114 {
		g := log.New()
		for range 60 {
			g.Tear(longest(), keep)
			g.Put(pairs(pair(1, "a")))
			g.Tear(pairs(drop(8)), keep)
			log.Table(g.Bytes())
		}
		g.Len()
		g.Mend()
	}
}

func TestLogsAreApart(t *testing.T) {
	one, two := log.New(), log.New()
	put(t, one, pairs(drop(1)))
	wantLog(t, two, nil, 0)
	put(t, two, nil)
	wantLog(t, one, []byte{4, 1, 1, 255}, 1)
	wantLog(t, two, []byte{2, 0}, 1)
}

func TestBytesAreNewMemory(t *testing.T) {
	g := log.New()
	put(t, g, pairs(pair(1, "a")))
	want := []byte{5, 1, 1, 1, 'a'}
	first, second := g.Bytes(), g.Bytes()
	clear(first[:cap(first)])
	if !bytes.Equal(second, want) {
		t.Errorf("two answers share memory: %v", second)
	}
	wantLog(t, g, want, 1)
	_ = append(second, 9, 9)
	put(t, g, nil)
	wantLog(t, g, append(want, 2, 0), 2)
	if !bytes.Equal(second, want) {
		t.Errorf("an answer changed: %v", second)
	}
}

// TestBytesBehindMend: an answer of a torn log stays as it is when other bytes
// come to the place of those that were cut off.
func TestBytesBehindMend(t *testing.T) {
	g := log.New()
	g.Tear(pairs(pair(1, "abc")), 6)
	torn := g.Bytes()
	wantMend(t, g, 6)
	put(t, g, pairs(drop(7)))
	if !bytes.Equal(torn, []byte{7, 1, 1, 3, 'a', 'b'}) {
		t.Errorf("an answer changed: %v", torn)
	}
}

func TestPairsAreNotKept(t *testing.T) {
	all := pairs(pair(1, "a"), drop(3), pair(9, "z"))
	g := log.New()
	put(t, g, all[:2])
	if code := g.Tear(all[:2], 99); code != 0 {
		t.Errorf("Tear = %d, want 0", code)
	}
	if !slices.Equal(all, pairs(pair(1, "a"), drop(3), pair(9, "z"))) {
		t.Errorf("what was handed in is changed: %#v", all)
	}
	clear(all)
	wantLog(t, g, []byte{7, 2, 1, 1, 'a', 3, 255, 7, 2, 1, 1, 'a', 3, 255}, 2)
}

// wantTable holds the table of bytes against one to which these commits are
// written: they are all with which the bytes begin.
func wantTable(t *testing.T, b []byte, list [][]api.Pair) {
	t.Helper()
	want, size := table.New(), 0
	for _, w := range list {
		want.Write(w)
		size += len(encode(w))
	}
	got, n := log.Table(b)
	if got == nil || n != size {
		t.Fatalf("Table(%v) = %v, %d, want %d bytes", b, got, n, size)
	}
	sameTable(t, got, want)
}

// sameTable: as many commits, and each key has behind each of them what it has
// in the other table.
func sameTable(t *testing.T, got, want *table.Table) {
	t.Helper()
	if got.Last() != want.Last() || got.First() != want.First() {
		t.Fatalf("commits %d to %d, want %d to %d", got.First(), got.Last(), want.First(), want.Last())
	}
	for k := -1; k <= api.MaxKeys; k++ {
		if got.Since(k) != want.Since(k) {
			t.Fatalf("Since(%d) = %d, want %d", k, got.Since(k), want.Since(k))
		}
		for at := -1; at <= want.Last()+1; at++ {
			gotV, gotCode := got.Read(k, at)
			v, code := want.Read(k, at)
			if gotV != v || gotCode != code {
				t.Fatalf("Read(%d, %d) = %#v, %d, want %#v, %d", k, at, gotV, gotCode, v, code)
			}
		}
	}
}

func TestTableOfNothing(t *testing.T) {
	wantTable(t, nil, nil)
	wantTable(t, []byte{}, nil)
}

func TestTable(t *testing.T) {
	g := log.New()
	var list [][]api.Pair
	for _, c := range commits() {
		put(t, g, c.w)
		list = append(list, c.w)
		wantTable(t, g.Bytes(), list)
	}
}

// TestTableOfCutBytes: bytes that are cut anywhere begin with the commits that
// are whole, whatever else lies in their memory.
func TestTableOfCutBytes(t *testing.T) {
	var all []byte
	var list [][]api.Pair
	for _, c := range commits() {
		begin := len(all)
		all = append(all, c.b...)
		for cut := begin; cut < len(all); cut++ {
			wantTable(t, all[:cut], list)
			wantTable(t, slices.Clone(all[:cut]), list)
		}
		list = append(list, c.w)
	}
	wantTable(t, all, list)
}

// TestTableOfTornLog: a torn log has the table that it has when it is mended.
func TestTableOfTornLog(t *testing.T) {
	one := pairs(pair(1, "a"))
	for keep := range 7 {
		g := log.New()
		put(t, g, one)
		g.Tear(pairs(pair(1, "bcd")), keep)
		wantTable(t, g.Bytes(), [][]api.Pair{one})
		g.Mend()
		wantTable(t, g.Bytes(), [][]api.Pair{one})
	}
}

// TestTableEndsAtFault: the first commit with a code ends it, whatever stands
// behind that one.
func TestTableEndsAtFault(t *testing.T) {
	ahead := []byte{5, 1, 1, 1, 'a', 4, 1, 1, 255}
	list := [][]api.Pair{pairs(pair(1, "a")), pairs(drop(1))}
	for _, bad := range [][]byte{
		{0},
		{1},
		{3, 0, 0},
		{2, 1},
		{3, 1, 0},
		{4, 1, 0, 1},
		{5, 1, 1, 255, 0},
		{4, 1, 8, 255},
		{6, 2, 1, 255, 1, 255},
		append([]byte{17, 1, 0, 13}, letters(13)...),
	} {
		wantTable(t, bad, nil)
		wantTable(t, slices.Concat(bad, ahead), nil)
		wantTable(t, slices.Concat(ahead, bad), list)
		wantTable(t, slices.Concat(ahead, bad, ahead), list)
	}
	wantTable(t, slices.Concat(ahead, []byte{255}, ahead), list)
}

// TestTableOfTooMany: table.Write's code ends it, too.
func TestTableOfTooMany(t *testing.T) {
	for _, c := range commits() {
		list := slices.Repeat([][]api.Pair{c.w}, api.MaxCommits)
		wantTable(t, bytes.Repeat(c.b, api.MaxCommits), list)
		wantTable(t, bytes.Repeat(c.b, api.MaxCommits+1), list)
		wantTable(t, bytes.Repeat(c.b, 1000), list)
	}
}

func TestTableKeepsNoBytes(t *testing.T) {
	b := []byte{5, 1, 1, 1, 'a', 4, 1, 2, 255, 77}
	one, _ := log.Table(b[:9])
	if !bytes.Equal(b, []byte{5, 1, 1, 1, 'a', 4, 1, 2, 255, 77}) {
		t.Errorf("what was handed in is changed: %v", b)
	}
	two, _ := log.Table(b[:9])
	clear(b)
	want := table.New()
	want.Write(pairs(pair(1, "a")))
	want.Write(pairs(drop(2)))
	sameTable(t, one, want)
	one.Write(pairs(pair(5, "x")))
	one.Clear(3)
	sameTable(t, two, want)
}
