package deed_test

import (
	"fmt"
	"math"
	"slices"
	"strings"
	"testing"

	"vaultage/api"
	"vaultage/deed"
	"vaultage/table"
)

var none = api.Value{}

func has(s string) api.Value { return api.Value{There: true, Bytes: s} }

func pair(k int, s string) api.Pair { return api.Pair{Key: k, V: has(s)} }

func drop(k int) api.Pair { return api.Pair{Key: k} }

func pairs(p ...api.Pair) []api.Pair { return p }

func keys(k ...int) []int { return k }

func modes() []int { return []int{api.MShot, api.MSure, api.MLook} }

// noKeys are numbers without a key, those next to a key among them.
func noKeys() []int { return []int{math.MinInt, -1, api.MaxKeys, api.MaxKeys + 1, math.MaxInt} }

// tooLong is a value of one byte too many.
func tooLong() api.Value { return has(strings.Repeat("x", api.MaxValue+1)) }

// noForm is a value that is not there, and has bytes.
func noForm() api.Value { return api.Value{Bytes: "x"} }

func wantGet(t *testing.T, d *deed.Deed, x *table.Table, k int, v api.Value, code int) {
	t.Helper()
	if gotV, gotCode := d.Get(x, k); gotV != v || gotCode != code {
		t.Errorf("Get(%d) = %#v, %d, want %#v, %d", k, gotV, gotCode, v, code)
	}
}

func wantPut(t *testing.T, d *deed.Deed, k int, v api.Value, code int) {
	t.Helper()
	if got := d.Put(k, v); got != code {
		t.Errorf("Put(%d, %#v) = %d, want %d", k, v, got, code)
	}
}

func wantList(t *testing.T, d *deed.Deed, x *table.Table, from, to int, l []api.Pair, code int) {
	t.Helper()
	if gotL, gotCode := d.List(x, from, to); !slices.Equal(gotL, l) || gotCode != code {
		t.Errorf("List(%d, %d) = %#v, %d, want %#v, %d", from, to, gotL, gotCode, l, code)
	}
}

func wantReads(t *testing.T, d *deed.Deed, want []int) {
	t.Helper()
	if got := d.Reads(); !slices.Equal(got, want) {
		t.Errorf("Reads() = %v, want %v", got, want)
	}
}

func wantWrites(t *testing.T, d *deed.Deed, want []api.Pair) {
	t.Helper()
	if got := d.Writes(); !slices.Equal(got, want) {
		t.Errorf("Writes() = %#v, want %#v", got, want)
	}
}

func wantMay(t *testing.T, d *deed.Deed, x *table.Table, want int) {
	t.Helper()
	if got := d.May(x); got != want {
		t.Errorf("May() = %d, want %d", got, want)
	}
}

func write(t *testing.T, x *table.Table, w ...api.Pair) {
	t.Helper()
	if _, code := x.Write(w); code != 0 {
		t.Fatalf("Write(%#v): code %d", w, code)
	}
}

// filled is a table of four commits:
//
//	commit  key 0  key 1  key 3  key 7
//	1              a      b
//	2              -             z
//	3
//	4       (none) c      B
//
// Key 0 has a value without bytes since commit 4; - is no value.
func filled(t *testing.T) *table.Table {
	t.Helper()
	x := table.New()
	write(t, x, pair(1, "a"), pair(3, "b"))
	write(t, x, drop(1), pair(7, "z"))
	write(t, x)
	write(t, x, pair(0, ""), pair(1, "c"), pair(3, "B"))
	return x
}

// filledLists are the lists of filled behind the commits 0 to 4.
func filledLists() [][]api.Pair {
	return [][]api.Pair{
		nil,
		{pair(1, "a"), pair(3, "b")},
		{pair(3, "b"), pair(7, "z")},
		{pair(3, "b"), pair(7, "z")},
		{pair(0, ""), pair(1, "c"), pair(3, "B"), pair(7, "z")},
	}
}

// valueOf is what a list tells of a key.
func valueOf(l []api.Pair, k int) api.Value {
	for _, p := range l {
		if p.Key == k {
			return p.V
		}
	}
	return none
}

func TestNew(t *testing.T) {
	for _, mode := range modes() {
		for _, at := range []int{math.MinInt, -1, 0, 1, api.MaxCommits, api.MaxCommits + 1, math.MaxInt} {
			d := deed.New(mode, at)
			if d == nil {
				t.Fatalf("New(%d, %d) = nil", mode, at)
			}
			if d.Mode() != mode || d.At() != at {
				t.Errorf("New(%d, %d) has %d, %d", mode, at, d.Mode(), d.At())
			}
			wantReads(t, d, nil)
			wantWrites(t, d, nil)
			wantMay(t, d, filled(t), 0)
		}
	}
}

func TestNewOfNoMode(t *testing.T) {
	for _, mode := range []int{math.MinInt, -1, 0, 4, 5, math.MaxInt} {
		for _, at := range []int{-1, 0, 1} {
			if d := deed.New(mode, at); d != nil {
				t.Errorf("New(%d, %d) = %v, want nil", mode, at, d)
			}
		}
	}
}

func TestNewDeedsAreApart(t *testing.T) {
	x := filled(t)
	a, b := deed.New(api.MSure, 4), deed.New(api.MSure, 4)
	wantPut(t, a, 1, has("A"), 0)
	wantGet(t, a, x, 3, has("B"), 0)
	wantReads(t, b, nil)
	wantWrites(t, b, nil)
	wantGet(t, b, x, 1, has("c"), 0)
	wantGet(t, a, x, 1, has("A"), 0)
}

func TestGetSeesItsCommit(t *testing.T) {
	x := filled(t)
	for _, mode := range modes() {
		for at, l := range filledLists() {
			d := deed.New(mode, at)
			for k := range api.MaxKeys {
				wantGet(t, d, x, k, valueOf(l, k), 0)
			}
			wantReads(t, d, keys(0, 1, 2, 3, 4, 5, 6, 7))
			wantWrites(t, d, nil)
		}
	}
}

func TestGetSeesWhatItWrote(t *testing.T) {
	x := filled(t)
	for _, mode := range []int{api.MShot, api.MSure} {
		d := deed.New(mode, 1)
		for k := range api.MaxKeys {
			for _, v := range []api.Value{has("new"), none, has(""), has(strings.Repeat("y", api.MaxValue)), has("\x00\xff"), none, has("last")} {
				wantPut(t, d, k, v, 0)
				wantGet(t, d, x, k, v, 0)
			}
			if k+1 < api.MaxKeys {
				wantGet(t, d, x, k+1, valueOf(filledLists()[1], k+1), 0)
			}
		}
	}
}

// A deed goes on while others write: neither what it saw nor what it did not
// look at yet is changed by them.
func TestGetWhileOthersWrite(t *testing.T) {
	x := filled(t)
	for _, mode := range modes() {
		d := deed.New(mode, 2)
		wantGet(t, d, x, 3, has("b"), 0)
		for x.Last() < 10*mode {
			write(t, x, pair(1, "later"), drop(3), pair(5, "later"))
			wantGet(t, d, x, 3, has("b"), 0)
			wantGet(t, d, x, 1, none, 0)
			wantGet(t, d, x, 5, none, 0)
			wantGet(t, d, x, 7, has("z"), 0)
			wantList(t, d, x, 0, 7, filledLists()[2], 0)
		}
	}
	d := deed.New(api.MShot, 2)
	wantPut(t, d, 3, has("mine"), 0)
	write(t, x, pair(3, "theirs"))
	wantGet(t, d, x, 3, has("mine"), 0)
}

func TestGetNoKey(t *testing.T) {
	x := filled(t)
	x.Clear(4)
	for _, mode := range modes() {
		for _, at := range []int{-1, 0, 4, 5} {
			d := deed.New(mode, at)
			for _, k := range noKeys() {
				wantGet(t, d, x, k, none, api.ErrRange)
			}
			wantReads(t, d, nil)
		}
	}
}

func TestGetTellsTheCodeOfRead(t *testing.T) {
	x := filled(t)
	for _, at := range []int{math.MinInt, -1, 5, math.MaxInt} {
		for _, mode := range modes() {
			d := deed.New(mode, at)
			wantGet(t, d, x, 3, none, api.ErrRange)
			wantReads(t, d, nil)
		}
	}
	x.Clear(2)
	d := deed.New(api.MSure, 1)
	wantGet(t, d, x, 1, none, api.ErrOld)
	wantGet(t, d, x, 7, none, api.ErrOld)
	wantReads(t, d, nil)
	// No version of key 3 was forgotten that commit 1 needs.
	wantGet(t, d, x, 3, has("b"), 0)
	wantReads(t, d, keys(3))
}

// What was read stays read, though it is forgotten by now.
func TestGetOfWhatWasForgottenMeanwhile(t *testing.T) {
	x := filled(t)
	d := deed.New(api.MSure, 1)
	wantGet(t, d, x, 1, has("a"), 0)
	x.Clear(4)
	wantGet(t, d, x, 1, none, api.ErrOld)
	wantReads(t, d, keys(1))
	wantMay(t, d, x, api.ErrStale)
}

func TestGetOfItsOwnHasNoCode(t *testing.T) {
	x := filled(t)
	x.Clear(4)
	for _, at := range []int{math.MinInt, -1, 0, 1, 5, math.MaxInt} {
		d := deed.New(api.MSure, at)
		wantPut(t, d, 1, has("mine"), 0)
		wantGet(t, d, x, 1, has("mine"), 0)
		wantPut(t, d, 1, none, 0)
		wantGet(t, d, x, 1, none, 0)
		wantReads(t, d, nil)
	}
}

// A deed may be behind a commit that is still to come: it sees it then.
func TestGetBehindACommitToCome(t *testing.T) {
	x := filled(t)
	d := deed.New(api.MSure, 5)
	wantGet(t, d, x, 3, none, api.ErrRange)
	write(t, x, pair(3, "five"))
	wantReads(t, d, nil)
	wantGet(t, d, x, 3, has("five"), 0)
	wantReads(t, d, keys(3))
	wantMay(t, d, x, 0)
}

func TestPut(t *testing.T) {
	most := has(strings.Repeat("x", api.MaxValue))
	for _, c := range []struct {
		k    int
		v    api.Value
		code int
	}{
		{0, has("x"), 0},
		{7, has("x"), 0},
		{3, none, 0},
		{3, has(""), 0},
		{3, most, 0},
		{-1, has("x"), api.ErrRange},
		{8, has("x"), api.ErrRange},
		{math.MinInt, has("x"), api.ErrRange},
		{math.MaxInt, has("x"), api.ErrRange},
		{-1, tooLong(), api.ErrRange},
		{8, noForm(), api.ErrRange},
		{3, tooLong(), api.ErrLong},
		{3, noForm(), api.ErrForm},
		{3, api.Value{Bytes: tooLong().Bytes}, api.ErrLong},
	} {
		for _, mode := range []int{api.MShot, api.MSure} {
			d := deed.New(mode, 1)
			wantPut(t, d, c.k, c.v, c.code)
			if c.code != 0 {
				wantWrites(t, d, nil)
				continue
			}
			wantWrites(t, d, pairs(api.Pair{Key: c.k, V: c.v}))
		}
	}
}

func TestPutOfALook(t *testing.T) {
	x := filled(t)
	d := deed.New(api.MLook, 1)
	for k := range api.MaxKeys {
		for _, v := range []api.Value{has("x"), none, has(""), tooLong(), noForm()} {
			wantPut(t, d, k, v, api.ErrKind)
		}
	}
	for _, k := range noKeys() {
		wantPut(t, d, k, has("x"), api.ErrRange)
		wantPut(t, d, k, tooLong(), api.ErrRange)
	}
	wantWrites(t, d, nil)
	wantGet(t, d, x, 1, has("a"), 0)
	wantMay(t, d, x, 0)
}

func TestFaultyPutChangesNothing(t *testing.T) {
	x := filled(t)
	d := deed.New(api.MSure, 1)
	wantPut(t, d, 1, has("mine"), 0)
	faulty := func(k int) {
		wantPut(t, d, k, tooLong(), api.ErrLong)
		wantPut(t, d, k, noForm(), api.ErrForm)
	}
	faulty(1)
	faulty(3)
	for _, k := range noKeys() {
		wantPut(t, d, k, has("x"), api.ErrRange)
	}
	wantWrites(t, d, pairs(pair(1, "mine")))
	wantReads(t, d, nil)
	wantGet(t, d, x, 1, has("mine"), 0)
	wantGet(t, d, x, 3, has("b"), 0)
	wantReads(t, d, keys(3))
}

func TestPutLeavesTheTable(t *testing.T) {
	x := filled(t)
	d := deed.New(api.MShot, 4)
	for k := range api.MaxKeys {
		wantPut(t, d, k, has("mine"), 0)
	}
	wantMay(t, d, x, 0)
	wantFilled(t, x)
	other := deed.New(api.MLook, 4)
	wantList(t, other, x, 0, 7, filledLists()[4], 0)
}

// wantFilled looks at all that the table filled tells.
func wantFilled(t *testing.T, x *table.Table) {
	t.Helper()
	for at, want := range filledLists() {
		if l, code := x.List(0, 7, at); !slices.Equal(l, want) || code != 0 {
			t.Errorf("the table's List behind %d = %#v, %d, want %#v", at, l, code, want)
		}
	}
	if x.Last() != 4 || x.First() != 0 {
		t.Errorf("the table goes from %d to %d, want 0 to 4", x.First(), x.Last())
	}
}

func TestList(t *testing.T) {
	x := filled(t)
	for at, all := range filledLists() {
		for from := range api.MaxKeys {
			for to := range api.MaxKeys {
				d := deed.New(api.MSure, at)
				var want []api.Pair
				var read []int
				for k := from; k <= to; k++ {
					read = append(read, k)
					if v := valueOf(all, k); v.There {
						want = append(want, api.Pair{Key: k, V: v})
					}
				}
				wantList(t, d, x, from, to, want, 0)
				wantReads(t, d, read)
				wantWrites(t, d, nil)
			}
		}
	}
	wantFilled(t, x)
}

func TestListWithWhatItWrote(t *testing.T) {
	x := filled(t)
	d := deed.New(api.MSure, 1)
	wantPut(t, d, 1, none, 0)
	wantPut(t, d, 3, has("mine"), 0)
	wantPut(t, d, 5, has(""), 0)
	wantPut(t, d, 6, none, 0)
	wantList(t, d, x, 1, 6, pairs(pair(3, "mine"), pair(5, "")), 0)
	wantReads(t, d, keys(2, 4))
	wantWrites(t, d, pairs(drop(1), pair(3, "mine"), pair(5, ""), drop(6)))
}

func TestListNoKey(t *testing.T) {
	x := filled(t)
	for _, mode := range modes() {
		for _, at := range []int{-1, 1, 5} {
			d := deed.New(mode, at)
			for _, no := range noKeys() {
				wantList(t, d, x, no, 3, nil, api.ErrRange)
				wantList(t, d, x, 3, no, nil, api.ErrRange)
				wantList(t, d, x, no, no, nil, api.ErrRange)
			}
			wantReads(t, d, nil)
		}
	}
	// That one is no key is told ahead of what is forgotten.
	x.Clear(4)
	d := deed.New(api.MSure, 1)
	wantList(t, d, x, 1, 8, nil, api.ErrRange)
	wantList(t, d, x, 1, 7, nil, api.ErrOld)
}

// From above to there is no key to get, so no code of one, either.
func TestListOfNone(t *testing.T) {
	x := filled(t)
	for _, at := range []int{-1, 0, 4, 5} {
		d := deed.New(api.MSure, at)
		wantList(t, d, x, 4, 3, nil, 0)
		wantList(t, d, x, 7, 0, nil, 0)
		wantReads(t, d, nil)
	}
}

func TestListTellsTheFirstCode(t *testing.T) {
	x := table.New()
	write(t, x, pair(1, "a"), pair(3, "b"), pair(5, "c"))
	write(t, x, pair(3, "B"))
	write(t, x, pair(5, "C"))
	x.Clear(3)
	// Behind commit 1 the keys 3 and 5 are forgotten, the others are not.
	d := deed.New(api.MSure, 1)
	wantList(t, d, x, 1, 6, nil, api.ErrOld)
	wantReads(t, d, keys(1, 2))
	wantList(t, d, x, 3, 6, nil, api.ErrOld)
	wantReads(t, d, keys(1, 2))
	wantList(t, d, x, 4, 7, nil, api.ErrOld)
	wantReads(t, d, keys(1, 2, 4))
	wantPut(t, d, 3, has("mine"), 0)
	wantList(t, d, x, 0, 4, pairs(pair(1, "a"), pair(3, "mine")), 0)
	wantReads(t, d, keys(0, 1, 2, 4))
	wantList(t, d, x, 0, 7, nil, api.ErrOld)
	wantReads(t, d, keys(0, 1, 2, 4))
	wantPut(t, d, 5, none, 0)
	wantList(t, d, x, 0, 7, pairs(pair(1, "a"), pair(3, "mine")), 0)
	wantReads(t, d, keys(0, 1, 2, 4, 6, 7))
	wantWrites(t, d, pairs(pair(3, "mine"), drop(5)))
}

func TestListBehindNoCommit(t *testing.T) {
	x := filled(t)
	for _, at := range []int{math.MinInt, -1, 5, math.MaxInt} {
		d := deed.New(api.MSure, at)
		wantList(t, d, x, 0, 7, nil, api.ErrRange)
		wantReads(t, d, nil)
		wantPut(t, d, 2, has("mine"), 0)
		wantList(t, d, x, 2, 2, pairs(pair(2, "mine")), 0)
		wantList(t, d, x, 2, 3, nil, api.ErrRange)
		wantReads(t, d, nil)
	}
}

func TestReads(t *testing.T) {
	x := filled(t)
	d := deed.New(api.MShot, 1)
	for _, k := range keys(7, 3, 0, 3, 7, 3) {
		d.Get(x, k)
	}
	wantReads(t, d, keys(0, 3, 7))
	// A key without a value is read, too; one that it wrote ahead is not.
	wantGet(t, d, x, 6, none, 0)
	wantPut(t, d, 2, has("mine"), 0)
	wantGet(t, d, x, 2, has("mine"), 0)
	wantReads(t, d, keys(0, 3, 6, 7))
	// What was read ahead of being written stays read.
	wantPut(t, d, 3, none, 0)
	wantReads(t, d, keys(0, 3, 6, 7))
	wantGet(t, d, x, 3, none, 0)
	wantReads(t, d, keys(0, 3, 6, 7))
}

func TestWrites(t *testing.T) {
	d := deed.New(api.MShot, 1)
	for _, p := range pairs(pair(7, "a"), pair(2, "b"), drop(4), pair(0, "c"), pair(2, "d"), drop(7), pair(4, "")) {
		wantPut(t, d, p.Key, p.V, 0)
	}
	wantWrites(t, d, pairs(pair(0, "c"), pair(2, "d"), pair(4, ""), drop(7)))
	if code := table.Check(d.Writes()); code != 0 {
		t.Errorf("the table refuses what the deed wrote: %d", code)
	}
	for k := range api.MaxKeys {
		wantPut(t, d, k, none, 0)
	}
	wantWrites(t, d, pairs(drop(0), drop(1), drop(2), drop(3), drop(4), drop(5), drop(6), drop(7)))
}

func TestWritingWhatItHadIsWriting(t *testing.T) {
	x := filled(t)
	d := deed.New(api.MShot, 2)
	wantPut(t, d, 1, none, 0)
	wantPut(t, d, 3, has("b"), 0)
	wantWrites(t, d, pairs(drop(1), pair(3, "b")))
	wantMay(t, d, x, api.ErrClash)
}

// TestMay: a deed that reads one key and writes another one, and a commit that
// writes one, both or none of them.
func TestMay(t *testing.T) {
	for _, c := range []struct {
		theirs     []api.Pair
		shot, sure int
	}{
		{nil, 0, 0},
		{pairs(pair(4, "x")), 0, 0},
		{pairs(pair(2, "x")), 0, api.ErrStale},
		{pairs(drop(2)), 0, api.ErrStale},
		{pairs(pair(5, "x")), api.ErrClash, api.ErrClash},
		{pairs(drop(5)), api.ErrClash, api.ErrClash},
		{pairs(pair(2, "x"), pair(5, "x")), api.ErrClash, api.ErrClash},
	} {
		for mode, want := range map[int]int{api.MShot: c.shot, api.MSure: c.sure} {
			x := table.New()
			write(t, x, pair(2, "a"), pair(5, "b"))
			d := deed.New(mode, 1)
			wantGet(t, d, x, 2, has("a"), 0)
			wantPut(t, d, 5, has("mine"), 0)
			wantMay(t, d, x, 0)
			write(t, x, c.theirs...)
			wantMay(t, d, x, want)
			// That commits go on elsewhere does not change it.
			write(t, x, pair(0, "x"))
			wantMay(t, d, x, want)
		}
	}
}

// A clash is told ahead of what is stale, wherever its key is.
func TestMayTellsAClashFirst(t *testing.T) {
	for _, c := range []struct{ read, written int }{{0, 7}, {7, 0}, {3, 4}, {4, 3}, {5, 5}} {
		x := table.New()
		d := deed.New(api.MSure, 0)
		wantGet(t, d, x, c.read, none, 0)
		write(t, x, pair(c.read, "x"))
		wantMay(t, d, x, api.ErrStale)
		write(t, x, pair(c.written, "x"))
		wantMay(t, d, x, api.ErrStale)
		wantPut(t, d, c.written, has("mine"), 0)
		wantMay(t, d, x, api.ErrClash)
	}
}

// What is in the way is a commit above At, not one that is At or below.
func TestMayAtTheEdge(t *testing.T) {
	x := filled(t)
	for _, c := range []struct{ key, since int }{{0, 4}, {1, 4}, {2, 0}, {3, 4}, {7, 2}} {
		for at := -1; at <= 6; at++ {
			clash, stale := 0, 0
			if c.since > at {
				clash, stale = api.ErrClash, api.ErrStale
			}
			for _, mode := range []int{api.MShot, api.MSure} {
				d := deed.New(mode, at)
				wantPut(t, d, c.key, has("mine"), 0)
				wantMay(t, d, x, clash)
			}
			if at < 0 || at > 4 {
				continue
			}
			for mode, want := range map[int]int{api.MShot: 0, api.MSure: stale, api.MLook: 0} {
				d := deed.New(mode, at)
				d.Get(x, c.key)
				wantMay(t, d, x, want)
			}
		}
	}
}

func TestMayOfALook(t *testing.T) {
	x := filled(t)
	for at := range 5 {
		d := deed.New(api.MLook, at)
		wantList(t, d, x, 0, 7, filledLists()[at], 0)
		wantMay(t, d, x, 0)
		d.Put(1, has("x"))
		wantMay(t, d, x, 0)
	}
}

// A key that it wrote and then got is none of Reads: nothing goes stale by it,
// but there is a clash.
func TestMayOfWhatItGotOfItsOwn(t *testing.T) {
	x := table.New()
	d := deed.New(api.MSure, 0)
	wantPut(t, d, 2, has("mine"), 0)
	wantGet(t, d, x, 2, has("mine"), 0)
	wantMay(t, d, x, 0)
	write(t, x, pair(3, "x"))
	wantMay(t, d, x, 0)
	write(t, x, drop(2))
	wantMay(t, d, x, api.ErrClash)
}

func TestMayChangesNothing(t *testing.T) {
	x := filled(t)
	d := deed.New(api.MSure, 1)
	wantGet(t, d, x, 1, has("a"), 0)
	wantPut(t, d, 7, has("mine"), 0)
	for range 3 {
		wantMay(t, d, x, api.ErrClash)
	}
	wantReads(t, d, keys(1))
	wantWrites(t, d, pairs(pair(7, "mine")))
	if d.Mode() != api.MSure || d.At() != 1 {
		t.Errorf("the deed has %d, %d now", d.Mode(), d.At())
	}
	wantFilled(t, x)
}

// A clearing forgets, but is in nobody's way.
func TestMayBehindAClearing(t *testing.T) {
	x := filled(t)
	d := deed.New(api.MSure, 2)
	wantGet(t, d, x, 2, none, 0)
	wantGet(t, d, x, 7, has("z"), 0)
	wantPut(t, d, 5, has("mine"), 0)
	x.Clear(99)
	wantMay(t, d, x, 0)
}

func TestAnswersAreNewMemory(t *testing.T) {
	x := filled(t)
	d := deed.New(api.MSure, 4)
	wantPut(t, d, 2, has("mine"), 0)
	l, _ := d.List(x, 0, 7)
	r, w := d.Reads(), d.Writes()
	spoil := func() {
		for i := range l {
			l[i] = pair(6, "spoilt")
		}
		for i := range r {
			r[i] = 6
		}
		for i := range w {
			w[i] = pair(6, "spoilt")
		}
		_, _, _ = append(l, pair(6, "x")), append(r, 6), append(w, pair(6, "x"))
	}
	spoil()
	all := pairs(pair(0, ""), pair(1, "c"), pair(2, "mine"), pair(3, "B"), pair(7, "z"))
	wantList(t, d, x, 0, 7, all, 0)
	wantReads(t, d, keys(0, 1, 3, 4, 5, 6, 7))
	wantWrites(t, d, pairs(pair(2, "mine")))
	wantFilled(t, x)
	// Nor does what the deed does later come into an answer of before.
	early := d.Writes()
	wantPut(t, d, 2, has("later"), 0)
	if !slices.Equal(early, pairs(pair(2, "mine"))) {
		t.Errorf("an answer is %s by now", fmt.Sprint(early))
	}
}

// TestTwoSeats is the document's example: the one writes key 1 and is done, the
// other one still reads what key 1 had ahead, and is not done then.
func TestTwoSeats(t *testing.T) {
	x := table.New()
	one, other := deed.New(api.MSure, x.Last()), deed.New(api.MSure, x.Last())
	wantPut(t, one, 1, has("one"), 0)
	wantMay(t, one, x, 0)
	write(t, x, one.Writes()...)
	wantGet(t, other, x, 1, none, 0)
	wantPut(t, other, 2, has("other"), 0)
	wantMay(t, other, x, api.ErrStale)
}
