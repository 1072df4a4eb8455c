package table_test

import (
	"fmt"
	"math"
	"slices"
	"strings"
	"testing"

	"vaultage/api"
	"vaultage/table"
)

var none = api.Value{}

func has(s string) api.Value { return api.Value{There: true, Bytes: s} }

func pair(k int, s string) api.Pair { return api.Pair{Key: k, V: has(s)} }

func drop(k int) api.Pair { return api.Pair{Key: k} }

func pairs(p ...api.Pair) []api.Pair { return p }

// noKeys are numbers without a key, those next to a key among them.
func noKeys() []int { return []int{math.MinInt, -1, api.MaxKeys, api.MaxKeys + 1, math.MaxInt} }

// tooLong is a value of one byte too many.
func tooLong() api.Value { return has(strings.Repeat("x", api.MaxValue+1)) }

func wantWrite(t *testing.T, x *table.Table, w []api.Pair, number, code int) {
	t.Helper()
	if gotNumber, gotCode := x.Write(w); gotNumber != number || gotCode != code {
		t.Errorf("Write(%#v) = %d, %d, want %d, %d", w, gotNumber, gotCode, number, code)
	}
}

func wantRead(t *testing.T, x *table.Table, k, at int, v api.Value, code int) {
	t.Helper()
	if gotV, gotCode := x.Read(k, at); gotV != v || gotCode != code {
		t.Errorf("Read(%d, %d) = %#v, %d, want %#v, %d", k, at, gotV, gotCode, v, code)
	}
}

func wantList(t *testing.T, x *table.Table, from, to, at int, l []api.Pair, code int) {
	t.Helper()
	if gotL, gotCode := x.List(from, to, at); !slices.Equal(gotL, l) || gotCode != code {
		t.Errorf("List(%d, %d, %d) = %#v, %d, want %#v, %d", from, to, at, gotL, gotCode, l, code)
	}
}

func wantNumber(t *testing.T, what string, got, want int) {
	t.Helper()
	if got != want {
		t.Errorf("%s = %d, want %d", what, got, want)
	}
}

// filled is a table of four commits:
//
//	commit  key 0  key 1  key 3  key 7
//	1              a      b
//	2              -             z
//	3
//	4       (none) c      B
//
// Key 0 has a value without bytes since commit 4; - is no value.
func filled(t *testing.T) *table.Table {
	t.Helper()
	x := table.New()
	wantWrite(t, x, pairs(pair(1, "a"), pair(3, "b")), 1, 0)
	wantWrite(t, x, pairs(drop(1), pair(7, "z")), 2, 0)
	wantWrite(t, x, nil, 3, 0)
	wantWrite(t, x, pairs(pair(0, ""), pair(1, "c"), pair(3, "B")), 4, 0)
	return x
}

// filledLists are the lists of filled behind the commits 0 to 4.
func filledLists() [][]api.Pair {
	return [][]api.Pair{
		nil,
		{pair(1, "a"), pair(3, "b")},
		{pair(3, "b"), pair(7, "z")},
		{pair(3, "b"), pair(7, "z")},
		{pair(0, ""), pair(1, "c"), pair(3, "B"), pair(7, "z")},
	}
}

// wantFilled looks at all that filled tells.
func wantFilled(t *testing.T, x *table.Table) {
	t.Helper()
	for at, l := range filledLists() {
		wantList(t, x, 0, api.MaxKeys-1, at, l, 0)
	}
	wantNumber(t, "Last()", x.Last(), 4)
	wantNumber(t, "First()", x.First(), 0)
	for k, since := range []int{4, 4, 0, 4, 0, 0, 0, 2} {
		wantNumber(t, fmt.Sprintf("Since(%d)", k), x.Since(k), since)
	}
}

func TestNewHasNothing(t *testing.T) {
	x := table.New()
	wantNumber(t, "Last()", x.Last(), 0)
	wantNumber(t, "First()", x.First(), 0)
	for k := range api.MaxKeys {
		wantRead(t, x, k, 0, none, 0)
		wantNumber(t, fmt.Sprintf("Since(%d)", k), x.Since(k), 0)
	}
	wantList(t, x, 0, api.MaxKeys-1, 0, nil, 0)
	wantRead(t, x, 0, 1, none, api.ErrRange)
	wantNumber(t, "Clear(99)", x.Clear(99), 0)
}

func TestNewTablesAreApart(t *testing.T) {
	a, b := table.New(), table.New()
	wantWrite(t, a, pairs(pair(2, "a")), 1, 0)
	wantNumber(t, "Last()", b.Last(), 0)
	wantWrite(t, b, pairs(pair(2, "b")), 1, 0)
	wantRead(t, a, 2, 1, has("a"), 0)
	wantRead(t, b, 2, 1, has("b"), 0)
}

func TestCheck(t *testing.T) {
	most := has(strings.Repeat("x", api.MaxValue))
	noForm := api.Value{Bytes: "x"}
	all := pairs(pair(0, "0"), drop(1), pair(2, ""), pair(3, "3"), drop(4), pair(5, "5"), pair(6, "6"), pair(7, "7"))
	for _, c := range []struct {
		w    []api.Pair
		code int
	}{
		{nil, 0},
		{pairs(), 0},
		{[]api.Pair{}, 0},
		{pairs(pair(0, "x")), 0},
		{pairs(pair(7, "x")), 0},
		{pairs(drop(3)), 0},
		{pairs(pair(0, "x"), pair(7, "x")), 0},
		{all, 0},
		{pairs(api.Pair{Key: 4, V: most}), 0},
		{pairs(pair(-1, "x")), api.ErrRange},
		{pairs(pair(8, "x")), api.ErrRange},
		{append(slices.Clone(all), pair(8, "x")), api.ErrRange},
		{append(slices.Clone(all), pair(7, "x")), api.ErrOrder},
		{pairs(pair(3, "x"), pair(1, "x")), api.ErrOrder},
		{pairs(pair(3, "x"), pair(3, "x")), api.ErrOrder},
		{pairs(drop(0), drop(0)), api.ErrOrder},
		{pairs(pair(1, "x"), pair(5, "x"), pair(3, "x")), api.ErrOrder},
		{pairs(api.Pair{Key: 1, V: tooLong()}), api.ErrLong},
		{pairs(api.Pair{Key: 1, V: noForm}), api.ErrForm},
		{pairs(api.Pair{Key: 1, V: api.Value{Bytes: tooLong().Bytes}}), api.ErrLong},
		{pairs(drop(0), api.Pair{Key: 1, V: noForm}), api.ErrForm},
		{pairs(drop(0), drop(1), api.Pair{Key: 2, V: tooLong()}), api.ErrLong},
	} {
		wantNumber(t, fmt.Sprintf("Check(%#v)", c.w), table.Check(c.w), c.code)
	}
	for _, k := range noKeys() {
		wantNumber(t, fmt.Sprintf("Check of key %d", k), table.Check(pairs(drop(k))), api.ErrRange)
	}
}

func TestCheckTellsTheFirstFaultOfTheFirstPair(t *testing.T) {
	long := func(k int) api.Pair { return api.Pair{Key: k, V: tooLong()} }
	form := func(k int) api.Pair { return api.Pair{Key: k, V: api.Value{Bytes: "x"}} }
	for _, c := range []struct {
		w    []api.Pair
		code int
	}{
		// Several faults of one pair.
		{pairs(long(8)), api.ErrRange},
		{pairs(form(-1)), api.ErrRange},
		{pairs(drop(3), drop(-1)), api.ErrRange},
		{pairs(drop(3), long(-1)), api.ErrRange},
		{pairs(drop(3), long(3)), api.ErrOrder},
		{pairs(drop(3), form(1)), api.ErrOrder},
		// Faults of several pairs.
		{pairs(long(1), drop(8)), api.ErrLong},
		{pairs(form(1), drop(8)), api.ErrForm},
		{pairs(form(1), drop(0)), api.ErrForm},
		{pairs(form(1), long(2)), api.ErrForm},
		{pairs(long(1), form(2)), api.ErrLong},
		{pairs(drop(1), drop(1), drop(8)), api.ErrOrder},
		{pairs(drop(1), drop(1), long(2)), api.ErrOrder},
		{pairs(drop(8), drop(1), drop(1)), api.ErrRange},
		{pairs(drop(8), long(1)), api.ErrRange},
	} {
		wantNumber(t, fmt.Sprintf("Check(%#v)", c.w), table.Check(c.w), c.code)
	}
}

func TestWriteMakesCommits(t *testing.T) {
	wantFilled(t, filled(t))
}

func TestWriteOfNothingIsACommit(t *testing.T) {
	x := table.New()
	wantWrite(t, x, nil, 1, 0)
	wantWrite(t, x, []api.Pair{}, 2, 0)
	wantNumber(t, "Last()", x.Last(), 2)
	for k := range api.MaxKeys {
		wantNumber(t, fmt.Sprintf("Since(%d)", k), x.Since(k), 0)
		wantRead(t, x, k, 2, none, 0)
	}
}

func TestWriteOfWhatWasThereIsAVersion(t *testing.T) {
	x := table.New()
	wantWrite(t, x, pairs(drop(2)), 1, 0)
	wantNumber(t, "Since(2)", x.Since(2), 1)
	wantWrite(t, x, pairs(pair(2, "x")), 2, 0)
	wantWrite(t, x, pairs(pair(2, "x")), 3, 0)
	wantNumber(t, "Since(2)", x.Since(2), 3)
	wantNumber(t, "Clear(3)", x.Clear(3), 3)
}

func TestWriteOfAllKeys(t *testing.T) {
	x := table.New()
	var all []api.Pair
	for k := range api.MaxKeys {
		all = append(all, pair(k, strings.Repeat(fmt.Sprint(k), api.MaxValue)))
	}
	wantWrite(t, x, all, 1, 0)
	wantList(t, x, 0, api.MaxKeys-1, 1, all, 0)
	wantList(t, x, 0, api.MaxKeys-1, 0, nil, 0)
}

func TestWriteWithAFaultChangesNothing(t *testing.T) {
	for _, c := range []struct {
		w    []api.Pair
		code int
	}{
		{pairs(pair(8, "x")), api.ErrRange},
		{pairs(pair(-1, "x")), api.ErrRange},
		{pairs(pair(0, "x"), pair(8, "x")), api.ErrRange},
		{pairs(pair(0, "x"), pair(2, "x"), pair(1, "x")), api.ErrOrder},
		{pairs(pair(2, "x"), pair(2, "y")), api.ErrOrder},
		{pairs(pair(0, "x"), api.Pair{Key: 1, V: tooLong()}), api.ErrLong},
		{pairs(pair(0, "x"), api.Pair{Key: 1, V: api.Value{Bytes: "x"}}), api.ErrForm},
	} {
		x := filled(t)
		wantWrite(t, x, c.w, 0, c.code)
		wantFilled(t, x)
		wantWrite(t, x, pairs(pair(5, "y")), 5, 0)
		wantRead(t, x, 5, 5, has("y"), 0)
	}
}

func TestWriteWhenFull(t *testing.T) {
	x := table.New()
	for i := 1; i <= api.MaxCommits; i++ {
		wantWrite(t, x, pairs(pair(i%api.MaxKeys, fmt.Sprint(i))), i, 0)
	}
	last := api.MaxCommits % api.MaxKeys
	for range 2 {
		wantWrite(t, x, nil, 0, api.ErrFull)
		wantWrite(t, x, pairs(pair(last, "x")), 0, api.ErrFull)
		// What is wrong with the pairs is told ahead.
		wantWrite(t, x, pairs(drop(8)), 0, api.ErrRange)
		wantWrite(t, x, pairs(drop(1), drop(1)), 0, api.ErrOrder)
		wantWrite(t, x, pairs(api.Pair{Key: 1, V: tooLong()}), 0, api.ErrLong)
		wantNumber(t, "Last()", x.Last(), api.MaxCommits)
		wantNumber(t, "Since", x.Since(last), api.MaxCommits)
		wantRead(t, x, last, api.MaxCommits, has(fmt.Sprint(api.MaxCommits)), 0)
		// Commits that are forgotten make no room.
		x.Clear(api.MaxCommits)
	}
}

func TestWriteNeitherChangesNorKeepsItsPairs(t *testing.T) {
	memory := pairs(pair(1, "a"), pair(3, "b"), pair(5, "behind"))
	w := memory[:2]
	x := table.New()
	wantNumber(t, "Check", table.Check(w), 0)
	wantWrite(t, x, w, 1, 0)
	if want := pairs(pair(1, "a"), pair(3, "b"), pair(5, "behind")); !slices.Equal(memory, want) {
		t.Errorf("Write changed its pairs to %#v", memory)
	}
	for i := range memory {
		memory[i] = pair(7, "spoilt")
	}
	wantList(t, x, 0, api.MaxKeys-1, 1, pairs(pair(1, "a"), pair(3, "b")), 0)
}

func TestReadTellsFaults(t *testing.T) {
	x := filled(t)
	for _, k := range noKeys() {
		wantRead(t, x, k, 1, none, api.ErrRange)
		wantRead(t, x, k, 5, none, api.ErrRange)
		wantRead(t, x, k, -1, none, api.ErrRange)
	}
	for k := range api.MaxKeys {
		for _, at := range []int{math.MinInt, -1, 5, 6, math.MaxInt} {
			wantRead(t, x, k, at, none, api.ErrRange)
		}
	}
	wantFilled(t, x)
}

func TestReadBehindEachCommit(t *testing.T) {
	x := filled(t)
	for k, values := range map[int][]api.Value{
		0: {none, none, none, none, has("")},
		1: {none, has("a"), none, none, has("c")},
		2: {none, none, none, none, none},
		3: {none, has("b"), has("b"), has("b"), has("B")},
		7: {none, none, has("z"), has("z"), has("z")},
	} {
		for at, v := range values {
			wantRead(t, x, k, at, v, 0)
		}
	}
}

func TestReadOfWhatIsForgotten(t *testing.T) {
	x := filled(t)
	wantNumber(t, "Clear(2)", x.Clear(2), 4)
	for at := range 2 {
		wantRead(t, x, 1, at, none, api.ErrOld)
		wantRead(t, x, 7, at, none, api.ErrOld)
	}
	wantRead(t, x, 3, 0, none, api.ErrOld)
	wantRead(t, x, 3, 1, has("b"), 0)
	wantRead(t, x, 0, 0, none, 0)
	wantRead(t, x, 1, -1, none, api.ErrRange)
	wantRead(t, x, 1, 5, none, api.ErrRange)
}

func TestSinceOfNoKey(t *testing.T) {
	x := filled(t)
	for _, k := range noKeys() {
		wantNumber(t, fmt.Sprintf("Since(%d)", k), x.Since(k), -1)
	}
}

func TestListFromOneToAnother(t *testing.T) {
	x := filled(t)
	for at, whole := range filledLists() {
		for from := range api.MaxKeys {
			for to := range api.MaxKeys {
				var want []api.Pair
				for _, p := range whole {
					if from <= p.Key && p.Key <= to {
						want = append(want, p)
					}
				}
				wantList(t, x, from, to, at, want, 0)
			}
		}
	}
	wantFilled(t, x)
}

func TestListTellsFaults(t *testing.T) {
	x := filled(t)
	for _, k := range noKeys() {
		for _, at := range []int{-1, 0, 4, 5} {
			wantList(t, x, k, 7, at, nil, api.ErrRange)
			wantList(t, x, 0, k, at, nil, api.ErrRange)
			wantList(t, x, 7, k, at, nil, api.ErrRange)
			wantList(t, x, k, k, at, nil, api.ErrRange)
		}
	}
	for _, at := range []int{math.MinInt, -1, 5, math.MaxInt} {
		wantList(t, x, 0, 7, at, nil, api.ErrRange)
		wantList(t, x, 2, 2, at, nil, api.ErrRange)
		// No key is read.
		wantList(t, x, 3, 2, at, nil, 0)
		wantList(t, x, 7, 0, at, nil, 0)
	}
	wantFilled(t, x)
}

func TestListOfWhatIsForgotten(t *testing.T) {
	x := filled(t)
	wantNumber(t, "Clear(2)", x.Clear(2), 4)
	// Keys with a value ahead of the one that is forgotten are not told.
	wantList(t, x, 0, 7, 1, nil, api.ErrOld)
	wantList(t, x, 2, 7, 1, nil, api.ErrOld)
	wantList(t, x, 3, 7, 1, nil, api.ErrOld)
	wantList(t, x, 2, 6, 1, pairs(pair(3, "b")), 0)
	wantList(t, x, 4, 6, 0, nil, 0)
	wantList(t, x, 3, 1, 0, nil, 0)
	wantList(t, x, 0, 7, -1, nil, api.ErrRange)
	wantList(t, x, 0, 8, 1, nil, api.ErrRange)
	for at := 2; at <= 4; at++ {
		wantList(t, x, 0, 7, at, filledLists()[at], 0)
	}
}

func TestListIsNewMemory(t *testing.T) {
	x := filled(t)
	early, _ := x.List(0, 7, 4)
	spoilt, _ := x.List(0, 7, 4)
	spoilt = spoilt[:cap(spoilt)]
	for i := range spoilt {
		spoilt[i] = pair(6, "spoilt")
	}
	wantFilled(t, x)
	wantWrite(t, x, pairs(pair(3, "new")), 5, 0)
	x.Clear(5)
	if !slices.Equal(early, filledLists()[4]) {
		t.Errorf("a list told ahead has become %#v", early)
	}
}

func TestClearOfAllChains(t *testing.T) {
	for _, c := range []struct{ least, forgotten, first int }{
		{math.MinInt, 0, 0},
		{-1, 0, 0},
		{0, 0, 0},
		{1, 2, 1},
		{2, 4, 2},
		{3, 4, 2},
		{4, 7, 4},
		{5, 7, 4},
		{math.MaxInt, 7, 4},
	} {
		x := filled(t)
		wantNumber(t, fmt.Sprintf("Clear(%d)", c.least), x.Clear(c.least), c.forgotten)
		wantNumber(t, "First()", x.First(), c.first)
		wantNumber(t, "Last()", x.Last(), 4)
		for k, since := range []int{4, 4, 0, 4, 0, 0, 0, 2} {
			wantNumber(t, fmt.Sprintf("Since(%d)", k), x.Since(k), since)
		}
		wantNumber(t, "Clear once more", x.Clear(c.least), 0)
	}
}

func TestFirstIsTheGreatest(t *testing.T) {
	for k := range api.MaxKeys {
		x := table.New()
		wantWrite(t, x, pairs(pair(3, "x")), 1, 0)
		wantWrite(t, x, pairs(pair(k, "x")), 2, 0)
		wantNumber(t, "First()", x.First(), 0)
		x.Clear(2)
		wantNumber(t, "First()", x.First(), 2)
	}
}

func TestFirstMayStayBelowWhatWasClearedUpTo(t *testing.T) {
	x := table.New()
	wantWrite(t, x, pairs(pair(1, "x")), 1, 0)
	wantWrite(t, x, nil, 2, 0)
	wantNumber(t, "Clear(2)", x.Clear(2), 1)
	wantNumber(t, "First()", x.First(), 1)
	wantRead(t, x, 1, 1, has("x"), 0)
}

func TestWriteBehindClear(t *testing.T) {
	x := filled(t)
	x.Clear(math.MaxInt)
	wantWrite(t, x, pairs(pair(1, "d"), drop(7)), 5, 0)
	wantRead(t, x, 1, 4, has("c"), 0)
	wantRead(t, x, 1, 5, has("d"), 0)
	wantRead(t, x, 7, 4, has("z"), 0)
	wantRead(t, x, 7, 5, none, 0)
	wantNumber(t, "First()", x.First(), 4)
	wantNumber(t, "Clear(5)", x.Clear(5), 2)
	wantNumber(t, "First()", x.First(), 5)
}
