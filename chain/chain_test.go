package chain_test

import (
	"fmt"
	"math"
	"slices"
	"strings"
	"testing"

	"vaultage/api"
	"vaultage/chain"
)

var none = api.Value{}

func has(s string) api.Value { return api.Value{There: true, Bytes: s} }

// filled is a chain with versions at 0, 2, 5 and 7, the third without a value.
func filled(t *testing.T) *chain.Chain {
	t.Helper()
	c := chain.New()
	wantPut(t, c, 2, has("two"), 0)
	wantPut(t, c, 5, none, 0)
	wantPut(t, c, 7, has(""), 0)
	return c
}

func filledList() []api.Version {
	return []api.Version{{}, {At: 2, V: has("two")}, {At: 5}, {At: 7, V: has("")}}
}

func wantPut(t *testing.T, c *chain.Chain, at int, v api.Value, code int) {
	t.Helper()
	if got := c.Put(at, v); got != code {
		t.Errorf("Put(%d, %#v) = %d, want %d", at, v, got, code)
	}
}

func wantRead(t *testing.T, c *chain.Chain, at int, v api.Value, code int) {
	t.Helper()
	if gotV, gotCode := c.Read(at); gotV != v || gotCode != code {
		t.Errorf("Read(%d) = %#v, %d, want %#v, %d", at, gotV, gotCode, v, code)
	}
}

func wantClear(t *testing.T, c *chain.Chain, least, forgotten int) {
	t.Helper()
	if got := c.Clear(least); got != forgotten {
		t.Errorf("Clear(%d) = %d, want %d", least, got, forgotten)
	}
}

// wantVersions holds List, First and Last against the versions that there must be.
func wantVersions(t *testing.T, c *chain.Chain, want []api.Version) {
	t.Helper()
	if got := c.List(); !slices.Equal(got, want) {
		t.Errorf("List() = %#v, want %#v", got, want)
	}
	if got := c.First(); got != want[0].At {
		t.Errorf("First() = %d, want %d", got, want[0].At)
	}
	if got := c.Last(); got != want[len(want)-1].At {
		t.Errorf("Last() = %d, want %d", got, want[len(want)-1].At)
	}
}

func TestKey(t *testing.T) {
	for k := range api.MaxKeys {
		if !chain.Key(k) {
			t.Errorf("Key(%d) = false, want true", k)
		}
	}
	for _, k := range []int{math.MinInt, -1, api.MaxKeys, api.MaxKeys + 1, math.MaxInt} {
		if chain.Key(k) {
			t.Errorf("Key(%d) = true, want false", k)
		}
	}
}

func TestCheck(t *testing.T) {
	most := strings.Repeat("x", api.MaxValue)
	for _, c := range []struct {
		v    api.Value
		code int
	}{
		{none, 0},
		{has(""), 0},
		{has("x"), 0},
		{has(most), 0},
		{has(most + "x"), api.ErrLong},
		{has(strings.Repeat("x", 1000)), api.ErrLong},
		{has("\x00\xff\n"), 0},
		{has(strings.Repeat("\u00e9", api.MaxValue/2)), 0},
		{has(strings.Repeat("\u00e9", api.MaxValue/2+1)), api.ErrLong},
		{api.Value{Bytes: "x"}, api.ErrForm},
		{api.Value{Bytes: "\x00"}, api.ErrForm},
		{api.Value{Bytes: most}, api.ErrForm},
		{api.Value{Bytes: most + "x"}, api.ErrLong},
	} {
		if got := chain.Check(c.v); got != c.code {
			t.Errorf("Check(%#v) = %d, want %d", c.v, got, c.code)
		}
	}
}

func TestNewHasNoValueSinceZero(t *testing.T) {
	c := chain.New()
	wantVersions(t, c, []api.Version{{}})
	for _, at := range []int{0, 1, math.MaxInt} {
		wantRead(t, c, at, none, 0)
	}
	wantRead(t, c, -1, none, api.ErrRange)
}

func TestNewChainsAreApart(t *testing.T) {
	a, b := chain.New(), chain.New()
	wantPut(t, a, 1, has("a"), 0)
	wantVersions(t, b, []api.Version{{}})
	wantPut(t, b, 1, has("b"), 0)
	wantVersions(t, a, []api.Version{{}, {At: 1, V: has("a")}})
}

func TestPutAddsVersions(t *testing.T) {
	wantVersions(t, filled(t), filledList())
	same := chain.New()
	wantPut(t, same, 1, has("x"), 0)
	wantPut(t, same, 2, has("x"), 0)
	wantVersions(t, same, []api.Version{{}, {At: 1, V: has("x")}, {At: 2, V: has("x")}})
	drop := chain.New()
	wantPut(t, drop, 3, none, 0)
	wantVersions(t, drop, []api.Version{{}, {At: 3}})
}

func TestPutKeepsBytesAsTheyAre(t *testing.T) {
	c := chain.New()
	for i, s := range []string{"\x00", "\xff\xfe", "a\nb", " ", strings.Repeat("\xff", api.MaxValue)} {
		wantPut(t, c, i+1, has(s), 0)
		wantRead(t, c, i+1, has(s), 0)
	}
}

func TestPutTellsFaults(t *testing.T) {
	most := strings.Repeat("x", api.MaxValue)
	for _, p := range []struct {
		at   int
		v    api.Value
		code int
	}{
		{7, has("x"), api.ErrOrder},
		{7, none, api.ErrOrder},
		{6, has("x"), api.ErrOrder},
		{0, has("x"), api.ErrOrder},
		{-1, has("x"), api.ErrOrder},
		{math.MinInt, has("x"), api.ErrOrder},
		{7, has(most), api.ErrOrder},
		{8, has(most + "x"), api.ErrLong},
		{8, api.Value{Bytes: "x"}, api.ErrForm},
		{8, api.Value{Bytes: most + "x"}, api.ErrLong},
		// The value is told of ahead of the order.
		{7, has(most + "x"), api.ErrLong},
		{-1, api.Value{Bytes: "x"}, api.ErrForm},
	} {
		c := filled(t)
		wantPut(t, c, p.at, p.v, p.code)
		wantVersions(t, c, filledList())
		wantPut(t, c, 8, has("y"), 0)
		wantVersions(t, c, append(filledList(), api.Version{At: 8, V: has("y")}))
	}
}

func TestPutOnNewRefusesZeroAndBelow(t *testing.T) {
	for _, at := range []int{0, -1, math.MinInt} {
		c := chain.New()
		wantPut(t, c, at, has("x"), api.ErrOrder)
		wantVersions(t, c, []api.Version{{}})
	}
}

func TestPutTakesTheLongestValue(t *testing.T) {
	c := chain.New()
	most := has(strings.Repeat("x", api.MaxValue))
	wantPut(t, c, 1, most, 0)
	wantRead(t, c, 1, most, 0)
}

func TestPutAtTheGreatestNumber(t *testing.T) {
	c := chain.New()
	wantPut(t, c, math.MaxInt, has("x"), 0)
	wantPut(t, c, math.MaxInt, has("y"), api.ErrOrder)
	wantRead(t, c, math.MaxInt-1, none, 0)
	wantRead(t, c, math.MaxInt, has("x"), 0)
	wantClear(t, c, math.MaxInt-1, 0)
	wantClear(t, c, math.MaxInt, 1)
	wantRead(t, c, math.MaxInt-1, none, api.ErrOld)
	wantRead(t, c, math.MaxInt, has("x"), 0)
}

func TestReadTellsTheLastNotAbove(t *testing.T) {
	c := filled(t)
	for _, r := range []struct {
		at int
		v  api.Value
	}{
		{0, none}, {1, none},
		{2, has("two")}, {3, has("two")}, {4, has("two")},
		{5, none}, {6, none},
		{7, has("")}, {8, has("")}, {math.MaxInt, has("")},
	} {
		wantRead(t, c, r.at, r.v, 0)
	}
	wantVersions(t, c, filledList())
}

func TestReadTellsFaults(t *testing.T) {
	c := filled(t)
	wantRead(t, c, -1, none, api.ErrRange)
	wantRead(t, c, math.MinInt, none, api.ErrRange)
	wantClear(t, c, 2, 1)
	for _, at := range []int{0, 1} {
		wantRead(t, c, at, none, api.ErrOld)
	}
	// Below 0 is below First, too: the range is told of ahead.
	wantRead(t, c, -1, none, api.ErrRange)
	wantRead(t, c, math.MinInt, none, api.ErrRange)
	wantRead(t, c, 2, has("two"), 0)
	wantVersions(t, c, filledList()[1:])
}

func TestClearForgetsUpToTheSecond(t *testing.T) {
	for _, c := range []struct{ least, forgotten int }{
		{math.MinInt, 0}, {-1, 0}, {0, 0}, {1, 0},
		{2, 1}, {3, 1}, {4, 1},
		{5, 2}, {6, 2},
		{7, 3}, {8, 3}, {math.MaxInt, 3},
	} {
		cleared := filled(t)
		wantClear(t, cleared, c.least, c.forgotten)
		wantVersions(t, cleared, filledList()[c.forgotten:])
		wantClear(t, cleared, c.least, 0)
		wantVersions(t, cleared, filledList()[c.forgotten:])
	}
}

func TestClearLeavesWhatCanBeSeen(t *testing.T) {
	for least := range 10 {
		c, whole := filled(t), filled(t)
		c.Clear(least)
		for at := least; at < 10; at++ {
			v, _ := whole.Read(at)
			wantRead(t, c, at, v, 0)
		}
	}
}

func TestClearBelowFirst(t *testing.T) {
	c := filled(t)
	wantClear(t, c, 5, 2)
	for _, least := range []int{math.MinInt, -1, 0, 4, 5, 6} {
		wantClear(t, c, least, 0)
		wantVersions(t, c, filledList()[2:])
	}
	wantClear(t, c, 7, 1)
}

func TestClearOfOneVersion(t *testing.T) {
	c := chain.New()
	for _, least := range []int{math.MinInt, -1, 0, 1, math.MaxInt} {
		wantClear(t, c, least, 0)
		wantVersions(t, c, []api.Version{{}})
	}
}

func TestPutBehindClear(t *testing.T) {
	c := filled(t)
	wantClear(t, c, 99, 3)
	// What was cleared up to is no bound of Put: Last is.
	wantPut(t, c, 7, has("x"), api.ErrOrder)
	wantPut(t, c, 2, has("x"), api.ErrOrder)
	wantPut(t, c, 8, has("eight"), 0)
	wantVersions(t, c, []api.Version{{At: 7, V: has("")}, {At: 8, V: has("eight")}})
	wantRead(t, c, 7, has(""), 0)
	wantRead(t, c, 8, has("eight"), 0)
}

func TestListIsNewMemory(t *testing.T) {
	c := filled(t)
	spoil(c.List())
	wantVersions(t, c, filledList())
	wantClear(t, c, 2, 1)
	spoil(c.List())
	wantVersions(t, c, filledList()[1:])
	wantPut(t, c, 8, has("y"), 0)
	wantVersions(t, c, append(filledList()[1:], api.Version{At: 8, V: has("y")}))
}

// spoil writes over a list, and over all that lies behind its length.
func spoil(l []api.Version) {
	l = l[:cap(l)]
	for i := range l {
		l[i] = api.Version{At: 77, V: has("spoilt")}
	}
}

func TestListStaysAsItWas(t *testing.T) {
	c := filled(t)
	early := c.List()
	wantPut(t, c, 8, has("y"), 0)
	wantClear(t, c, 7, 3)
	wantPut(t, c, 9, has("z"), 0)
	if !slices.Equal(early, filledList()) {
		t.Errorf("a list told ahead has become %#v", early)
	}
}

func TestManyVersions(t *testing.T) {
	const count = 2000
	c := chain.New()
	for i := 1; i <= count; i++ {
		wantPut(t, c, 3*i, has(fmt.Sprint(i)), 0)
	}
	for i := 1; i <= count; i++ {
		wantRead(t, c, 3*i-1, valueOf(i-1), 0)
		wantRead(t, c, 3*i, valueOf(i), 0)
		wantRead(t, c, 3*i+1, valueOf(i), 0)
	}
	wantClear(t, c, 3*count/2+1, count/2)
	wantRead(t, c, 3*count/2-1, none, api.ErrOld)
	wantRead(t, c, 3*count/2, valueOf(count/2), 0)
	wantRead(t, c, 3*count, valueOf(count), 0)
}

func valueOf(i int) api.Value {
	if i == 0 {
		return none
	}
	return has(fmt.Sprint(i))
}
