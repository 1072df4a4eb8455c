package table_test

import (
	"fmt"
	"math"
	"math/rand"
	"slices"
	"testing"

	"vaultage/api"
	"vaultage/table"
)

// row is one version of one key.
type row struct {
	key, at int
	v       api.Value
}

// model is a table by the chapter's words, without any thought of speed: the
// versions of all keys in one list, those of a key in the order of commits.
type model struct {
	rows []row
	last int
}

func newModel() *model {
	m := &model{}
	for k := range api.MaxKeys {
		m.rows = append(m.rows, row{key: k})
	}
	return m
}

func isKey(k int) bool { return k >= 0 && k <= 7 }

func valueCode(v api.Value) int {
	if len(v.Bytes) > 12 {
		return api.ErrLong
	}
	if !v.There && v.Bytes != "" {
		return api.ErrForm
	}
	return 0
}

func (m *model) write(w []api.Pair) (int, int) {
	for i, p := range w {
		if !isKey(p.Key) {
			return 0, api.ErrRange
		}
		if i > 0 && w[i-1].Key >= p.Key {
			return 0, api.ErrOrder
		}
		if code := valueCode(p.V); code != 0 {
			return 0, code
		}
	}
	if m.last == 40 {
		return 0, api.ErrFull
	}
	m.last++
	for _, p := range w {
		m.rows = append(m.rows, row{p.Key, m.last, p.V})
	}
	return m.last, 0
}

func (m *model) rowsOf(k int) []row {
	var of []row
	for _, r := range m.rows {
		if r.key == k {
			of = append(of, r)
		}
	}
	return of
}

func (m *model) read(k, at int) (api.Value, int) {
	if !isKey(k) || at < 0 || at > m.last {
		return none, api.ErrRange
	}
	for _, r := range slices.Backward(m.rowsOf(k)) {
		if r.at <= at {
			return r.v, 0
		}
	}
	return none, api.ErrOld
}

func (m *model) since(k int) int {
	since := -1
	for _, r := range m.rowsOf(k) {
		since = r.at
	}
	return since
}

func (m *model) list(from, to, at int) ([]api.Pair, int) {
	if !isKey(from) || !isKey(to) {
		return nil, api.ErrRange
	}
	var l []api.Pair
	for k := from; k <= to; k++ {
		v, code := m.read(k, at)
		if code != 0 {
			return nil, code
		}
		if v.There {
			l = append(l, api.Pair{Key: k, V: v})
		}
	}
	return l, 0
}

func (m *model) first() int {
	first := 0
	for k := range api.MaxKeys {
		first = max(first, m.rowsOf(k)[0].at)
	}
	return first
}

func (m *model) clear(least int) int {
	var stay []row
	for i, r := range m.rows {
		// A version goes if a later one of its key is there by least.
		later := func(x row) bool { return x.key == r.key && x.at <= least }
		if !slices.ContainsFunc(m.rows[i+1:], later) {
			stay = append(stay, r)
		}
	}
	forgotten := len(m.rows) - len(stay)
	m.rows = stay
	return forgotten
}

// call is a Write, or, if it clears, a Clear.
type call struct {
	clears bool
	least  int
	w      []api.Pair
}

func allCalls() []call {
	return []call{
		{w: nil},
		{w: pairs(pair(1, "a"))},
		{w: pairs(drop(1), pair(2, ""))},
		{w: pairs(pair(0, "b"), pair(7, "c"))},
		{w: pairs(pair(2, "x"), pair(1, "x"))},
		{w: pairs(pair(1, "x"), pair(8, "x"))},
		{w: pairs(pair(0, "x"), api.Pair{Key: 2, V: api.Value{Bytes: "x"}})},
		{clears: true, least: 1},
		{clears: true, least: 2},
		{clears: true, least: 3},
		{clears: true, least: 9},
	}
}

func runBoth(t *testing.T, x *table.Table, m *model, c call) {
	t.Helper()
	if c.clears {
		wantNumber(t, fmt.Sprintf("Clear(%d)", c.least), x.Clear(c.least), m.clear(c.least))
		return
	}
	number, code := m.write(c.w)
	wantWrite(t, x, c.w, number, code)
}

// holdAgainst looks at all that the table tells.
func holdAgainst(t *testing.T, x *table.Table, m *model, keys []int) {
	t.Helper()
	wantNumber(t, "Last()", x.Last(), m.last)
	wantNumber(t, "First()", x.First(), m.first())
	for _, k := range keys {
		wantNumber(t, fmt.Sprintf("Since(%d)", k), x.Since(k), m.since(k))
	}
	for at := -1; at <= m.last+1; at++ {
		for _, k := range keys {
			v, code := m.read(k, at)
			wantRead(t, x, k, at, v, code)
			for _, to := range keys {
				l, code := m.list(k, to, at)
				wantList(t, x, k, to, at, l, code)
			}
		}
	}
}

// TestAllShortHistories makes every row of up to three calls, and looks at all
// that the table tells behind each.
func TestAllShortHistories(t *testing.T) {
	var goOn func(history []call)
	goOn = func(history []call) {
		x, m := table.New(), newModel()
		for _, c := range history {
			runBoth(t, x, m, c)
		}
		holdAgainst(t, x, m, []int{-1, 0, 1, 2, 6, 7, 8})
		if t.Failed() {
			t.Fatalf("behind %#v", history)
		}
		if len(history) == 3 {
			return
		}
		for _, c := range allCalls() {
			goOn(append(history[:len(history):len(history)], c))
		}
	}
	goOn(nil)
}

// TestLongHistories goes on up to the last commit, and beyond it.
func TestLongHistories(t *testing.T) {
	keys := []int{math.MinInt, -1, 0, 1, 2, 3, 4, 5, 6, 7, 8, math.MaxInt}
	for seed := range int64(20) {
		r := rand.New(rand.NewSource(seed))
		x, m := table.New(), newModel()
		for step := range 60 {
			runBoth(t, x, m, someCall(r, m.last))
			if step%10 == 9 {
				holdAgainst(t, x, m, keys)
			}
			if t.Failed() {
				t.Fatalf("in history %d", seed)
			}
		}
	}
}

func someCall(r *rand.Rand, last int) call {
	if r.Intn(8) == 0 {
		return call{clears: true, least: r.Intn(last+3) - 1}
	}
	var w []api.Pair
	for k := range api.MaxKeys {
		switch r.Intn(6) {
		case 0:
			w = append(w, pair(k, fmt.Sprint(r.Intn(1000))))
		case 1:
			w = append(w, drop(k))
		}
	}
	return call{w: w}
}

// TestEachCommitStands: what was read behind a commit stays so, whatever is
// written behind it, as long as nothing is cleared beyond it.
func TestEachCommitStands(t *testing.T) {
	r := rand.New(rand.NewSource(1))
	x := table.New()
	var told [][]api.Pair
	for {
		l, _ := x.List(0, 7, x.Last())
		told = append(told, l)
		if _, code := x.Write(someCall(r, 0).w); code != 0 {
			break
		}
	}
	wantNumber(t, "Last()", x.Last(), api.MaxCommits)
	for least := range told {
		x.Clear(least)
		if first := x.First(); first > least {
			t.Errorf("Clear(%d) forgot up to %d", least, first)
		}
		for at := least; at < len(told); at++ {
			wantList(t, x, 0, 7, at, told[at], 0)
		}
	}
}
