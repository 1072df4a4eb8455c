package deed_test

import (
	"fmt"
	"math/rand"
	"slices"
	"testing"

	"vaultage/api"
	"vaultage/deed"
	"vaultage/table"
)

// model is a deed by the chapter's words, without any thought of speed: all
// that it did, in one list. What the table answers is asked of the table.
type model struct {
	mode, at int
	puts     []api.Pair
	reads    []int
}

func (m *model) get(x *table.Table, k int) (api.Value, int) {
	if k < 0 || k > 7 {
		return none, api.ErrRange
	}
	for _, p := range slices.Backward(m.puts) {
		if p.Key == k {
			return p.V, 0
		}
	}
	v, code := x.Read(k, m.at)
	if code == 0 {
		m.reads = append(m.reads, k)
	}
	return v, code
}

func (m *model) put(k int, v api.Value) int {
	switch {
	case k < 0 || k > 7:
		return api.ErrRange
	case m.mode == api.MLook:
		return api.ErrKind
	case len(v.Bytes) > 12:
		return api.ErrLong
	case !v.There && v.Bytes != "":
		return api.ErrForm
	}
	m.puts = append(m.puts, api.Pair{Key: k, V: v})
	return 0
}

func (m *model) list(x *table.Table, from, to int) ([]api.Pair, int) {
	if from < 0 || from > 7 || to < 0 || to > 7 {
		return nil, api.ErrRange
	}
	var l []api.Pair
	for k := from; k <= to; k++ {
		v, code := m.get(x, k)
		if code != 0 {
			return nil, code
		}
		if v.There {
			l = append(l, api.Pair{Key: k, V: v})
		}
	}
	return l, 0
}

func (m *model) readKeys() []int {
	l := slices.Clone(m.reads)
	slices.Sort(l)
	return slices.Compact(l)
}

func (m *model) writes() []api.Pair {
	var l []api.Pair
	for k := range 8 {
		for _, p := range slices.Backward(m.puts) {
			if p.Key == k {
				l = append(l, p)
				break
			}
		}
	}
	return l
}

func (m *model) may(x *table.Table) int {
	for _, p := range m.writes() {
		if x.Since(p.Key) > m.at {
			return api.ErrClash
		}
	}
	for _, k := range m.readKeys() {
		if m.mode == api.MSure && x.Since(k) > m.at {
			return api.ErrStale
		}
	}
	return 0
}

const (
	doGet = iota
	doPut
	doList
	doWrite // another one writes the key to the table
	doClear
)

// call is a call of the deed, or one that another one makes of the table.
type call struct {
	kind, k, to int
	v           api.Value
}

func allCalls() []call {
	return []call{
		{kind: doGet, k: 1},
		{kind: doGet, k: 2},
		{kind: doGet, k: 8},
		{kind: doPut, k: 1, v: has("p")},
		{kind: doPut, k: 2},
		{kind: doPut, k: 1, v: tooLong()},
		{kind: doPut, k: -1},
		{kind: doList, k: 0, to: 3},
		{kind: doList, k: 2, to: 1},
		{kind: doList, k: 1, to: 8},
		{kind: doWrite, k: 1, v: has("w")},
		{kind: doWrite, k: 2},
		{kind: doClear, k: 2},
		{kind: doClear, k: 9},
	}
}

func runBoth(t *testing.T, d *deed.Deed, m *model, x *table.Table, c call) {
	t.Helper()
	switch c.kind {
	case doGet:
		v, code := m.get(x, c.k)
		wantGet(t, d, x, c.k, v, code)
	case doPut:
		wantPut(t, d, c.k, c.v, m.put(c.k, c.v))
	case doList:
		l, code := m.list(x, c.k, c.to)
		wantList(t, d, x, c.k, c.to, l, code)
	default:
		runOther(x, c)
	}
}

// runOther does what another one does with the table.
func runOther(x *table.Table, c call) {
	switch c.kind {
	case doWrite:
		x.Write(pairs(api.Pair{Key: c.k, V: c.v}))
	case doClear:
		x.Clear(c.k)
	}
}

// holdAgainst looks at all that the deed tells without going on.
func holdAgainst(t *testing.T, d *deed.Deed, m *model, x *table.Table) {
	t.Helper()
	if d.Mode() != m.mode || d.At() != m.at {
		t.Errorf("the deed has %d, %d, want %d, %d", d.Mode(), d.At(), m.mode, m.at)
	}
	wantReads(t, d, m.readKeys())
	wantWrites(t, d, m.writes())
	wantMay(t, d, x, m.may(x))
}

// someTable has two commits, so that a deed can be behind each, ahead of both,
// and behind one to come.
func someTable(t *testing.T) *table.Table {
	x := table.New()
	write(t, x, pair(0, "a"), pair(1, "b"))
	write(t, x, drop(0), pair(2, "c"))
	return x
}

// TestAllShortHistories makes every row of up to four calls, of each mode and
// behind each commit, and looks at all that the deed tells behind each.
func TestAllShortHistories(t *testing.T) {
	for _, mode := range modes() {
		for at := -1; at <= 3; at++ {
			goOn(t, mode, at, nil)
		}
	}
}

func goOn(t *testing.T, mode, at int, history []call) {
	x, d, m := someTable(t), deed.New(mode, at), &model{mode: mode, at: at}
	for _, c := range history {
		runBoth(t, d, m, x, c)
	}
	holdAgainst(t, d, m, x)
	if t.Failed() {
		t.Fatalf("mode %d, behind %d: %+v", mode, at, history)
	}
	if len(history) == 4 {
		return
	}
	for _, c := range allCalls() {
		goOn(t, mode, at, append(history[:len(history):len(history)], c))
	}
}

// TestLongHistories has some deeds at one table, a step of one and a step of
// another one, up to the table's last commit.
func TestLongHistories(t *testing.T) {
	for seed := range int64(60) {
		r := rand.New(rand.NewSource(seed))
		x := table.New()
		var deeds []*deed.Deed
		var models []*model
		for range 300 {
			if len(deeds) < 6 || r.Intn(20) == 0 {
				mode, at := 1+r.Intn(3), x.Last()-r.Intn(3)
				deeds = append(deeds, deed.New(mode, at))
				models = append(models, &model{mode: mode, at: at})
			}
			if r.Intn(4) == 0 {
				runOther(x, someOther(r))
			}
			i := r.Intn(len(deeds))
			runBoth(t, deeds[i], models[i], x, someCall(r))
			for i, d := range deeds {
				holdAgainst(t, d, models[i], x)
			}
			if t.Failed() {
				t.Fatalf("in history %d", seed)
			}
		}
	}
}

func someOther(r *rand.Rand) call {
	switch r.Intn(3) {
	case 0:
		return call{kind: doWrite, k: r.Intn(8), v: has(fmt.Sprint(r.Intn(100)))}
	case 1:
		return call{kind: doWrite, k: r.Intn(8)}
	}
	return call{kind: doClear, k: r.Intn(20)}
}

func someCall(r *rand.Rand) call {
	k := r.Intn(10) - 1
	switch r.Intn(5) {
	case 0:
		return call{kind: doPut, k: k, v: has(fmt.Sprint(r.Intn(100)))}
	case 1:
		return call{kind: doPut, k: k}
	case 2:
		return call{kind: doList, k: k, to: r.Intn(10) - 1}
	}
	return call{kind: doGet, k: k}
}

// TestEachDeedSeesItsCommit: what a deed sees is what the table had behind its
// commit, and over that what it wrote itself, whatever others write meanwhile.
func TestEachDeedSeesItsCommit(t *testing.T) {
	r := rand.New(rand.NewSource(1))
	x := table.New()
	type seen struct {
		d      *deed.Deed
		values [api.MaxKeys]api.Value
	}
	var all []*seen
	var now [api.MaxKeys]api.Value
	for x.Last() < api.MaxCommits {
		all = append(all, &seen{deed.New(1+r.Intn(2), x.Last()), now})
		k, v := r.Intn(8), has(fmt.Sprint(r.Intn(100)))
		write(t, x, api.Pair{Key: k, V: v})
		now[k] = v
		for _, s := range all {
			if k, v := r.Intn(8), has(fmt.Sprint(r.Intn(100))); r.Intn(9) == 0 {
				wantPut(t, s.d, k, v, 0)
				s.values[k] = v
			}
			for k, v := range s.values {
				wantGet(t, s.d, x, k, v, 0)
			}
		}
	}
}
