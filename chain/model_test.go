package chain_test

import (
	"math"
	"testing"

	"vaultage/api"
	"vaultage/chain"
)

// model is a chain by the chapter's words, without any thought of speed.
type model struct{ versions []api.Version }

func (m *model) put(at int, v api.Value) int {
	if len(v.Bytes) > api.MaxValue {
		return api.ErrLong
	}
	if !v.There && len(v.Bytes) > 0 {
		return api.ErrForm
	}
	if at <= m.versions[len(m.versions)-1].At {
		return api.ErrOrder
	}
	m.versions = append(m.versions, api.Version{At: at, V: v})
	return 0
}

func (m *model) read(at int) (api.Value, int) {
	if at < 0 {
		return none, api.ErrRange
	}
	if at < m.versions[0].At {
		return none, api.ErrOld
	}
	var v api.Value
	for _, x := range m.versions {
		if x.At <= at {
			v = x.V
		}
	}
	return v, 0
}

func (m *model) clear(least int) int {
	forgotten := 0
	for len(m.versions) > 1 && m.versions[1].At <= least {
		m.versions = append([]api.Version{}, m.versions[1:]...)
		forgotten++
	}
	return forgotten
}

// call is a Put, or, if it clears, a Clear.
type call struct {
	clears bool
	at     int
	v      api.Value
}

func allCalls() []call {
	return []call{
		{at: -1, v: has("n")},
		{at: 1, v: has("a")},
		{at: 2},
		{at: 3, v: has("")},
		{at: 4, v: has("d")},
		{at: 4, v: has("1234567890123")},
		{at: 5, v: api.Value{Bytes: "x"}},
		{clears: true, at: -1},
		{clears: true, at: 1},
		{clears: true, at: 2},
		{clears: true, at: 3},
		{clears: true, at: 9},
	}
}

// TestAllShortHistories makes every row of up to four calls, and looks at all
// that the chain tells behind each.
func TestAllShortHistories(t *testing.T) {
	var goOn func(history []call)
	goOn = func(history []call) {
		holdAgainstModel(t, history)
		if len(history) == 4 || t.Failed() {
			return
		}
		for _, x := range allCalls() {
			goOn(append(history[:len(history):len(history)], x))
		}
	}
	goOn(nil)
}

func holdAgainstModel(t *testing.T, history []call) {
	t.Helper()
	c, m := chain.New(), &model{versions: []api.Version{{}}}
	for _, x := range history {
		got, want := c.Put, m.put
		if x.clears {
			got = func(at int, _ api.Value) int { return c.Clear(at) }
			want = func(at int, _ api.Value) int { return m.clear(at) }
		}
		if g, w := got(x.at, x.v), want(x.at, x.v); g != w {
			t.Errorf("%#v in %#v: %d, want %d", x, history, g, w)
		}
	}
	wantVersions(t, c, m.versions)
	for _, at := range []int{math.MinInt, -1, 0, 1, 2, 3, 4, 5, math.MaxInt} {
		v, code := m.read(at)
		wantRead(t, c, at, v, code)
	}
	if t.Failed() {
		t.Errorf("behind %#v", history)
	}
}
