package vault_test

import (
	"bytes"
	"fmt"
	"math/rand"
	"slices"
	"testing"

	"vaultage/api"
	"vaultage/deed"
	"vaultage/vault"
)

// encode is the bytes of pairs that are a commit.
func encode(w []api.Pair) []byte {
	body := ""
	for _, p := range w {
		size := byte(255)
		if p.V.There {
			size = byte(len(p.V.Bytes))
		}
		body += string([]byte{byte(p.Key), size}) + p.V.Bytes
	}
	return append([]byte{byte(2 + len(body)), byte(len(w))}, body...)
}

// model is a vault by the chapter's words: its commits, and of each key the
// commit ahead of which all is forgotten.
type model struct {
	list  [][]api.Pair
	first [8]int
}

func (m *model) log() []byte {
	var b []byte
	for _, w := range m.list {
		b = append(b, encode(w)...)
	}
	return b
}

// ats are the commits since which a key had something, from first on.
func (m *model) ats(k int) []int {
	l := []int{m.first[k]}
	for i, w := range m.list {
		wrote := slices.ContainsFunc(w, func(p api.Pair) bool { return p.Key == k })
		if wrote && i+1 > m.first[k] {
			l = append(l, i+1)
		}
	}
	return l
}

func (m *model) since(k int) int { return slices.Max(m.ats(k)) }

func (m *model) read(k, at int) (api.Value, int) {
	switch {
	case k < 0 || k > 7 || at < 0 || at > len(m.list):
		return none, api.ErrRange
	case at < m.first[k]:
		return none, api.ErrOld
	}
	v := none
	for _, w := range m.list[:at] {
		for _, p := range w {
			if p.Key == k {
				v = p.V
			}
		}
	}
	return v, 0
}

func (m *model) clear(least int) int {
	forgotten := 0
	for k := range m.first {
		for _, at := range m.ats(k)[1:] {
			if at <= least {
				m.first[k] = at
				forgotten++
			}
		}
	}
	return forgotten
}

// begin tells the commit behind which a deed begins.
func (m *model) begin(mode, at int) (int, int) {
	switch {
	case mode != api.MShot && mode != api.MSure && mode != api.MLook:
		return 0, api.ErrKind
	case mode != api.MLook:
		return len(m.list), 0
	case at < 0 || at > len(m.list):
		return 0, api.ErrRange
	case at < slices.Max(m.first[:]):
		return 0, api.ErrOld
	}
	return at, 0
}

// code is what is in a deed's way, or in its commit's.
func (m *model) code(d *deed.Deed) int {
	for _, p := range d.Writes() {
		if m.since(p.Key) > d.At() {
			return api.ErrClash
		}
	}
	for _, k := range d.Reads() {
		if d.Mode() == api.MSure && m.since(k) > d.At() {
			return api.ErrStale
		}
	}
	w := d.Writes()
	if len(w) > 0 && (len(m.list) == 40 || len(m.log())+len(encode(w)) > 3000) {
		return api.ErrFull
	}
	return 0
}

func (m *model) commit(d *deed.Deed, keep int) (int, int) {
	code, w := m.code(d), d.Writes()
	if code != 0 || len(w) == 0 || keep < len(encode(w)) {
		return 0, code
	}
	m.list = append(m.list, w)
	return len(m.list), 0
}

func (m *model) crash() { m.first = [8]int{} }

// holdAgainst looks at all that a vault tells.
func holdAgainst(t *testing.T, v *vault.Vault, m *model) {
	t.Helper()
	if !bytes.Equal(v.Log(), m.log()) {
		t.Fatalf("Log() = %v, want %v", v.Log(), m.log())
	}
	if v.Last() != len(m.list) || v.First() != slices.Max(m.first[:]) {
		t.Fatalf("commits %d to %d, want %d to %d", v.First(), v.Last(), slices.Max(m.first[:]), len(m.list))
	}
	for k := range api.MaxKeys {
		if v.Since(k) != m.since(k) {
			t.Fatalf("Since(%d) = %d, want %d", k, v.Since(k), m.since(k))
		}
		for at := -1; at <= len(m.list)+1; at++ {
			got, gotCode := v.Read(k, at)
			if want, code := m.read(k, at); got != want || gotCode != code {
				t.Fatalf("Read(%d, %d) = %#v, %d, want %#v, %d", k, at, got, gotCode, want, code)
			}
		}
	}
}

const (
	doBegin = iota
	doGet
	doPut
	doCommit
	doTear
	doCrash
	doClear
)

// call is a call of the vault, or of the deed that stands at slot.
type call struct {
	kind, slot int
	n, to      int // mode and at; key; bytes to keep; the commit to clear up to
	v          api.Value
}

// pairOf is a vault with some deeds, and its model.
type pairOf struct {
	v     *vault.Vault
	m     *model
	deeds []*deed.Deed
}

// start has deeds at all slots: what they are is told by the calls then.
func start(slots int) *pairOf {
	p := &pairOf{v: vault.New(), m: &model{}, deeds: make([]*deed.Deed, slots)}
	p.refill()
	return p
}

// refill begins a deed at every slot: those of ahead of a crash are none.
func (p *pairOf) refill() {
	for i := range p.deeds {
		p.deeds[i], _ = p.v.Begin(1+i%2, 0)
	}
}

func (p *pairOf) run(t *testing.T, c call) {
	t.Helper()
	switch d := p.deeds[c.slot]; c.kind {
	case doBegin:
		p.begin(t, c)
	case doGet:
		p.get(t, d, c.n)
	case doPut:
		d.Put(c.n, c.v)
	case doCommit:
		n, code := p.m.commit(d, 1000)
		wantCommit(t, p.v, d, n, code)
	case doTear:
		n, code := p.m.commit(d, c.n)
		p.m.crash()
		wantTear(t, p.v, d, c.n, n, code)
		p.refill()
	case doCrash:
		p.m.crash()
		p.v.Crash()
		p.refill()
	case doClear:
		want := p.m.clear(c.n)
		if got := p.v.Clear(c.n); got != want {
			t.Fatalf("Clear(%d) = %d, want %d", c.n, got, want)
		}
	}
}

func (p *pairOf) begin(t *testing.T, c call) {
	t.Helper()
	at, want := p.m.begin(c.n, c.to)
	d, code := p.v.Begin(c.n, c.to)
	if code != want || (d == nil) != (want != 0) {
		t.Fatalf("Begin(%d, %d) = %v, %d, want %d", c.n, c.to, d, code, want)
	}
	if d == nil {
		return
	}
	if d.Mode() != c.n || d.At() != at {
		t.Fatalf("Begin(%d, %d) has %d, %d, want %d", c.n, c.to, d.Mode(), d.At(), at)
	}
	p.deeds[c.slot] = d
}

func (p *pairOf) get(t *testing.T, d *deed.Deed, k int) {
	t.Helper()
	want, code := p.m.read(k, d.At())
	for _, q := range d.Writes() {
		if q.Key == k {
			want, code = q.V, 0
		}
	}
	if got, gotCode := d.Get(p.v.Table, k); got != want || gotCode != code {
		t.Fatalf("Get(%d) = %#v, %d, want %#v, %d", k, got, gotCode, want, code)
	}
}

// someCalls have two deeds, a shot and a sure one, meet at two keys.
func someCalls() []call {
	return []call{
		{kind: doBegin, slot: 0, n: api.MSure},
		{kind: doBegin, slot: 1, n: api.MLook, to: 1},
		{kind: doBegin, slot: 1, n: 0},
		{kind: doGet, slot: 0, n: 2},
		{kind: doGet, slot: 1, n: 1},
		{kind: doPut, slot: 0, n: 1, v: has("a")},
		{kind: doPut, slot: 1, n: 2, v: has("b")},
		{kind: doPut, slot: 1, n: 1},
		{kind: doCommit, slot: 0},
		{kind: doCommit, slot: 1},
		{kind: doTear, slot: 0, n: 4},
		{kind: doTear, slot: 1, n: 5},
		{kind: doCrash},
		{kind: doClear, n: 2},
	}
}

// TestAllShortHistories makes every row of up to four of someCalls, of a vault
// of no and of two commits.
func TestAllShortHistories(t *testing.T) {
	two := []call{
		{kind: doPut, slot: 0, n: 1, v: has("o")},
		{kind: doCommit, slot: 0},
		{kind: doBegin, slot: 0, n: api.MSure},
		{kind: doPut, slot: 0, n: 1},
		{kind: doPut, slot: 0, n: 2, v: has("p")},
		{kind: doCommit, slot: 0},
		{kind: doBegin, slot: 0, n: api.MShot},
		{kind: doBegin, slot: 1, n: api.MSure},
	}
	goOn(t, nil, someCalls(), 4)
	goOn(t, two, someCalls(), 4)
}

// TestAllClashes makes every row of up to five calls of those by which deeds
// are in each other's way.
func TestAllClashes(t *testing.T) {
	calls := slices.DeleteFunc(someCalls(), func(c call) bool {
		return c.kind == doBegin || c.kind == doCrash || c.kind == doClear
	})
	goOn(t, nil, calls, 5)
}

// goOn runs a history, and then every one with up to that many calls more.
func goOn(t *testing.T, history, calls []call, more int) {
	t.Helper()
	p := start(2)
	for _, c := range history {
		p.run(t, c)
	}
	holdAgainst(t, p.v, p.m)
	if more == 0 {
		return
	}
	for _, c := range calls {
		goOn(t, append(history[:len(history):len(history)], c), calls, more-1)
	}
}

func someValue(r *rand.Rand, most int) api.Value {
	if r.Intn(4) == 0 {
		return none
	}
	b := make([]byte, r.Intn(most+1))
	r.Read(b)
	return has(string(b))
}

// someCall is of a vault of so many commits, with values of up to most bytes.
func someCall(r *rand.Rand, last, most int) call {
	c := call{slot: r.Intn(5)}
	switch r.Intn(20) {
	case 0, 1, 2, 3:
		c.kind, c.n, c.to = doBegin, r.Intn(5), last+1-r.Intn(6)
	case 4, 5, 6:
		c.kind, c.n = doGet, r.Intn(10)-1
	case 7:
		c.kind, c.n = doTear, r.Intn(60)-2
	case 8:
		c.kind = doCrash
	case 9:
		c.kind, c.n = doClear, last+1-r.Intn(6)
	case 10, 11, 12, 13:
		c.kind = doCommit
	default:
		c.kind, c.n, c.v = doPut, r.Intn(10)-1, someValue(r, most)
	}
	return c
}

// fillUp has a deed write all keys, so that the bytes are full ahead of the
// commits.
func fillUp(t *testing.T, p *pairOf) {
	t.Helper()
	p.run(t, call{kind: doBegin, n: api.MShot})
	putAll(t, p.deeds[0], longest())
	p.run(t, call{kind: doCommit})
}

// TestLongHistories goes on until vaults are full, of commits or of bytes.
func TestLongHistories(t *testing.T) {
	fullOf := map[string]int{}
	for seed := range 60 {
		r := rand.New(rand.NewSource(int64(seed)))
		p := start(5)
		for range 700 {
			if seed%2 == 0 && r.Intn(20) == 0 {
				fillUp(t, p)
			}
			p.run(t, someCall(r, len(p.m.list), 12))
			holdAgainst(t, p.v, p.m)
			if t.Failed() {
				t.Fatalf("in history %d", seed)
			}
		}
		switch {
		case len(p.m.list) == 40:
			fullOf["commits"]++
		case len(p.m.log()) > 2980:
			fullOf["bytes"]++
		}
	}
	if fullOf["commits"] == 0 || fullOf["bytes"] == 0 {
		t.Errorf("vaults that were full: %v", fullOf)
	}
}

// TestOneTime: whatever deeds, tears and crashes come meanwhile, a deed that
// only reads gets of each key what it had behind its commit.
func TestOneTime(t *testing.T) {
	r := rand.New(rand.NewSource(1))
	for range 20 {
		p := start(5)
		worlds := [][8]api.Value{{}}
		for len(worlds) < 41 {
			w := worlds[len(worlds)-1]
			k, v := r.Intn(8), has(fmt.Sprint(r.Intn(100)))
			p.run(t, call{kind: doBegin, n: api.MShot})
			p.run(t, call{kind: doPut, n: k, v: v})
			kind := []int{doCommit, doTear, doTear, doCrash}[r.Intn(4)]
			ahead := len(p.m.list)
			p.run(t, call{kind: kind, n: r.Intn(10)})
			if len(p.m.list) > ahead {
				w[k] = v
				worlds = append(worlds, w)
			}
			for at, world := range worlds {
				d := begin(t, p.v, api.MLook, at)
				for k, want := range world {
					if got, code := d.Get(p.v.Table, k); got != want || code != 0 {
						t.Fatalf("Get(%d) behind %d = %#v, %d, want %#v", k, at, got, code, want)
					}
				}
				wantCommit(t, p.v, d, 0, 0)
			}
		}
	}
}
