package log_test

import (
	"bytes"
	"math/rand"
	"slices"
	"testing"

	"vaultage/api"
	"vaultage/codec"
	"vaultage/log"
	"vaultage/table"
)

// encode is the bytes of pairs that are a commit.
func encode(w []api.Pair) []byte {
	body := ""
	for _, p := range w {
		size := byte(255)
		if p.V.There {
			size = byte(len(p.V.Bytes))
		}
		body += string([]byte{byte(p.Key), size}) + p.V.Bytes
	}
	return append([]byte{byte(2 + len(body)), byte(len(w))}, body...)
}

// model is the chapter's log: the commits themselves, and what is left of one
// that was torn.
type model struct {
	list [][]api.Pair
	torn []byte
}

func (m *model) bytes() []byte {
	var b []byte
	for _, w := range m.list {
		b = append(b, encode(w)...)
	}
	return append(b, m.torn...)
}

func (m *model) tear(w []api.Pair, keep int) int {
	if code := table.Check(w); code != 0 {
		return code
	}
	b := encode(w)
	if len(m.list) == 40 || len(m.bytes())+len(b) > 3000 {
		return api.ErrFull
	}
	switch {
	case keep >= len(b):
		m.list = append(m.list, slices.Clone(w))
	case keep > 0:
		m.torn = b[:keep]
	}
	return 0
}

func (m *model) mend() int {
	cut := len(m.torn)
	m.torn = nil
	return cut
}

// wantModel holds a log against the model, and its table, too.
func wantModel(t *testing.T, g *log.Log, m *model) {
	t.Helper()
	wantLog(t, g, m.bytes(), len(m.list))
	wantTable(t, g.Bytes(), m.list)
}

// call is a Put, a Tear with the Mend that is due behind it, or a Mend.
type call struct {
	kind string
	w    []api.Pair
	keep int
}

func doBoth(t *testing.T, g *log.Log, m *model, c call) {
	t.Helper()
	got, want := 0, 0
	switch c.kind {
	case "put":
		got, want = g.Put(c.w), m.tear(c.w, 1000)
	case "tear":
		got, want = g.Tear(c.w, c.keep), m.tear(c.w, c.keep)
	case "mend":
		got, want = g.Mend(), m.mend()
	}
	if got != want {
		t.Fatalf("%s of %#v, %d: %d, want %d", c.kind, c.w, c.keep, got, want)
	}
	if c.kind == "tear" {
		wantModel(t, g, m)
		doBoth(t, g, m, call{kind: "mend"})
	}
}

func someCalls() []call {
	two := pairs(pair(1, "b"), drop(2))
	return []call{
		{"put", nil, 0},
		{"put", pairs(pair(1, "a")), 0},
		{"put", two, 0},
		{"put", pairs(drop(8)), 0},
		{"tear", two, 0},
		{"tear", two, 6},
		{"tear", two, 7},
		{"tear", pairs(drop(2), drop(2)), 2},
		{"mend", nil, 0},
	}
}

// TestAllShortHistories asks a log every row of up to four of someCalls.
func TestAllShortHistories(t *testing.T) {
	for l := range 5 {
		rows := 1
		for range l {
			rows *= len(someCalls())
		}
		for row := range rows {
			g, m := log.New(), &model{}
			for range l {
				doBoth(t, g, m, someCalls()[row%len(someCalls())])
				row /= len(someCalls())
			}
			wantModel(t, g, m)
		}
	}
}

// somePairs are pairs with values of up to so many bytes, seldom no commit.
func somePairs(r *rand.Rand, most int) []api.Pair {
	if r.Intn(12) == 0 {
		all := faults()
		return all[r.Intn(len(all))].w
	}
	var w []api.Pair
	for k := range api.MaxKeys {
		switch r.Intn(4) {
		case 0:
			w = append(w, drop(k))
		case 1, 2:
			b := make([]byte, r.Intn(most+1))
			r.Read(b)
			w = append(w, pair(k, string(b)))
		}
	}
	return w
}

func someCall(r *rand.Rand, most int) call {
	w := somePairs(r, most)
	switch r.Intn(8) {
	case 0:
		return call{kind: "mend"}
	case 1, 2, 3:
		return call{"tear", w, r.Intn(len(w)*(most+2)+6) - 2}
	}
	return call{"put", w, 0}
}

// TestLongHistories goes on until logs are full, of commits or of bytes.
func TestLongHistories(t *testing.T) {
	fullOf := map[string]int{}
	for seed := range 60 {
		r := rand.New(rand.NewSource(int64(seed)))
		most := []int{3, 12, 12}[seed%3]
		g, m := log.New(), &model{}
		for range 150 {
			if seed%3 == 2 && r.Intn(2) == 0 {
				doBoth(t, g, m, call{"put", longest(), 0})
			}
			doBoth(t, g, m, someCall(r, most))
			wantModel(t, g, m)
		}
		switch n := len(m.bytes()); {
		case len(m.list) == 40:
			fullOf["commits"]++
		case n > 2990:
			fullOf["bytes"]++
		}
	}
	if fullOf["commits"] == 0 || fullOf["bytes"] == 0 {
		t.Errorf("logs that were full: %v", fullOf)
	}
}

// beginning is the commits with which bytes begin.
func beginning(b []byte) [][]api.Pair {
	var list [][]api.Pair
	for len(list) < 40 {
		w, size, code := codec.Decode(b)
		if code != 0 {
			break
		}
		list, b = append(list, w), b[size:]
	}
	return list
}

// holdTable looks at what is promised of any bytes.
func holdTable(t *testing.T, b []byte) {
	t.Helper()
	ahead := slices.Clone(b)
	wantTable(t, b, beginning(b))
	if !bytes.Equal(b, ahead) {
		t.Fatalf("Table(%v) left %v", ahead, b)
	}
}

// TestTableOfBrokenBytes breaks a byte or two of the bytes of logs.
func TestTableOfBrokenBytes(t *testing.T) {
	r := rand.New(rand.NewSource(1))
	for range 2000 {
		g := log.New()
		for range r.Intn(50) {
			g.Put(somePairs(r, 5))
		}
		b := append(g.Bytes(), make([]byte, r.Intn(4)+1)...)
		for range r.Intn(3) {
			b[r.Intn(len(b))] = byte(r.Intn(256) >> r.Intn(8))
		}
		holdTable(t, b)
	}
}

// FuzzTable runs its few rows as a test; go test -fuzz makes more.
func FuzzTable(f *testing.F) {
	var all []byte
	for _, c := range commits() {
		all = append(all, c.b...)
		f.Add(slices.Clone(all))
	}
	f.Add([]byte{})
	f.Add(bytes.Repeat([]byte{2, 0}, 41))
	f.Add([]byte{2, 0, 4, 1, 8, 255, 2, 0})
	f.Fuzz(func(t *testing.T, b []byte) { holdTable(t, b) })
}
