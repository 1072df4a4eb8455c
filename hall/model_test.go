package hall_test

import (
	"bytes"
	"maps"
	"math"
	"math/rand"
	"reflect"
	"slices"
	"testing"

	"vaultage/api"
	"vaultage/hall"
)

// encode is the bytes of pairs that are a commit.
func encode(w []api.Pair) []byte {
	body := ""
	for _, p := range w {
		size := byte(255)
		if p.V.There {
			size = byte(len(p.V.Bytes))
		}
		body += string([]byte{byte(p.Key), size}) + p.V.Bytes
	}
	return append([]byte{byte(2 + len(body)), byte(len(w))}, body...)
}

// modelDeed is a deed by the words of its chapter.
type modelDeed struct {
	mode, at int
	reads    map[int]bool
	writes   map[int]api.Value
}

func (d *modelDeed) list() []api.Pair {
	var l []api.Pair
	for _, k := range slices.Sorted(maps.Keys(d.writes)) {
		l = append(l, api.Pair{Key: k, V: d.writes[k]})
	}
	return l
}

// model is a hall by the chapter's words: its commits, of each key the commit
// ahead of which all is forgotten, and the deeds of those seats that have one.
type model struct {
	commits [][]api.Pair
	first   [8]int
	seats   map[int]*modelDeed
}

func newModel() *model { return &model{seats: map[int]*modelDeed{}} }

func (m *model) log() []byte {
	var b []byte
	for _, w := range m.commits {
		b = append(b, encode(w)...)
	}
	return b
}

// ats are the commits since which a key had something, from first on.
func (m *model) ats(k int) []int {
	l := []int{m.first[k]}
	for i, w := range m.commits {
		wrote := slices.ContainsFunc(w, func(p api.Pair) bool { return p.Key == k })
		if wrote && i+1 > m.first[k] {
			l = append(l, i+1)
		}
	}
	return l
}

func (m *model) since(k int) int { return slices.Max(m.ats(k)) }

// world is what all keys had behind a commit, forgotten or not.
func (m *model) world(at int) [8]api.Value {
	var w [8]api.Value
	for _, l := range m.commits[:at] {
		for _, p := range l {
			w[p.Key] = p.V
		}
	}
	return w
}

func (m *model) read(k, at int) (api.Value, int) {
	switch {
	case k < 0 || k > 7 || at < 0 || at > len(m.commits):
		return none, api.ErrRange
	case at < m.first[k]:
		return none, api.ErrOld
	}
	return m.world(at)[k], 0
}

func (m *model) least() int {
	least := len(m.commits)
	for _, d := range m.seats {
		least = min(least, d.at)
	}
	return least
}

func (m *model) clear() int {
	forgotten, least := 0, m.least()
	for k := range m.first {
		for _, at := range m.ats(k)[1:] {
			if at <= least {
				m.first[k] = at
				forgotten++
			}
		}
	}
	return forgotten
}

func (m *model) crash() {
	m.first = [8]int{}
	m.seats = map[int]*modelDeed{}
}

// do is a step by the chapter's words.
func (m *model) do(x api.Step) api.Event {
	if x.Kind < 1 || x.Kind > 10 {
		return api.Event{Code: api.ErrKind}
	}
	if x.Kind == api.SClear {
		return api.Event{N: m.clear()}
	}
	if x.Kind == api.SCrash {
		m.crash()
		return api.Event{}
	}
	if x.S < 0 || x.S > 4 {
		return api.Event{Code: api.ErrRange}
	}
	d := m.seats[x.S]
	if x.Kind == api.SBegin {
		return api.Event{Code: m.begin(x)}
	}
	if d == nil {
		return api.Event{Code: api.ErrNone}
	}
	switch x.Kind {
	case api.SGet:
		v, code := m.get(d, x.Key)
		return api.Event{V: v, Code: code}
	case api.SPut:
		return api.Event{Code: m.put(d, x.Key, has(x.Bytes))}
	case api.SDrop:
		return api.Event{Code: m.put(d, x.Key, none)}
	case api.SList:
		l, code := m.list(d, x.Key, x.To)
		return api.Event{L: l, Code: code}
	case api.SCommit:
		delete(m.seats, x.S)
		n, code := m.commit(d, math.MaxInt)
		return api.Event{N: n, Code: code}
	case api.SAbort:
		delete(m.seats, x.S)
		return api.Event{}
	}
	n, code := m.commit(d, x.Keep)
	m.crash()
	return api.Event{N: n, Code: code}
}

func (m *model) begin(x api.Step) int {
	at := len(m.commits)
	switch {
	case m.seats[x.S] != nil:
		return api.ErrThere
	case x.Mode < 1 || x.Mode > 3:
		return api.ErrKind
	case x.Mode == api.MLook:
		at = x.At
	}
	if at < 0 || at > len(m.commits) {
		return api.ErrRange
	}
	if at < slices.Max(m.first[:]) {
		return api.ErrOld
	}
	m.seats[x.S] = &modelDeed{x.Mode, at, map[int]bool{}, map[int]api.Value{}}
	return 0
}

func (m *model) get(d *modelDeed, k int) (api.Value, int) {
	if v, ok := d.writes[k]; ok {
		return v, 0
	}
	v, code := m.read(k, d.at)
	if code == 0 {
		d.reads[k] = true
	}
	return v, code
}

func (m *model) put(d *modelDeed, k int, v api.Value) int {
	switch {
	case k < 0 || k > 7:
		return api.ErrRange
	case d.mode == api.MLook:
		return api.ErrKind
	case len(v.Bytes) > 12:
		return api.ErrLong
	}
	d.writes[k] = v
	return 0
}

func (m *model) list(d *modelDeed, from, to int) ([]api.Pair, int) {
	if from < 0 || from > 7 || to < 0 || to > 7 {
		return nil, api.ErrRange
	}
	var l []api.Pair
	for k := from; k <= to; k++ {
		v, code := m.get(d, k)
		if code != 0 {
			return nil, code
		}
		if v.There {
			l = append(l, api.Pair{Key: k, V: v})
		}
	}
	return l, 0
}

// code is what is in a deed's way, or in its commit's.
func (m *model) code(d *modelDeed) int {
	for k := range d.writes {
		if m.since(k) > d.at {
			return api.ErrClash
		}
	}
	for k := range d.reads {
		if d.mode == api.MSure && m.since(k) > d.at {
			return api.ErrStale
		}
	}
	if len(d.writes) > 0 && (len(m.commits) == 40 || len(m.log())+len(encode(d.list())) > 3000) {
		return api.ErrFull
	}
	return 0
}

func (m *model) commit(d *modelDeed, keep int) (int, int) {
	code, w := m.code(d), d.list()
	if code != 0 || len(w) == 0 || keep < len(encode(w)) {
		return 0, code
	}
	m.commits = append(m.commits, w)
	return len(m.commits), 0
}

// pairOf is a hall, and its model.
type pairOf struct {
	h *hall.Hall
	m *model
}

func start() pairOf { return pairOf{hall.New(), newModel()} }

// run does a step, and looks at all that is told then but of the table.
func (p pairOf) run(t *testing.T, x api.Step) api.Event {
	t.Helper()
	wantE := p.m.do(x)
	e := p.h.Do(x)
	if !sameEvent(e, wantE) {
		t.Fatalf("Do(%+v) = %+v, want %+v", x, e, wantE)
	}
	if p.h.Last() != len(p.m.commits) || p.h.Least() != p.m.least() {
		t.Fatalf("behind %+v: Last %d, Least %d, want %d, %d", x, p.h.Last(), p.h.Least(), len(p.m.commits), p.m.least())
	}
	for s := -1; s <= 5; s++ {
		if got, want := tellDeed(p.h, s), p.m.tellDeed(s); !reflect.DeepEqual(got, want) {
			t.Fatalf("behind %+v: seat %d has %+v, want %+v", x, s, got, want)
		}
	}
	return e
}

func (m *model) tellDeed(s int) deedTold {
	d := m.seats[s]
	if d == nil {
		return deedTold{}
	}
	return deedTold{true, d.mode, d.at, slices.Sorted(maps.Keys(d.reads)), d.list()}
}

// holdAgainst looks at all that is told of the vault.
func (p pairOf) holdAgainst(t *testing.T) {
	t.Helper()
	h, m := p.h, p.m
	if !bytes.Equal(h.Log(), m.log()) {
		t.Fatalf("Log() = %v, want %v", h.Log(), m.log())
	}
	if h.First() != slices.Max(m.first[:]) {
		t.Fatalf("First() = %d, want %d", h.First(), slices.Max(m.first[:]))
	}
	for k := range api.MaxKeys {
		if h.Since(k) != m.since(k) {
			t.Fatalf("Since(%d) = %d, want %d", k, h.Since(k), m.since(k))
		}
		for at := -1; at <= len(m.commits)+1; at++ {
			got, gotCode := h.Read(k, at)
			if want, code := m.read(k, at); got != want || gotCode != code {
				t.Fatalf("Read(%d, %d) = %#v, %d, want %#v, %d", k, at, got, gotCode, want, code)
			}
		}
	}
}

// someSteps have two seats meet at two keys, and a third one look.
func someSteps() []api.Step {
	return []api.Step{
		beginStep(0, api.MShot, 9),
		beginStep(1, api.MSure, 0),
		beginStep(2, api.MLook, 1),
		getStep(0, 2),
		getStep(1, 1),
		putStep(0, 1, "a"),
		putStep(1, 2, "b"),
		dropStep(1, 1),
		listStep(2, 1, 2),
		commitStep(0),
		commitStep(1),
		abortStep(1),
		clearStep(),
		crashStep(),
		tearStep(0, 4),
		tearStep(1, 5),
	}
}

// TestAllShortHistories does every row of up to four of someSteps, of a new
// hall, and of one in which three deeds go on behind two commits.
func TestAllShortHistories(t *testing.T) {
	goOn(t, nil, someSteps(), 4)
	goOn(t, []api.Step{
		beginStep(4, api.MShot, 0), putStep(4, 1, "o"), commitStep(4),
		beginStep(0, api.MShot, 0), beginStep(1, api.MSure, 0),
		beginStep(4, api.MShot, 0), dropStep(4, 1), putStep(4, 2, "p"), commitStep(4),
		beginStep(2, api.MLook, 1),
	}, someSteps(), 4)
}

// TestAllClashes does every row of up to five steps by which two deeds are in
// each other's way.
func TestAllClashes(t *testing.T) {
	steps := slices.DeleteFunc(someSteps(), func(x api.Step) bool {
		return x.S == 2 || x.Kind == api.SAbort || x.Kind == api.SCrash || x.Kind == api.SClear
	})
	goOn(t, []api.Step{beginStep(0, api.MShot, 0), beginStep(1, api.MSure, 0)}, steps, 5)
}

// goOn does a history, and then every one with up to that many steps more.
func goOn(t *testing.T, history, steps []api.Step, more int) {
	t.Helper()
	p := start()
	for i, x := range history {
		if i < len(history)-1 {
			// A shorter history has looked at what is told there.
			p.m.do(x)
			p.h.Do(x)
			continue
		}
		p.run(t, x)
	}
	p.holdAgainst(t)
	if more == 0 {
		return
	}
	for _, x := range steps {
		goOn(t, append(history[:len(history):len(history)], x), steps, more-1)
	}
}

// someStep is of a hall of that many commits: mostly one that can be done.
func someStep(r *rand.Rand, last int) api.Step {
	x := api.Step{
		S: r.Intn(5), Mode: []int{api.MShot, api.MShot, api.MSure, api.MSure, api.MLook}[r.Intn(5)], At: last - r.Intn(6),
		Key: r.Intn(8), To: r.Intn(8), Keep: r.Intn(60),
		Bytes: letters(r.Intn(13)),
	}
	kinds := []int{
		api.SBegin, api.SBegin, api.SBegin, api.SBegin, api.SGet, api.SGet, api.SGet,
		api.SPut, api.SPut, api.SPut, api.SPut, api.SDrop, api.SList,
		api.SCommit, api.SCommit, api.SCommit, api.SAbort, api.SClear,
	}
	x.Kind = kinds[r.Intn(len(kinds))]
	switch r.Intn(100) {
	case 0:
		x.Kind = api.SCrash
	case 1, 2:
		x.Kind = api.STear
	case 3, 4:
		return wildStep(r, x)
	}
	return x
}

// wildStep makes one number of a step any other one.
func wildStep(r *rand.Rand, x api.Step) api.Step {
	n := []int{math.MinInt, -1, 0, 4, 5, 8, 11, 41, math.MaxInt}[r.Intn(9)]
	switch r.Intn(8) {
	case 0:
		x.Kind = n
	case 1:
		x.S = n
	case 2:
		x.Mode = n
	case 3:
		x.At = n
	case 4:
		x.Key = n
	case 5:
		x.To = n
	case 6:
		x.Keep = n
	default:
		x.Bytes = letters(13 + r.Intn(300))
	}
	return x
}

// fillUp has a seat write all keys, so that the bytes are full ahead of the
// commits.
func fillUp(t *testing.T, p pairOf) {
	t.Helper()
	p.run(t, abortStep(0))
	p.run(t, beginStep(0, api.MShot, 0))
	for k := range api.MaxKeys {
		p.run(t, putStep(0, k, letters(api.MaxValue)))
	}
	p.run(t, commitStep(0))
}

// TestLongHistories goes on until halls are full, of commits or of bytes.
func TestLongHistories(t *testing.T) {
	fullOf := map[string]int{}
	codes := map[int]int{}
	for seed := range 60 {
		r := rand.New(rand.NewSource(int64(seed)))
		p := start()
		for range 1200 {
			if seed%2 == 0 && r.Intn(20) == 0 {
				fillUp(t, p)
			}
			codes[p.run(t, someStep(r, len(p.m.commits))).Code]++
			p.holdAgainst(t)
		}
		switch {
		case len(p.m.commits) == 40:
			fullOf["commits"]++
		case len(p.m.log()) > 2980:
			fullOf["bytes"]++
		}
	}
	if fullOf["commits"] == 0 || fullOf["bytes"] == 0 {
		t.Errorf("halls that were full: %v", fullOf)
	}
	for _, code := range []int{0, api.ErrRange, api.ErrLong, api.ErrKind, api.ErrNone, api.ErrThere, api.ErrFull, api.ErrClash, api.ErrStale, api.ErrOld} {
		if codes[code] == 0 {
			t.Errorf("code %d was never told: %v", code, codes)
		}
	}
}

// done is a deed that was done, as it is seen from without: the commits
// between which it was, and the keys that it wrote.
type done struct {
	at, n  int
	writes []api.Pair
}

// TestFirstComeOfLongHistories: of any two deeds that were done and wrote the
// same key, one began behind the other one's commit.
func TestFirstComeOfLongHistories(t *testing.T) {
	met := 0
	for seed := range 40 {
		r := rand.New(rand.NewSource(int64(seed)))
		h := hall.New()
		var all []done
		for range 600 {
			x := someStep(r, h.Last())
			one := done{}
			if d := h.Deed(x.S); d != nil {
				one = done{at: d.At(), writes: d.Writes()}
			}
			e := h.Do(x)
			if (x.Kind == api.SCommit || x.Kind == api.STear) && e.N > 0 {
				one.n = e.N
				all = append(all, one)
			}
		}
		met += sawEachOther(t, all)
	}
	if met == 0 {
		t.Error("no two deeds wrote the same key")
	}
}

// sawEachOther tells how many deeds wrote the same key.
func sawEachOther(t *testing.T, all []done) int {
	t.Helper()
	met := 0
	for i, a := range all {
		if a.n != i+1 {
			t.Fatalf("the commit %d has the number %d", i+1, a.n)
		}
		for _, b := range all[:i] {
			both := slices.ContainsFunc(a.writes, func(p api.Pair) bool {
				return slices.ContainsFunc(b.writes, func(q api.Pair) bool { return p.Key == q.Key })
			})
			if !both {
				continue
			}
			met++
			if a.at < b.n {
				t.Fatalf("%+v and %+v were both done", a, b)
			}
		}
	}
	return met
}

// TestOneTime: whatever comes meanwhile, a deed gets of each key what it had
// behind its commit, or what it wrote itself, and never a code: no clearing
// takes away what some deed sees.
func TestOneTime(t *testing.T) {
	for seed := range 20 {
		r := rand.New(rand.NewSource(int64(seed)))
		p := start()
		for range 400 {
			x := someStep(r, len(p.m.commits))
			p.run(t, x)
			for s, d := range p.m.seats {
				world := p.m.world(d.at)
				for k, v := range d.writes {
					world[k] = v
				}
				for k, v := range world {
					wantV(t, p.h, getStep(s, k), v)
					p.m.do(getStep(s, k))
				}
			}
		}
	}
}

// TestAllOrNothing: what the keys have behind any step is what they had ahead
// of it, or that with all that the deed wrote; and so it is behind a crash.
func TestAllOrNothing(t *testing.T) {
	came, torn := 0, 0
	for seed := range 40 {
		r := rand.New(rand.NewSource(int64(seed)))
		h := hall.New()
		for range 400 {
			x := someStep(r, h.Last())
			ahead := tellWorld(h)
			behind := ahead
			wrote := false
			if d := h.Deed(x.S); d != nil {
				for _, w := range d.Writes() {
					behind[w.Key], wrote = w.V, true
				}
			}
			e := h.Do(x)
			want := ahead
			if (x.Kind == api.SCommit || x.Kind == api.STear) && e.N > 0 {
				want = behind
				came++
			} else if x.Kind == api.STear && wrote && e.Code == 0 {
				torn++
			}
			if tellWorld(h) != want {
				t.Fatalf("behind %+v, %+v: %v, want %v", x, e, tellWorld(h), want)
			}
		}
		want := tellWorld(h)
		fine(t, h, crashStep())
		if tellWorld(h) != want {
			t.Fatalf("behind a crash: %v, want %v", tellWorld(h), want)
		}
	}
	if came == 0 || torn == 0 {
		t.Errorf("%d came, %d were torn", came, torn)
	}
}

// tellWorld is what all keys have by now.
func tellWorld(h *hall.Hall) [8]api.Value {
	var w [8]api.Value
	for _, p := range tellList(h, h.Last()) {
		w[p.Key] = p.V
	}
	return w
}

// TestSameAgain: what is told hangs on the steps alone.
func TestSameAgain(t *testing.T) {
	for seed := range 10 {
		a, b := hall.New(), hall.New()
		r := rand.New(rand.NewSource(int64(seed)))
		for range 300 {
			x := someStep(r, a.Last())
			if got, again := a.Do(x), b.Do(x); !sameEvent(got, again) {
				t.Fatalf("Do(%+v) = %+v, and again %+v", x, got, again)
			}
		}
		if !reflect.DeepEqual(tell(a), tell(b)) {
			t.Fatal("two halls of the same steps are not the same")
		}
	}
}

// TestNoPanic has steps with any numbers.
func TestNoPanic(t *testing.T) {
	r := rand.New(rand.NewSource(1))
	for range 50 {
		h := hall.New()
		for range 400 {
			x := someStep(r, h.Last())
			for range r.Intn(4) {
				x = wildStep(r, x)
			}
			h.Do(x)
			h.Busy(x.Key)
			h.Deed(x.At)
			hall.Seat(x.Keep)
			h.Least()
			h.Read(x.Key, x.At)
			h.List(x.Key, x.To, x.At)
			h.Since(x.To)
			h.Log()
		}
	}
}
