package hall_test

import (
	"bytes"
	"math"
	"reflect"
	"slices"
	"strings"
	"testing"

	"vaultage/api"
	"vaultage/codec"
	"vaultage/hall"
)

var none = api.Value{}

func has(s string) api.Value { return api.Value{There: true, Bytes: s} }

func pair(k int, s string) api.Pair { return api.Pair{Key: k, V: has(s)} }

func drop(k int) api.Pair { return api.Pair{Key: k} }

func modes() []int { return []int{api.MShot, api.MSure, api.MLook} }

// noSeats are numbers of no seat.
func noSeats() []int { return []int{math.MinInt, -1, 5, 6, math.MaxInt} }

// noKeys are numbers of no key.
func noKeys() []int { return []int{math.MinInt, -1, 8, 9, math.MaxInt} }

// letters is a text of that many bytes.
func letters(n int) string { return strings.Repeat("x", n) }

func beginStep(s, mode, at int) api.Step {
	return api.Step{Kind: api.SBegin, S: s, Mode: mode, At: at}
}

func getStep(s, k int) api.Step { return api.Step{Kind: api.SGet, S: s, Key: k} }

func putStep(s, k int, b string) api.Step {
	return api.Step{Kind: api.SPut, S: s, Key: k, Bytes: b}
}

func dropStep(s, k int) api.Step { return api.Step{Kind: api.SDrop, S: s, Key: k} }

func listStep(s, from, to int) api.Step {
	return api.Step{Kind: api.SList, S: s, Key: from, To: to}
}

func commitStep(s int) api.Step { return api.Step{Kind: api.SCommit, S: s} }

func abortStep(s int) api.Step { return api.Step{Kind: api.SAbort, S: s} }

func clearStep() api.Step { return api.Step{Kind: api.SClear} }

func crashStep() api.Step { return api.Step{Kind: api.SCrash} }

func tearStep(s, keep int) api.Step { return api.Step{Kind: api.STear, S: s, Keep: keep} }

// sameEvent takes a list without elements for none.
func sameEvent(a, b api.Event) bool {
	return a.Code == b.Code && a.N == b.N && a.V == b.V && slices.Equal(a.L, b.L)
}

func want(t *testing.T, h *hall.Hall, x api.Step, e api.Event) {
	t.Helper()
	if got := h.Do(x); !sameEvent(got, e) {
		t.Fatalf("Do(%+v) = %+v, want %+v", x, got, e)
	}
}

// fine is a step of which nothing is told.
func fine(t *testing.T, h *hall.Hall, l ...api.Step) {
	t.Helper()
	for _, x := range l {
		want(t, h, x, api.Event{})
	}
}

func wantCode(t *testing.T, h *hall.Hall, x api.Step, code int) {
	t.Helper()
	want(t, h, x, api.Event{Code: code})
}

func wantN(t *testing.T, h *hall.Hall, x api.Step, n int) {
	t.Helper()
	want(t, h, x, api.Event{N: n})
}

func wantV(t *testing.T, h *hall.Hall, x api.Step, v api.Value) {
	t.Helper()
	want(t, h, x, api.Event{V: v})
}

func wantL(t *testing.T, h *hall.Hall, x api.Step, l ...api.Pair) {
	t.Helper()
	want(t, h, x, api.Event{L: l})
}

// wantBusy: these seats have deeds, and no others.
func wantBusy(t *testing.T, h *hall.Hall, busy ...int) {
	t.Helper()
	for s := range api.MaxSeats {
		is := slices.Contains(busy, s)
		if h.Busy(s) != is || (h.Deed(s) != nil) != is {
			t.Fatalf("seat %d: Busy %v, Deed %v, want busy %v", s, h.Busy(s), h.Deed(s), is)
		}
	}
}

// putAll has the deed of a seat write these.
func putAll(t *testing.T, h *hall.Hall, s int, w ...api.Pair) {
	t.Helper()
	for _, p := range w {
		if p.V.There {
			fine(t, h, putStep(s, p.Key, p.V.Bytes))
		} else {
			fine(t, h, dropStep(s, p.Key))
		}
	}
}

// write makes a commit of these, by a deed of a seat that has none.
func write(t *testing.T, h *hall.Hall, s int, w ...api.Pair) {
	t.Helper()
	fine(t, h, beginStep(s, api.MShot, 0))
	putAll(t, h, s, w...)
	wantN(t, h, commitStep(s), h.Last()+1)
}

// filled is a hall without deeds, of three commits:
//
//	commit  key 1  key 3  key 7
//	1       a      b
//	2       -             z
//	3       c      b
//
// - is no value.
func filled(t *testing.T) *hall.Hall {
	t.Helper()
	h := hall.New()
	write(t, h, 0, pair(1, "a"), pair(3, "b"))
	write(t, h, 0, drop(1), pair(7, "z"))
	write(t, h, 0, pair(1, "c"), pair(3, "b"))
	return h
}

// filledLists are the lists of filled behind the commits 0 to 3.
func filledLists() [][]api.Pair {
	return [][]api.Pair{
		nil,
		{pair(1, "a"), pair(3, "b")},
		{pair(3, "b"), pair(7, "z")},
		{pair(1, "c"), pair(3, "b"), pair(7, "z")},
	}
}

// deedTold is all that a deed tells.
type deedTold struct {
	Busy     bool
	Mode, At int
	Reads    []int
	Writes   []api.Pair
}

// hallTold is all that a hall tells.
type hallTold struct {
	Last, First, Least int
	Since              []int
	Values             []api.Value
	Codes              []int
	Log                string
	Deeds              []deedTold
}

func tellDeed(h *hall.Hall, s int) deedTold {
	d := h.Deed(s)
	if d == nil {
		return deedTold{Busy: h.Busy(s)}
	}
	return deedTold{h.Busy(s), d.Mode(), d.At(), d.Reads(), d.Writes()}
}

func tell(h *hall.Hall) hallTold {
	w := hallTold{Last: h.Last(), First: h.First(), Least: h.Least(), Log: string(h.Log())}
	for k := -1; k <= api.MaxKeys; k++ {
		w.Since = append(w.Since, h.Since(k))
		for at := -1; at <= h.Last()+1; at++ {
			v, code := h.Read(k, at)
			w.Values, w.Codes = append(w.Values, v), append(w.Codes, code)
		}
	}
	for s := range api.MaxSeats {
		w.Deeds = append(w.Deeds, tellDeed(h, s))
	}
	return w
}

// unchanged: what is done then is not to be seen at the hall.
func unchanged(t *testing.T, h *hall.Hall, do func()) {
	t.Helper()
	ahead := tell(h)
	do()
	if behind := tell(h); !reflect.DeepEqual(ahead, behind) {
		t.Fatalf("the hall was %+v and is %+v", ahead, behind)
	}
}

func TestNew(t *testing.T) {
	h := hall.New()
	if h.Last() != 0 || h.First() != 0 || h.Least() != 0 || len(h.Log()) != 0 {
		t.Errorf("a new hall has %+v", tell(h))
	}
	if l, code := h.List(0, 7, 0); len(l) != 0 || code != 0 {
		t.Errorf("List = %v, %d, want nothing", l, code)
	}
	wantBusy(t, h)
}

func TestSeat(t *testing.T) {
	if api.MaxSeats != 5 {
		t.Fatal("the seats of these tests are five")
	}
	for s := range 5 {
		if !hall.Seat(s) {
			t.Errorf("Seat(%d) = false", s)
		}
	}
	for _, s := range noSeats() {
		if hall.Seat(s) {
			t.Errorf("Seat(%d) = true", s)
		}
	}
}

func TestNoSuchSeatIsNotBusy(t *testing.T) {
	h := hall.New()
	for s := range 5 {
		fine(t, h, beginStep(s, api.MShot, 0))
	}
	for _, s := range noSeats() {
		if h.Busy(s) || h.Deed(s) != nil {
			t.Errorf("seat %d: Busy %v, Deed %v", s, h.Busy(s), h.Deed(s))
		}
	}
	wantBusy(t, h, 0, 1, 2, 3, 4)
}

// TestNoSuchKind: that is told ahead of what is wrong with the seat.
func TestNoSuchKind(t *testing.T) {
	h := filled(t)
	fine(t, h, beginStep(1, api.MShot, 0), putStep(1, 2, "x"))
	unchanged(t, h, func() {
		for _, kind := range []int{math.MinInt, -1, 0, 11, 12, math.MaxInt} {
			for _, s := range append(noSeats(), 0, 1) {
				wantCode(t, h, api.Step{Kind: kind, S: s, Mode: api.MShot, Key: 1, To: 2}, api.ErrKind)
			}
		}
	})
}

// kindsOfASeat are all kinds but those that look at no seat.
func kindsOfASeat() []int {
	return []int{api.SBegin, api.SGet, api.SPut, api.SDrop, api.SList, api.SCommit, api.SAbort, api.STear}
}

// TestNoSuchSeat: that is told ahead of all else that is wrong.
func TestNoSuchSeat(t *testing.T) {
	h := filled(t)
	fine(t, h, beginStep(1, api.MShot, 0), putStep(1, 2, "x"))
	wantN(t, h, clearStep(), 6)
	unchanged(t, h, func() {
		for _, kind := range kindsOfASeat() {
			for _, s := range noSeats() {
				wantCode(t, h, api.Step{Kind: kind, S: s, Mode: api.MShot, Key: 1, To: 2, Keep: 100}, api.ErrRange)
				wantCode(t, h, api.Step{Kind: kind, S: s, Mode: 9, Key: -1, To: 9, Bytes: letters(13)}, api.ErrRange)
			}
		}
	})
}

// TestNoDeed: nothing is done then; above all, a Tear of a seat without a
// deed is no crash.
func TestNoDeed(t *testing.T) {
	h := filled(t)
	fine(t, h, beginStep(1, api.MShot, 0), putStep(1, 2, "x"))
	wantN(t, h, clearStep(), 6)
	unchanged(t, h, func() {
		for _, kind := range kindsOfASeat()[1:] {
			for _, s := range []int{0, 2, 3, 4} {
				wantCode(t, h, api.Step{Kind: kind, S: s, Key: 1, To: 2, Keep: 100}, api.ErrNone)
				wantCode(t, h, api.Step{Kind: kind, S: s, Key: -1, To: 9, Bytes: letters(13)}, api.ErrNone)
			}
		}
	})
}

func TestClearAndCrashLookAtNoSeat(t *testing.T) {
	for _, s := range append(noSeats(), 0, 1, 2, 3, 4) {
		h := filled(t)
		fine(t, h, beginStep(1, api.MShot, 0))
		wantN(t, h, api.Step{Kind: api.SClear, S: s}, 6)
		wantBusy(t, h, 1)
		wantN(t, h, api.Step{Kind: api.SCrash, S: s}, 0)
		wantBusy(t, h)
	}
}

// TestBegin: At is looked at by MLook alone.
func TestBegin(t *testing.T) {
	for s := range 5 {
		for _, mode := range modes() {
			for at := range 4 {
				h := filled(t)
				fine(t, h, beginStep(s, mode, at))
				wantBusy(t, h, s)
				wantAt := 3
				if mode == api.MLook {
					wantAt = at
				}
				if d := tellDeed(h, s); !reflect.DeepEqual(d, deedTold{Busy: true, Mode: mode, At: wantAt}) {
					t.Errorf("mode %d, at %d: %+v", mode, at, d)
				}
			}
		}
	}
	h := filled(t)
	for s, at := range []int{math.MinInt, -1, 4, 7, math.MaxInt} {
		fine(t, h, beginStep(s, 1+s%2, at))
		if h.Deed(s).At() != 3 {
			t.Errorf("At = %d, want 3", h.Deed(s).At())
		}
	}
}

// TestBeginThere: a deed is told ahead of what Begin has to tell.
func TestBeginThere(t *testing.T) {
	h := filled(t)
	for s := range 5 {
		fine(t, h, beginStep(s, modes()[s%3], 2))
	}
	for s := range 5 {
		d := h.Deed(s)
		unchanged(t, h, func() {
			for _, mode := range append(modes(), 0, 4) {
				wantCode(t, h, beginStep(s, mode, 1), api.ErrThere)
				wantCode(t, h, beginStep(s, mode, -1), api.ErrThere)
			}
		})
		if h.Deed(s) != d {
			t.Errorf("seat %d has another deed", s)
		}
	}
}

func TestBeginCodes(t *testing.T) {
	h := filled(t)
	fine(t, h, beginStep(0, api.MShot, 0))
	wantN(t, h, clearStep(), 6)
	unchanged(t, h, func() {
		for _, mode := range []int{math.MinInt, -1, 0, 4, math.MaxInt} {
			wantCode(t, h, beginStep(1, mode, -1), api.ErrKind)
			wantCode(t, h, beginStep(1, mode, 3), api.ErrKind)
		}
		for _, at := range []int{math.MinInt, -1, 4, math.MaxInt} {
			wantCode(t, h, beginStep(1, api.MLook, at), api.ErrRange)
		}
		for at := range 3 {
			wantCode(t, h, beginStep(1, api.MLook, at), api.ErrOld)
		}
	})
	fine(t, h, beginStep(1, api.MLook, 3))
}

func TestGet(t *testing.T) {
	h := filled(t)
	for at := range 4 {
		fine(t, h, beginStep(at, api.MLook, at))
	}
	for at, l := range filledLists() {
		for k := range api.MaxKeys {
			v := none
			for _, p := range l {
				if p.Key == k {
					v = p.V
				}
			}
			wantV(t, h, getStep(at, k), v)
		}
	}
	unchanged(t, h, func() {
		for _, k := range noKeys() {
			wantCode(t, h, getStep(1, k), api.ErrRange)
		}
	})
}

// TestGetReads: the deed of that seat has read that key, and no other.
func TestGetReads(t *testing.T) {
	h := filled(t)
	fine(t, h, beginStep(0, api.MSure, 0), beginStep(4, api.MSure, 0))
	wantV(t, h, getStep(4, 7), has("z"))
	wantV(t, h, getStep(4, 2), none)
	if r := h.Deed(4).Reads(); !slices.Equal(r, []int{2, 7}) {
		t.Errorf("Reads = %v", r)
	}
	if r := h.Deed(0).Reads(); len(r) != 0 {
		t.Errorf("Reads of another one = %v", r)
	}
}

// TestPut: a value is there with no bytes, too, and only its deed sees it.
func TestPut(t *testing.T) {
	for _, mode := range modes()[:2] {
		h := filled(t)
		fine(t, h, beginStep(0, mode, 0), beginStep(1, mode, 0))
		for _, b := range []string{"y", "", letters(12), "\x00\xff", "last"} {
			fine(t, h, putStep(0, 1, b))
			wantV(t, h, getStep(0, 1), has(b))
			wantV(t, h, getStep(1, 1), has("c"))
		}
		if w := h.Deed(0).Writes(); !slices.Equal(w, []api.Pair{pair(1, "last")}) {
			t.Errorf("Writes = %v", w)
		}
		if v, code := h.Read(1, 3); v != has("c") || code != 0 {
			t.Errorf("Read = %v, %d", v, code)
		}
	}
}

func TestPutCodes(t *testing.T) {
	h := filled(t)
	fine(t, h, beginStep(0, api.MShot, 0), beginStep(1, api.MLook, 1), putStep(0, 2, "x"))
	unchanged(t, h, func() {
		for _, k := range noKeys() {
			wantCode(t, h, putStep(0, k, letters(13)), api.ErrRange)
			wantCode(t, h, putStep(1, k, letters(13)), api.ErrRange)
		}
		wantCode(t, h, putStep(0, 0, letters(13)), api.ErrLong)
		wantCode(t, h, putStep(1, 0, letters(13)), api.ErrKind)
		wantCode(t, h, putStep(1, 7, ""), api.ErrKind)
	})
}

// TestDrop: the Bytes of such a step are not looked at.
func TestDrop(t *testing.T) {
	h := filled(t)
	fine(t, h, beginStep(0, api.MShot, 0), beginStep(1, api.MShot, 0))
	x := dropStep(0, 1)
	x.Bytes = letters(13)
	fine(t, h, x)
	wantV(t, h, getStep(0, 1), none)
	wantV(t, h, getStep(1, 1), has("c"))
	if w := h.Deed(0).Writes(); !slices.Equal(w, []api.Pair{drop(1)}) {
		t.Errorf("Writes = %v", w)
	}
}

func TestDropCodes(t *testing.T) {
	h := filled(t)
	fine(t, h, beginStep(0, api.MShot, 0), beginStep(1, api.MLook, 1), dropStep(0, 2))
	unchanged(t, h, func() {
		for _, k := range noKeys() {
			wantCode(t, h, dropStep(0, k), api.ErrRange)
			wantCode(t, h, dropStep(1, k), api.ErrRange)
		}
		wantCode(t, h, dropStep(1, 1), api.ErrKind)
	})
}

func TestList(t *testing.T) {
	h := filled(t)
	for at, l := range filledLists() {
		fine(t, h, beginStep(at, api.MLook, at))
		wantL(t, h, listStep(at, 0, 7), l...)
		wantL(t, h, listStep(at, 7, 0))
	}
	wantL(t, h, listStep(3, 1, 3), pair(1, "c"), pair(3, "b"))
	wantL(t, h, listStep(3, 3, 3), pair(3, "b"))
	wantL(t, h, listStep(3, 4, 6))
	unchanged(t, h, func() {
		for _, k := range noKeys() {
			wantCode(t, h, listStep(3, k, 7), api.ErrRange)
			wantCode(t, h, listStep(3, 0, k), api.ErrRange)
		}
	})
}

// TestListOfItsOwn: what it wrote is listed, and not read.
func TestListOfItsOwn(t *testing.T) {
	h := filled(t)
	fine(t, h, beginStep(2, api.MSure, 0))
	putAll(t, h, 2, drop(1), pair(2, ""), pair(3, "own"))
	wantL(t, h, listStep(2, 1, 4), pair(2, ""), pair(3, "own"))
	if r := h.Deed(2).Reads(); !slices.Equal(r, []int{4}) {
		t.Errorf("Reads = %v, want 4", r)
	}
}

func TestCommit(t *testing.T) {
	for _, mode := range modes()[:2] {
		h := filled(t)
		for s := range 5 {
			fine(t, h, beginStep(s, mode, 0), putStep(s, s, "new"))
		}
		others := []int{0, 1, 2, 3, 4}
		for s := range 5 {
			wantN(t, h, commitStep(s), 4+s)
			others = others[1:]
			wantBusy(t, h, others...)
			wantCode(t, h, commitStep(s), api.ErrNone)
			if v, code := h.Read(s, h.Last()); h.Last() != 4+s || v != has("new") || code != 0 {
				t.Errorf("behind %d: Read = %v, %d", h.Last(), v, code)
			}
		}
	}
}

// TestCommitOfNothing: the seat has no deed any more then, too.
func TestCommitOfNothing(t *testing.T) {
	for _, mode := range modes() {
		h := filled(t)
		fine(t, h, beginStep(1, mode, 0), beginStep(2, mode, 0))
		wantL(t, h, listStep(1, 0, 7), tellList(h, h.Deed(1).At())...)
		bytes := string(h.Log())
		wantN(t, h, commitStep(1), 0)
		wantBusy(t, h, 2)
		if h.Last() != 3 || string(h.Log()) != bytes {
			t.Errorf("mode %d: there was a commit", mode)
		}
	}
}

func tellList(h *hall.Hall, at int) []api.Pair {
	l, _ := h.List(0, 7, at)
	return l
}

// TestCommitCodes: with a code, too, the seat has no deed any more; all else
// is as it was.
func TestCommitCodes(t *testing.T) {
	h := filled(t)
	for s := range 5 {
		fine(t, h, beginStep(s, 1+s%2, 0))
	}
	wantV(t, h, getStep(0, 1), has("c"))
	wantV(t, h, getStep(1, 1), has("c"))
	putAll(t, h, 0, pair(2, "shot"))
	putAll(t, h, 1, pair(5, "sure"))
	putAll(t, h, 2, pair(1, "clash"))
	putAll(t, h, 4, pair(1, "first"))
	wantN(t, h, commitStep(4), 4)
	bytes := string(h.Log())
	wantCode(t, h, commitStep(1), api.ErrStale)
	wantBusy(t, h, 0, 2, 3)
	wantCode(t, h, commitStep(2), api.ErrClash)
	wantBusy(t, h, 0, 3)
	if h.Last() != 4 || string(h.Log()) != bytes {
		t.Error("what was not done is there")
	}
	wantN(t, h, commitStep(0), 5)
	wantN(t, h, commitStep(3), 0)
	wantBusy(t, h)
}

// TestCommitFull: behind MaxCommits of them; a deed that wrote nothing is
// done still.
func TestCommitFull(t *testing.T) {
	h := hall.New()
	for range api.MaxCommits {
		write(t, h, 3, pair(1, "x"))
	}
	fine(t, h, beginStep(0, api.MSure, 0), beginStep(1, api.MSure, 0), beginStep(2, api.MSure, 0))
	putAll(t, h, 0, pair(1, "y"))
	putAll(t, h, 2, pair(1, "y"))
	bytes := string(h.Log())
	wantCode(t, h, commitStep(0), api.ErrFull)
	wantBusy(t, h, 1, 2)
	wantN(t, h, commitStep(1), 0)
	wantBusy(t, h, 2)
	wantCode(t, h, tearStep(2, 100), api.ErrFull)
	wantBusy(t, h)
	if h.Last() != api.MaxCommits || string(h.Log()) != bytes {
		t.Errorf("commit %d", h.Last())
	}
}

// TestCommitFullOfBytes: with commits of 114 bytes, 26 of which have room.
func TestCommitFullOfBytes(t *testing.T) {
	h := hall.New()
	var all []api.Pair
	for k := range api.MaxKeys {
		all = append(all, pair(k, letters(api.MaxValue)))
	}
	for range 26 {
		write(t, h, 1, all...)
	}
	fine(t, h, beginStep(0, api.MShot, 0))
	putAll(t, h, 0, all...)
	wantCode(t, h, commitStep(0), api.ErrFull)
	wantBusy(t, h)
	write(t, h, 1, pair(0, letters(12)))
	if h.Last() != 27 {
		t.Errorf("Last = %d, want 27", h.Last())
	}
}

func TestAbort(t *testing.T) {
	h := filled(t)
	for s := range 3 {
		fine(t, h, beginStep(s, modes()[s], 1))
	}
	putAll(t, h, 0, pair(1, "never"))
	bytes := string(h.Log())
	others := []int{0, 1, 2}
	for s := range 3 {
		fine(t, h, abortStep(s))
		others = others[1:]
		wantBusy(t, h, others...)
		wantCode(t, h, abortStep(s), api.ErrNone)
	}
	if h.Last() != 3 || string(h.Log()) != bytes {
		t.Error("what was not done is there")
	}
	fine(t, h, beginStep(0, api.MShot, 0))
	wantV(t, h, getStep(0, 1), has("c"))
}

// TestTear tears a commit of three keys at every byte, while all other seats
// have deeds: it comes wholly or not at all.
func TestTear(t *testing.T) {
	w := []api.Pair{pair(0, ""), drop(1), pair(7, "torn")}
	size := 2 + 2 + 2 + 2 + 4
	ahead := filledLists()[3]
	behind := []api.Pair{pair(0, ""), pair(3, "b"), pair(7, "torn")}
	keeps := []int{math.MinInt, -1, math.MaxInt}
	for keep := range size + 3 {
		keeps = append(keeps, keep)
	}
	for i, keep := range keeps {
		h := filled(t)
		bytes := string(h.Log())
		s := i % 5
		for seat := range 5 {
			fine(t, h, beginStep(seat, 1+seat%2, 0))
			putAll(t, h, seat, w...)
		}
		if keep < size {
			wantN(t, h, tearStep(s, keep), 0)
			if h.Last() != 3 || !slices.Equal(tellList(h, 3), ahead) || string(h.Log()) != bytes {
				t.Errorf("keep %d: a piece of it came", keep)
			}
		} else {
			wantN(t, h, tearStep(s, keep), 4)
			if h.Last() != 4 || !slices.Equal(tellList(h, 4), behind) || len(h.Log()) != len(bytes)+size {
				t.Errorf("keep %d: it did not come", keep)
			}
		}
		wantBusy(t, h)
		write(t, h, s, pair(5, "on"))
	}
}

// TestTearCodes: no seat has a deed any more then, too, and it is a crash.
func TestTearCodes(t *testing.T) {
	for _, code := range []int{api.ErrClash, api.ErrStale} {
		h := filled(t)
		for s := range 4 {
			fine(t, h, beginStep(s, api.MSure, 0))
		}
		if code == api.ErrClash {
			putAll(t, h, 1, pair(1, "x"))
		} else {
			wantV(t, h, getStep(1, 1), has("c"))
			putAll(t, h, 1, pair(2, "x"))
		}
		write(t, h, 4, pair(1, "first"))
		wantN(t, h, clearStep(), 6)
		if h.First() == 0 {
			t.Fatal("nothing is forgotten")
		}
		wantCode(t, h, tearStep(1, 100), code)
		wantBusy(t, h)
		if h.Last() != 4 || h.First() != 0 || h.Least() != 4 {
			t.Errorf("commits %d to %d, least %d", h.First(), h.Last(), h.Least())
		}
	}
}

// TestTearOfNothing: a crash comes nonetheless.
func TestTearOfNothing(t *testing.T) {
	for _, mode := range modes() {
		h := filled(t)
		wantN(t, h, clearStep(), 6)
		fine(t, h, beginStep(0, mode, 3), beginStep(1, mode, 3))
		wantN(t, h, tearStep(0, 100), 0)
		wantBusy(t, h)
		if h.Last() != 3 || h.First() != 0 {
			t.Errorf("commits %d to %d", h.First(), h.Last())
		}
	}
}

func TestCrash(t *testing.T) {
	h := filled(t)
	wantN(t, h, clearStep(), 6)
	bytes := string(h.Log())
	for s := range 5 {
		fine(t, h, beginStep(s, 1+s%2, 0), putStep(s, s, "lost"))
	}
	fine(t, h, crashStep())
	wantBusy(t, h)
	if h.Last() != 3 || h.First() != 0 || string(h.Log()) != bytes {
		t.Errorf("commits %d to %d", h.First(), h.Last())
	}
	for at, l := range filledLists() {
		if got := tellList(h, at); !slices.Equal(got, l) {
			t.Errorf("behind %d: %v, want %v", at, got, l)
		}
	}
	fine(t, hall.New(), crashStep(), crashStep())
}

// TestLookAgainBehindCrash is the document's last example.
func TestLookAgainBehindCrash(t *testing.T) {
	h := hall.New()
	write(t, h, 0, pair(1, "a"))
	write(t, h, 0, pair(1, "b"))
	wantN(t, h, clearStep(), 2)
	wantCode(t, h, beginStep(0, api.MLook, 1), api.ErrOld)
	fine(t, h, crashStep(), beginStep(0, api.MLook, 1))
	wantV(t, h, getStep(0, 1), has("a"))
}

func TestLeast(t *testing.T) {
	h := filled(t)
	least := func(want int) {
		t.Helper()
		if h.Least() != want {
			t.Fatalf("Least = %d, want %d", h.Least(), want)
		}
	}
	least(3)
	fine(t, h, beginStep(0, api.MShot, 0))
	write(t, h, 4, pair(2, "x"))
	least(3)
	fine(t, h, beginStep(4, api.MLook, 1))
	least(1)
	fine(t, h, beginStep(2, api.MLook, 2))
	least(1)
	fine(t, h, beginStep(1, api.MLook, 0))
	least(0)
	fine(t, h, abortStep(4))
	least(0)
	wantN(t, h, commitStep(1), 0)
	least(2)
	fine(t, h, abortStep(2))
	least(3)
	wantN(t, h, commitStep(0), 0)
	least(4)
	fine(t, h, beginStep(3, api.MLook, 1))
	least(1)
	fine(t, h, crashStep())
	least(4)
	fine(t, h, beginStep(3, api.MLook, 1), beginStep(4, api.MShot, 0))
	wantN(t, h, tearStep(4, 0), 0)
	least(4)
}

// TestClear: what a deed sees stays, whichever seat has it.
func TestClear(t *testing.T) {
	forgotten := []int{0, 2, 4, 6}
	for at, n := range forgotten {
		for s := range 5 {
			h := filled(t)
			fine(t, h, beginStep((s+1)%5, api.MShot, 0), beginStep(s, api.MLook, at), beginStep((s+4)%5, api.MLook, 3))
			wantN(t, h, clearStep(), n)
			wantBusy(t, h, s, (s+1)%5, (s+4)%5)
			wantN(t, h, clearStep(), 0)
			wantL(t, h, listStep(s, 0, 7), filledLists()[at]...)
			wantN(t, h, commitStep(s), 0)
			wantN(t, h, clearStep(), 6-n)
			wantL(t, h, listStep((s+1)%5, 0, 7), filledLists()[3]...)
		}
	}
	wantN(t, filled(t), clearStep(), 6)
	wantN(t, hall.New(), clearStep(), 0)
}

// TestClearIsInNobodysWay: what was forgotten clashes still.
func TestClearIsInNobodysWay(t *testing.T) {
	h := filled(t)
	fine(t, h, beginStep(0, api.MShot, 0), putStep(0, 1, "late"), beginStep(1, api.MShot, 0), putStep(1, 2, "fine"))
	write(t, h, 2, pair(1, "first"))
	write(t, h, 2, pair(1, "again"))
	wantN(t, h, clearStep(), 6)
	wantCode(t, h, commitStep(0), api.ErrClash)
	wantN(t, h, commitStep(1), 6)
}

// TestExample is the document's first one.
func TestExample(t *testing.T) {
	for _, mode := range modes()[:2] {
		h := hall.New()
		fine(t, h, beginStep(0, api.MShot, 0), beginStep(1, mode, 0), putStep(0, 1, "x"))
		wantN(t, h, commitStep(0), 1)
		wantV(t, h, getStep(1, 1), none)
		fine(t, h, putStep(1, 2, "y"))
		if mode == api.MSure {
			wantCode(t, h, commitStep(1), api.ErrStale)
		} else {
			wantN(t, h, commitStep(1), 2)
		}
	}
}

// TestTornExample is the document's second one.
func TestTornExample(t *testing.T) {
	for keep, n := range []int{0, 0, 0, 0, 1} {
		h := hall.New()
		fine(t, h, beginStep(2, api.MShot, 0), dropStep(2, 6))
		wantN(t, h, tearStep(2, keep), n)
		whole := []byte{4, 1, 6, 255}
		if n == 0 {
			whole = nil
		}
		if !bytes.Equal(h.Log(), whole) {
			t.Errorf("keep %d: log %v", keep, h.Log())
		}
	}
}

// order tells the rows in which steps of two seats may come.
func order(a, b []api.Step) [][]api.Step {
	if len(a) == 0 || len(b) == 0 {
		return [][]api.Step{slices.Concat(a, b)}
	}
	var rows [][]api.Step
	for _, l := range order(a[1:], b) {
		rows = append(rows, slices.Concat(a[:1], l))
	}
	for _, l := range order(a, b[1:]) {
		rows = append(rows, slices.Concat(b[:1], l))
	}
	return rows
}

// TestFirstCome has two deeds that wrote the same key come in every order: if
// neither began behind the other one's commit, the first one alone is done.
func TestFirstCome(t *testing.T) {
	steps := func(s, mode int) []api.Step {
		return []api.Step{beginStep(s, mode, 0), putStep(s, s, "own"), putStep(s, 2, "both"), commitStep(s)}
	}
	for _, modeA := range modes()[:2] {
		for _, modeB := range modes()[:2] {
			for _, row := range order(steps(0, modeA), steps(1, modeB)) {
				firstCome(t, row)
			}
		}
	}
}

func firstCome(t *testing.T, row []api.Step) {
	t.Helper()
	h := hall.New()
	began := [2]int{}
	var events []api.Event
	for i, x := range row {
		e := h.Do(x)
		switch x.Kind {
		case api.SBegin:
			began[x.S] = i
		case api.SCommit:
			events = append(events, e)
		default:
			if e.Code != 0 {
				t.Fatalf("Do(%+v) = %+v", x, e)
			}
		}
	}
	firstDone := slices.IndexFunc(row, func(x api.Step) bool { return x.Kind == api.SCommit })
	second := api.Event{Code: api.ErrClash}
	if max(began[0], began[1]) > firstDone {
		second = api.Event{N: 2}
	}
	if !sameEvent(events[0], api.Event{N: 1}) || !sameEvent(events[1], second) {
		t.Errorf("%+v: events %+v, want the second %+v", row, events, second)
	}
}

// TestSeatGoesOn: a seat whose deed is over can begin another one, and sees
// nothing of the one ahead.
func TestSeatGoesOn(t *testing.T) {
	for _, over := range []api.Step{commitStep(0), abortStep(0), tearStep(0, 3), crashStep()} {
		h := filled(t)
		fine(t, h, beginStep(0, api.MSure, 0), putStep(0, 5, "x"))
		wantV(t, h, getStep(0, 1), has("c"))
		h.Do(over)
		fine(t, h, beginStep(0, api.MShot, 0))
		if d := tellDeed(h, 0); !reflect.DeepEqual(d, deedTold{Busy: true, Mode: api.MShot, At: h.Last()}) {
			t.Errorf("behind %+v: %+v", over, d)
		}
	}
}

// TestDeedIsTheSeats: it goes on with the seat's steps.
func TestDeedIsTheSeats(t *testing.T) {
	h := filled(t)
	fine(t, h, beginStep(3, api.MSure, 0))
	d := h.Deed(3)
	fine(t, h, putStep(3, 4, "x"))
	wantV(t, h, getStep(3, 1), has("c"))
	if d != h.Deed(3) || !slices.Equal(d.Reads(), []int{1}) || !slices.Equal(d.Writes(), []api.Pair{pair(4, "x")}) {
		t.Errorf("reads %v, writes %v", d.Reads(), d.Writes())
	}
}

func TestAnswersAreNewMemory(t *testing.T) {
	h := filled(t)
	fine(t, h, beginStep(0, api.MShot, 0), putStep(0, 2, "own"))
	unchanged(t, h, func() {
		b := h.Log()
		for i := range b {
			b[i] = 99
		}
	})
	l := h.Do(listStep(0, 2, 2)).L
	unchanged(t, h, func() {
		for i := range l {
			l[i] = pair(6, "other")
		}
		_ = append(l[:0], pair(5, "other"))
	})
	wantL(t, h, listStep(0, 2, 2), pair(2, "own"))
}

func TestHallsAreApart(t *testing.T) {
	a, b := hall.New(), hall.New()
	unchanged(t, b, func() {
		write(t, a, 0, pair(1, "a"))
		fine(t, a, beginStep(1, api.MShot, 0), putStep(1, 2, "x"))
	})
	unchanged(t, a, func() {
		write(t, b, 1, pair(1, "b"))
		fine(t, b, beginStep(0, api.MShot, 0), crashStep())
		wantN(t, b, clearStep(), 1)
	})
}

// TestLogIsWhole: whatever came, the log is whole commits, as many as Last.
func TestLogIsWhole(t *testing.T) {
	h := filled(t)
	for keep := range 12 {
		fine(t, h, beginStep(keep%5, api.MShot, 0))
		putAll(t, h, keep%5, pair(1, "x"), drop(2), pair(4, ""))
		h.Do(tearStep(keep%5, keep))
		b, n := h.Log(), 0
		for len(b) > 0 {
			_, size, code := codec.Decode(b)
			if code != 0 {
				t.Fatalf("keep %d: log %v: code %d", keep, h.Log(), code)
			}
			b = b[size:]
			n++
		}
		if n != h.Last() {
			t.Errorf("keep %d: %d commits in the log, Last %d", keep, n, h.Last())
		}
	}
}
