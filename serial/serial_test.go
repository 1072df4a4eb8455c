package serial_test

import (
	"math"
	"reflect"
	"slices"
	"strings"
	"testing"

	"vaultage/api"
	"vaultage/hall"
	"vaultage/serial"
)

var none = api.Value{}

func has(s string) api.Value { return api.Value{There: true, Bytes: s} }

func pair(k int, s string) api.Pair { return api.Pair{Key: k, V: has(s)} }

// noKeys are numbers of no key.
func noKeys() []int { return []int{math.MinInt, -1, 8, 9, math.MaxInt} }

// noSeats are numbers of no seat.
func noSeats() []int { return []int{math.MinInt, -1, 5, 6, math.MaxInt} }

// letters is a text of that many bytes.
func letters(n int) string { return strings.Repeat("x", n) }

func beginStep(s, mode, at int) api.Step {
	return api.Step{Kind: api.SBegin, S: s, Mode: mode, At: at}
}

func getStep(s, k int) api.Step { return api.Step{Kind: api.SGet, S: s, Key: k} }

func putStep(s, k int, b string) api.Step {
	return api.Step{Kind: api.SPut, S: s, Key: k, Bytes: b}
}

func dropStep(s, k int) api.Step { return api.Step{Kind: api.SDrop, S: s, Key: k} }

func listStep(s, from, to int) api.Step {
	return api.Step{Kind: api.SList, S: s, Key: from, To: to}
}

func commitStep(s int) api.Step { return api.Step{Kind: api.SCommit, S: s} }

func abortStep(s int) api.Step { return api.Step{Kind: api.SAbort, S: s} }

func clearStep() api.Step { return api.Step{Kind: api.SClear} }

func crashStep() api.Step { return api.Step{Kind: api.SCrash} }

func tearStep(s, keep int) api.Step { return api.Step{Kind: api.STear, S: s, Keep: keep} }

func getAct(k int, v api.Value) serial.Act { return serial.Act{Kind: api.SGet, Key: k, V: v} }

func putAct(k int, b string) serial.Act { return serial.Act{Kind: api.SPut, Key: k, V: has(b)} }

func dropAct(k int) serial.Act { return serial.Act{Kind: api.SDrop, Key: k} }

func listAct(from, to int, l ...api.Pair) serial.Act {
	return serial.Act{Kind: api.SList, Key: from, To: to, L: l}
}

func done(n, at, mode int, acts ...serial.Act) serial.Done {
	return serial.Done{N: n, At: at, Mode: mode, Acts: acts}
}

// noted is a hall, and a book of all its steps.
type noted struct {
	h *hall.Hall
	b *serial.Book
}

func start() noted { return noted{hall.New(), serial.New()} }

func (n noted) do(x api.Step) api.Event {
	last := n.h.Last()
	e := n.h.Do(x)
	n.b.Note(x, e, last)
	return e
}

// fine does steps that have no code.
func (n noted) fine(t *testing.T, l ...api.Step) {
	t.Helper()
	for _, x := range l {
		if e := n.do(x); e.Code != 0 {
			t.Fatalf("Do(%+v) = %+v", x, e)
		}
	}
}

// code does a step that has that code.
func (n noted) code(t *testing.T, x api.Step, code int) {
	t.Helper()
	if e := n.do(x); e.Code != code {
		t.Fatalf("Do(%+v) = %+v, want the code %d", x, e, code)
	}
}

func sameAct(a, b serial.Act) bool {
	return a.Kind == b.Kind && a.Key == b.Key && a.To == b.To && a.V == b.V && slices.Equal(a.L, b.L)
}

// sameDone takes a list without elements for none.
func sameDone(a, b serial.Done) bool {
	return a.N == b.N && a.At == b.At && a.Mode == b.Mode && slices.EqualFunc(a.Acts, b.Acts, sameAct)
}

func wantList(t *testing.T, b *serial.Book, want ...serial.Done) {
	t.Helper()
	if got := b.List(); !slices.EqualFunc(got, want, sameDone) {
		t.Fatalf("List() = %+v, want %+v", got, want)
	}
}

func wantReplay(t *testing.T, w serial.World, l []serial.Act, wantW serial.World, wantSo bool) {
	t.Helper()
	if got, so := serial.Replay(w, l); got != wantW || so != wantSo {
		t.Fatalf("Replay(%v, %+v) = %v, %v, want %v, %v", w, l, got, so, wantW, wantSo)
	}
}

func wantSerial(t *testing.T, want bool, l ...serial.Done) {
	t.Helper()
	if got := serial.Serial(l); got != want {
		t.Fatalf("Serial(%+v) = %v", l, got)
	}
}

// filled is a hall without deeds, and its book: behind commit 1 key 1 has a,
// behind commit 2 it has none, and key 7 has z.
func filled(t *testing.T) (noted, []serial.Done) {
	t.Helper()
	n := start()
	n.fine(t, beginStep(0, api.MShot, 0), putStep(0, 1, "a"), commitStep(0))
	n.fine(t, beginStep(4, api.MSure, 0), dropStep(4, 1), putStep(4, 7, "z"), commitStep(4))
	l := []serial.Done{
		done(1, 0, api.MShot, putAct(1, "a")),
		done(2, 1, api.MSure, dropAct(1), putAct(7, "z")),
	}
	wantList(t, n.b, l...)
	return n, l
}

func TestNew(t *testing.T) {
	b := serial.New()
	wantList(t, b)
	if b == serial.New() {
		t.Error("two new books are one")
	}
}

// TestActs: of each kind that is kept which the chapter names, else zero.
func TestActs(t *testing.T) {
	n, l := filled(t)
	full := func(kind, key int) api.Step {
		return api.Step{Kind: kind, S: 2, Mode: 9, At: 8, Key: key, To: 7, Keep: 6, Bytes: "b"}
	}
	n.fine(t, beginStep(2, api.MSure, 0),
		full(api.SGet, 7), full(api.SGet, 0), full(api.SPut, 3), putStep(2, 5, ""), full(api.SDrop, 7), full(api.SList, 1), full(api.SGet, 7), listStep(2, 4, 0),
		commitStep(2))
	l = append(l, done(3, 2, api.MSure,
		getAct(7, has("z")), getAct(0, none), putAct(3, "b"), putAct(5, ""), dropAct(7),
		listAct(1, 7, pair(3, "b"), pair(5, "")), getAct(7, none), listAct(4, 0)))
	wantList(t, n.b, l...)
	wantSerial(t, true, n.b.List()...)
}

// TestActsTellTheEventAlone: V and L are what the event has, whatever a hall
// would have told.
func TestActsTellTheEventAlone(t *testing.T) {
	b := serial.New()
	v, l := has("other"), []api.Pair{pair(6, "l")}
	e := api.Event{N: 5, V: v, L: l}
	b.Note(beginStep(1, api.MShot, 9), e, 3)
	for _, x := range []api.Step{getStep(1, 2), putStep(1, 3, "own"), dropStep(1, 4), listStep(1, 5, 6)} {
		b.Note(x, e, 4)
	}
	b.Note(commitStep(1), e, 4)
	wantList(t, b, done(5, 3, api.MShot, getAct(2, v), putAct(3, "own"), dropAct(4), listAct(5, 6, l...)))
}

// TestActsWithACode are none; the deed goes on.
func TestActsWithACode(t *testing.T) {
	n, l := filled(t)
	n.fine(t, beginStep(0, api.MShot, 0), beginStep(1, api.MLook, 1))
	for _, k := range noKeys() {
		n.code(t, getStep(0, k), api.ErrRange)
		n.code(t, putStep(0, k, ""), api.ErrRange)
		n.code(t, dropStep(0, k), api.ErrRange)
		n.code(t, listStep(0, k, 7), api.ErrRange)
		n.code(t, listStep(0, 0, k), api.ErrRange)
	}
	n.code(t, putStep(0, 1, letters(13)), api.ErrLong)
	n.code(t, putStep(1, 1, "x"), api.ErrKind)
	n.code(t, dropStep(1, 1), api.ErrKind)
	n.code(t, beginStep(0, api.MSure, 0), api.ErrThere)
	n.code(t, beginStep(1, api.MLook, 0), api.ErrThere)
	n.code(t, api.Step{Kind: 11}, api.ErrKind)
	n.fine(t, putStep(0, 1, letters(12)), getStep(1, 1), commitStep(0), commitStep(1))
	wantList(t, n.b, append(l, done(3, 2, api.MShot, putAct(1, letters(12))), done(0, 1, api.MLook, getAct(1, has("a"))))...)
}

// TestAt: a look began behind its At, the others behind Last ahead of their
// beginning, whatever came since.
func TestAt(t *testing.T) {
	n, l := filled(t)
	for s, at := range []int{0, 1, 2} {
		n.fine(t, beginStep(s, api.MLook, at))
	}
	n.fine(t, beginStep(3, api.MShot, 0))
	n.fine(t, beginStep(4, api.MShot, 7), putStep(4, 2, "c"), commitStep(4))
	n.fine(t, beginStep(4, api.MSure, -1), putStep(3, 3, "d"))
	for s := range 5 {
		n.fine(t, commitStep(s))
	}
	wantList(t, n.b, append(l,
		done(3, 2, api.MShot, putAct(2, "c")),
		done(0, 0, api.MLook), done(0, 1, api.MLook), done(0, 2, api.MLook),
		done(4, 2, api.MShot, putAct(3, "d")),
		done(0, 3, api.MSure))...)
	wantSerial(t, true, n.b.List()...)
}

// TestBeginWithACode is no deed: what would follow is not one of it.
func TestBeginWithACode(t *testing.T) {
	n, l := filled(t)
	n.fine(t, clearStep())
	n.code(t, beginStep(0, 0, 0), api.ErrKind)
	n.code(t, beginStep(0, api.MLook, 3), api.ErrRange)
	n.code(t, beginStep(0, api.MLook, 0), api.ErrOld)
	n.code(t, getStep(0, 1), api.ErrNone)
	n.code(t, commitStep(0), api.ErrNone)
	n.code(t, tearStep(0, 9), api.ErrNone)
	for _, s := range noSeats() {
		n.code(t, beginStep(s, api.MShot, 0), api.ErrRange)
		n.code(t, getStep(s, 1), api.ErrRange)
		n.code(t, commitStep(s), api.ErrRange)
		n.code(t, abortStep(s), api.ErrRange)
		n.code(t, tearStep(s, 9), api.ErrRange)
	}
	wantList(t, n.b, l...)
}

// TestOpen: a deed that goes on is not done yet.
func TestOpen(t *testing.T) {
	n, l := filled(t)
	n.fine(t, beginStep(0, api.MShot, 0), putStep(0, 1, "x"))
	wantList(t, n.b, l...)
	n.fine(t, putStep(0, 2, "y"), commitStep(0))
	l = append(l, done(3, 2, api.MShot, putAct(1, "x"), putAct(2, "y")))
	wantList(t, n.b, l...)
	n.code(t, putStep(0, 2, "y"), api.ErrNone)
	n.code(t, commitStep(0), api.ErrNone)
	wantList(t, n.b, l...)
}

// TestOrder: deeds are told as they were done, not as they began.
func TestOrder(t *testing.T) {
	n, l := filled(t)
	for s := range 5 {
		n.fine(t, beginStep(s, api.MSure, 0), getStep(s, 7))
		if s%2 == 0 {
			n.fine(t, putStep(s, s, "own"))
		}
	}
	for _, s := range []int{4, 1, 0, 3, 2} {
		n.fine(t, commitStep(s))
	}
	seven := getAct(7, has("z"))
	wantList(t, n.b, append(l,
		done(3, 2, api.MSure, seven, putAct(4, "own")),
		done(0, 2, api.MSure, seven),
		done(4, 2, api.MSure, seven, putAct(0, "own")),
		done(0, 2, api.MSure, seven),
		done(5, 2, api.MSure, seven, putAct(2, "own")))...)
}

// TestOverOtherwise: a deed that was over but not done is not told, and
// nothing of it is to be seen at the next one of its seat.
func TestOverOtherwise(t *testing.T) {
	for _, x := range []api.Step{abortStep(1), crashStep(), tearStep(1, 4)} {
		n, l := filled(t)
		n.fine(t, beginStep(1, api.MSure, 0), getStep(1, 7), putStep(1, 1, "never"), x)
		wantList(t, n.b, l...)
		n.fine(t, beginStep(1, api.MShot, 0), getStep(1, 1), commitStep(1))
		wantList(t, n.b, append(l, done(0, 2, api.MShot, getAct(1, none)))...)
	}
}

// TestNotDone: a commit with a code.
func TestNotDone(t *testing.T) {
	for _, code := range []int{api.ErrClash, api.ErrStale} {
		for _, over := range []api.Step{commitStep(1), tearStep(1, 99)} {
			n, l := filled(t)
			n.fine(t, beginStep(1, api.MSure, 0), beginStep(2, api.MShot, 0))
			if code == api.ErrStale {
				n.fine(t, getStep(1, 3), putStep(1, 4, "late"))
			} else {
				n.fine(t, putStep(1, 3, "late"))
			}
			n.fine(t, putStep(2, 3, "first"), commitStep(2))
			n.code(t, over, code)
			l = append(l, done(3, 2, api.MShot, putAct(3, "first")))
			wantList(t, n.b, l...)
			n.fine(t, beginStep(1, api.MSure, 0), commitStep(1))
			wantList(t, n.b, append(l, done(0, 3, api.MSure))...)
		}
	}
}

// TestFull: a commit for which there is no room is none; a deed that wrote
// nothing is done still.
func TestFull(t *testing.T) {
	n := start()
	var want []serial.Done
	for i := range api.MaxCommits {
		n.fine(t, beginStep(0, api.MSure, 0), putStep(0, 1, "x"), commitStep(0))
		want = append(want, done(i+1, i, api.MSure, putAct(1, "x")))
	}
	n.fine(t, beginStep(0, api.MSure, 0), putStep(0, 1, "y"), beginStep(1, api.MSure, 0), getStep(1, 1))
	n.code(t, commitStep(0), api.ErrFull)
	n.fine(t, commitStep(1))
	want = append(want, done(0, 40, api.MSure, getAct(1, has("x"))))
	n.fine(t, beginStep(0, api.MSure, 0), putStep(0, 1, "y"))
	n.code(t, tearStep(0, 99), api.ErrFull)
	wantList(t, n.b, want...)
	wantSerial(t, true, n.b.List()...)
}

// TestTear tears a commit of five bytes at every one: it is done if it has a
// number. No other deed goes on behind that.
func TestTear(t *testing.T) {
	for keep := -1; keep < 8; keep++ {
		n, l := filled(t)
		n.fine(t, beginStep(0, api.MShot, 0), putStep(0, 2, "o"), beginStep(3, api.MSure, 0), putStep(3, 1, "t"), tearStep(3, keep))
		last := 2
		if keep >= 5 {
			last = 3
			l = append(l, done(3, 2, api.MSure, putAct(1, "t")))
		}
		wantList(t, n.b, l...)
		n.code(t, commitStep(0), api.ErrNone)
		n.code(t, commitStep(3), api.ErrNone)
		n.fine(t, beginStep(0, api.MSure, 0), commitStep(0))
		wantList(t, n.b, append(l, done(0, last, api.MSure))...)
	}
}

// TestTearOfNothing has no number: such a deed is not told.
func TestTearOfNothing(t *testing.T) {
	for _, mode := range []int{api.MShot, api.MSure, api.MLook} {
		n, l := filled(t)
		n.fine(t, beginStep(0, mode, 1), getStep(0, 1), tearStep(0, 99))
		wantList(t, n.b, l...)
	}
}

// TestTearAtASeatWithoutADeed is no crash: the others go on.
func TestTearAtASeatWithoutADeed(t *testing.T) {
	n, l := filled(t)
	n.fine(t, beginStep(0, api.MShot, 0), putStep(0, 2, "o"))
	n.code(t, tearStep(1, 99), api.ErrNone)
	n.code(t, tearStep(5, 99), api.ErrRange)
	n.fine(t, clearStep(), getStep(0, 2), commitStep(0))
	wantList(t, n.b, append(l, done(3, 2, api.MShot, putAct(2, "o"), getAct(2, has("o"))))...)
}

// TestCrashAtEverySeat: neither it nor a clearing looks at a seat.
func TestCrashAtEverySeat(t *testing.T) {
	for _, s := range append(noSeats(), 0, 1) {
		n, l := filled(t)
		n.fine(t, beginStep(0, api.MShot, 0), getStep(0, 1))
		n.fine(t, api.Step{Kind: api.SClear, S: s}, getStep(0, 2), commitStep(0))
		l = append(l, done(0, 2, api.MShot, getAct(1, none), getAct(2, none)))
		n.fine(t, beginStep(0, api.MShot, 0), getStep(0, 1))
		n.fine(t, api.Step{Kind: api.SCrash, S: s}, beginStep(0, api.MShot, 0), commitStep(0))
		wantList(t, n.b, append(l, done(0, 2, api.MShot))...)
	}
}

// TestCrashEndsAll: what the book is told of a deed behind a crash without a
// new beginning is of none.
func TestCrashEndsAll(t *testing.T) {
	for _, x := range []api.Step{crashStep(), tearStep(0, 0)} {
		b := serial.New()
		for s := range api.MaxSeats {
			b.Note(beginStep(s, api.MShot, 0), api.Event{}, 0)
		}
		b.Note(x, api.Event{}, 0)
		for s := range api.MaxSeats {
			b.Note(putStep(s, 1, "x"), api.Event{}, 0)
			b.Note(commitStep(s), api.Event{N: 1}, 0)
		}
		wantList(t, b)
	}
}

// TestDeedsThatWereNotSeenToBegin: nobody can tell how they were.
func TestDeedsThatWereNotSeenToBegin(t *testing.T) {
	b := serial.New()
	b.Note(putStep(0, 1, "x"), api.Event{}, 0)
	b.Note(commitStep(0), api.Event{N: 1}, 0)
	b.Note(tearStep(1, 9), api.Event{N: 2}, 1)
	b.Note(commitStep(9), api.Event{N: 3}, 1)
	wantList(t, b)
}

// TestNoteKeepsNothing: the list of an event is not kept, and neither is it
// changed, nor what lies behind it.
func TestNoteKeepsNothing(t *testing.T) {
	b := serial.New()
	memory := []api.Pair{pair(1, "a"), pair(2, "b"), pair(3, "c")}
	b.Note(beginStep(0, api.MShot, 0), api.Event{}, 0)
	b.Note(listStep(0, 0, 7), api.Event{L: memory[:2]}, 0)
	b.Note(listStep(0, 0, 0), api.Event{L: memory[:0]}, 0)
	b.Note(commitStep(0), api.Event{}, 0)
	if !slices.Equal(memory, []api.Pair{pair(1, "a"), pair(2, "b"), pair(3, "c")}) {
		t.Errorf("the event is %v", memory)
	}
	memory[0] = pair(6, "other")
	wantList(t, b, done(0, 0, api.MShot, listAct(0, 7, pair(1, "a"), pair(2, "b")), listAct(0, 0)))
}

// TestListIsNewMemory: what is done with an answer is not seen at the book,
// and no two lists of an answer share any memory.
func TestListIsNewMemory(t *testing.T) {
	b := serial.New()
	var want []serial.Done
	for range 3 {
		b.Note(beginStep(0, api.MShot, 0), api.Event{}, 0)
		for range 3 {
			b.Note(listStep(0, 0, 7), api.Event{L: []api.Pair{pair(1, "a"), pair(2, "b")}}, 0)
		}
		b.Note(commitStep(0), api.Event{}, 0)
		same := listAct(0, 7, pair(1, "a"), pair(2, "b"))
		want = append(want, done(0, 0, api.MShot, same, same, same))
	}
	for i := range want {
		for j := range want[i].Acts {
			l := b.List()
			spoilPairs(l[i].Acts[j].L)
			l[i].Acts[j].L = []api.Pair{pair(1, "a"), pair(2, "b")}
			if !slices.EqualFunc(l, want, sameDone) {
				t.Fatalf("a list of pairs is shared: %+v", l)
			}
		}
		l := b.List()
		spoilActs(l[i].Acts)
		l[i].Acts = want[i].Acts
		if !slices.EqualFunc(l, want, sameDone) {
			t.Fatalf("a list of acts is shared: %+v", l)
		}
	}
	l := b.List()
	for i := range l {
		for j := range l[i].Acts {
			spoilPairs(l[i].Acts[j].L)
		}
		spoilActs(l[i].Acts)
		l[i] = serial.Done{}
	}
	_ = append(l[:0], serial.Done{N: 9})
	wantList(t, b, want...)
}

// spoilPairs writes to all memory of a list, that behind its length, too.
func spoilPairs(l []api.Pair) {
	l = l[:cap(l)]
	for i := range l {
		l[i] = pair(7, "spoilt")
	}
}

func spoilActs(l []serial.Act) {
	l = l[:cap(l)]
	for i := range l {
		l[i] = getAct(7, has("spoilt"))
	}
}

// TestListStays: what was answered once does not change when the book goes
// on.
func TestListStays(t *testing.T) {
	n, want := filled(t)
	l := n.b.List()
	for range 20 {
		n.fine(t, beginStep(0, api.MShot, 0), putStep(0, 1, "new"), commitStep(0))
	}
	if !slices.EqualFunc(l, want, sameDone) {
		t.Errorf("the list is %+v", l)
	}
}

func TestBooksAreApart(t *testing.T) {
	a, b := start(), start()
	a.fine(t, beginStep(0, api.MShot, 0), putStep(0, 1, "x"))
	b.fine(t, beginStep(0, api.MSure, 0), getStep(0, 1), crashStep())
	a.fine(t, commitStep(0))
	wantList(t, a.b, done(1, 0, api.MShot, putAct(1, "x")))
	wantList(t, b.b)
}

// TestExample is the document's first one: a sure deed that read what another
// one wrote meanwhile is not done; one that is not sure is, and came as if
// behind it.
func TestExample(t *testing.T) {
	for _, mode := range []int{api.MShot, api.MSure} {
		n := start()
		n.fine(t, beginStep(0, api.MShot, 0), beginStep(1, mode, 0), putStep(0, 1, "x"), commitStep(0), getStep(1, 1), putStep(1, 2, "y"))
		want := []serial.Done{done(1, 0, api.MShot, putAct(1, "x"))}
		if mode == api.MSure {
			n.code(t, commitStep(1), api.ErrStale)
		} else {
			n.fine(t, commitStep(1))
			want = append(want, done(2, 0, api.MShot, getAct(1, none), putAct(2, "y")))
		}
		wantList(t, n.b, want...)
		wantSerial(t, true, want...)
		if len(want) == 2 {
			want[1].Mode = api.MSure
			wantSerial(t, false, want...)
		}
	}
}

func TestReplayOfNothing(t *testing.T) {
	w := serial.World{2: has("x")}
	wantReplay(t, w, nil, w, true)
	wantReplay(t, serial.World{}, []serial.Act{}, serial.World{}, true)
}

// TestReplayWrites: a key has V then, of either kind, and of any form.
func TestReplayWrites(t *testing.T) {
	for k := range api.MaxKeys {
		for _, kind := range []int{api.SPut, api.SDrop} {
			for _, v := range []api.Value{none, has(""), has("x"), has(letters(99)), {Bytes: "no"}} {
				w := serial.World{1: has("a"), 5: has("b")}
				want := w
				want[k] = v
				wantReplay(t, w, []serial.Act{{Kind: kind, Key: k, V: v, To: -5, L: []api.Pair{pair(1, "l")}}}, want, true)
			}
		}
	}
}

// TestReplayGet: V is just what the key has.
func TestReplayGet(t *testing.T) {
	w := serial.World{0: has("a"), 3: has(""), 7: has("z")}
	for k := range api.MaxKeys {
		for _, v := range []api.Value{none, has(""), has("a"), has("z"), has("A"), {Bytes: "a"}} {
			wantReplay(t, w, []serial.Act{getAct(k, v)}, w, v == w[k])
		}
	}
	wantReplay(t, w, []serial.Act{{Kind: api.SGet, Key: 7, V: has("z"), To: 99, L: []api.Pair{pair(1, "l")}}}, w, true)
}

// TestReplayList: L is just the keys of that row that have a value.
func TestReplayList(t *testing.T) {
	w := serial.World{0: has("a"), 3: has(""), 4: {Bytes: "none"}, 7: has("z")}
	all := []api.Pair{pair(0, "a"), pair(3, ""), pair(7, "z")}
	so := func(from, to int, l ...api.Pair) {
		t.Helper()
		wantReplay(t, w, []serial.Act{listAct(from, to, l...)}, w, true)
	}
	not := func(from, to int, l ...api.Pair) {
		t.Helper()
		wantReplay(t, w, []serial.Act{listAct(from, to, l...)}, w, false)
	}
	so(0, 7, all...)
	so(0, 6, all[:2]...)
	so(0, 3, all[:2]...)
	so(0, 2, all[:1]...)
	so(0, 0, all[:1]...)
	so(1, 7, all[1:]...)
	so(3, 3, all[1])
	so(4, 7, all[2])
	so(7, 7, all[2])
	so(4, 6)
	so(7, 0)
	so(1, 0)
	not(0, 7)
	not(0, 7, all[:2]...)
	not(0, 7, all[1:]...)
	not(0, 6, all...)
	not(1, 7, all...)
	not(7, 0, all[2])
	not(0, 7, all[2], all[1], all[0])
	not(0, 7, append(all, all[2])...)
	not(0, 7, append(all, pair(8, "more"))...)
	not(0, 3, all[0], pair(3, "x"))
	not(0, 3, all[0], api.Pair{Key: 3})
	not(0, 1, all[0], api.Pair{Key: 1})
	not(4, 4, api.Pair{Key: 4, V: w[4]})
}

// TestReplayListBeyond: To may be no key; the keys that there are are asked.
func TestReplayListBeyond(t *testing.T) {
	w := serial.World{0: has("a"), 7: has("z")}
	for _, to := range []int{7, 8, 99, math.MaxInt} {
		wantReplay(t, w, []serial.Act{listAct(1, to, pair(7, "z"))}, w, true)
		wantReplay(t, w, []serial.Act{listAct(1, to)}, w, false)
	}
	for _, to := range []int{-1, -99, math.MinInt} {
		wantReplay(t, w, []serial.Act{listAct(0, to)}, w, true)
		wantReplay(t, w, []serial.Act{listAct(0, to, pair(0, "a"))}, w, false)
	}
}

// TestReplayGoesOn: an act that was not so does not end it, and is not
// forgotten, wherever it stands.
func TestReplayGoesOn(t *testing.T) {
	right := []serial.Act{putAct(1, "x"), getAct(1, has("x")), listAct(0, 7, pair(1, "x")), dropAct(1), putAct(2, "y"), listAct(0, 7, pair(2, "y")), getAct(1, none)}
	behind := serial.World{2: has("y")}
	wantReplay(t, serial.World{}, right, behind, true)
	for i := range len(right) + 1 {
		for _, wrong := range []serial.Act{getAct(1, has("wrong")), listAct(2, 7, pair(7, "wrong"))} {
			wantReplay(t, serial.World{}, slices.Insert(slices.Clone(right), i, wrong), behind, false)
		}
	}
}

// TestReplayNoKey: nothing more is done behind an act of any kind whose key
// is none; what was done ahead of it stays.
func TestReplayNoKey(t *testing.T) {
	for _, k := range noKeys() {
		for kind := -1; kind <= 12; kind++ {
			bad := serial.Act{Kind: kind, Key: k}
			w := serial.World{3: has("w")}
			wantReplay(t, w, []serial.Act{bad}, w, false)
			ahead := serial.World{1: has("x"), 3: has("w")}
			wantReplay(t, w, []serial.Act{putAct(1, "x"), bad}, ahead, false)
			wantReplay(t, w, []serial.Act{putAct(1, "x"), bad, putAct(2, "y"), dropAct(1)}, ahead, false)
		}
	}
}

// TestReplayOtherKinds do nothing.
func TestReplayOtherKinds(t *testing.T) {
	w := serial.World{3: has("w")}
	for _, kind := range []int{math.MinInt, -1, 0, api.SBegin, api.SCommit, api.SAbort, api.SClear, api.SCrash, api.STear, 11, 77, math.MaxInt} {
		other := serial.Act{Kind: kind, Key: 3, To: 9, V: has("other"), L: []api.Pair{pair(1, "l")}}
		wantReplay(t, w, []serial.Act{other}, w, true)
		wantReplay(t, w, []serial.Act{other, putAct(1, "x"), getAct(3, has("w"))}, serial.World{1: has("x"), 3: has("w")}, true)
	}
}

// TestArgumentsStay: neither acts nor deeds are changed, nor what lies behind
// them.
func TestArgumentsStay(t *testing.T) {
	fresh := func() []serial.Done {
		return []serial.Done{
			done(3, 0, api.MShot, putAct(1, "x"), putAct(1, "q")),
			done(0, 2, api.MLook, getAct(1, has("y")), listAct(0, 7, pair(1, "y"))),
			done(2, 0, api.MSure, putAct(1, "y")),
			done(0, 0, api.MLook, getAct(1, none)),
			done(1, 0, api.MSure, putAct(1, "z")),
			done(0, 0, api.MLook, getAct(1, has("wrong"))),
		}
	}
	l := fresh()
	if !serial.Serial(l[:5]) {
		t.Error("these are serial")
	}
	serial.Serial(l)
	w := serial.World{1: has("y")}
	for _, d := range l {
		serial.Replay(w, d.Acts[:1])
	}
	if !reflect.DeepEqual(l, fresh()) || w != (serial.World{1: has("y")}) {
		t.Errorf("the arguments are %+v, %v", l, w)
	}
}

func TestSerialOfNothing(t *testing.T) {
	wantSerial(t, true)
	wantSerial(t, true, []serial.Done{}...)
	wantSerial(t, true, serial.Done{})
	wantSerial(t, true, done(1, 0, api.MSure))
}

// TestSerialRises: by N, whatever the order of the list.
func TestSerialRises(t *testing.T) {
	a := done(1, 0, api.MSure, getAct(1, none), putAct(1, "a"))
	b := done(2, 1, api.MSure, getAct(1, has("a")), putAct(1, "b"))
	c := done(3, 2, api.MSure, getAct(1, has("b")), dropAct(1))
	d := done(0, 3, api.MLook, listAct(0, 7))
	for _, l := range [][]serial.Done{{a, b, c, d}, {d, c, b, a}, {b, d, a, c}, {c, a, d, b}} {
		wantSerial(t, true, l...)
		for i := range l {
			// Without the third one, no look behind it is looked at.
			if l[i].N == 1 || l[i].N == 2 {
				wantSerial(t, false, slices.Delete(slices.Clone(l), i, i+1)...)
			}
		}
	}
	b.N, c.N = 3, 2
	wantSerial(t, false, a, b, c)
}

// TestSerialWithGaps: numbers of no deed change nothing.
func TestSerialWithGaps(t *testing.T) {
	a := done(4, 0, api.MSure, getAct(1, none), putAct(1, "a"))
	b := done(9, 1, api.MSure, getAct(1, has("a")), dropAct(1))
	for at := range 10 {
		v := none
		if at >= 4 && at < 9 {
			v = has("a")
		}
		wantSerial(t, true, b, done(0, at, api.MLook, getAct(1, v)), a)
		wantSerial(t, false, b, done(0, at, api.MLook, getAct(1, has("b"))), a)
	}
}

// TestSerialOfOneN: deeds of the same N are done in the order of the list,
// and looks come behind all of them.
func TestSerialOfOneN(t *testing.T) {
	a := done(2, 0, api.MSure, getAct(1, none), putAct(1, "a"))
	b := done(2, 0, api.MSure, getAct(1, has("a")), putAct(1, "b"))
	look := func(at int, v api.Value) serial.Done { return done(0, at, api.MLook, getAct(1, v)) }
	wantSerial(t, true, a, b)
	wantSerial(t, false, b, a)
	wantSerial(t, true, look(2, has("b")), a, look(2, has("b")), b, look(1, none), look(0, none))
	wantSerial(t, false, a, look(2, has("a")), b)
	wantSerial(t, false, a, look(1, has("a")), b)
	wantSerial(t, false, b, a, look(2, has("a")))
	wantSerial(t, true, done(2, 0, api.MShot, putAct(1, "b")), done(2, 0, api.MShot, putAct(1, "a")), look(2, has("a")))
}

// TestSerialOfOneNStays: however many they are, their order is the list's.
func TestSerialOfOneNStays(t *testing.T) {
	var l []serial.Done
	ahead := [2]api.Value{}
	for i := range 300 {
		// The deeds of N 1 have a key, and those of N 2 another one.
		k := i % 2
		l = append(l, done(k+1, 0, api.MSure, getAct(k, ahead[k]), putAct(k, letters(i))))
		ahead[k] = has(letters(i))
	}
	wantSerial(t, true, l...)
	for _, i := range []int{0, 1, 150, 297} {
		l[i], l[i+2] = l[i+2], l[i]
		wantSerial(t, false, l...)
		l[i], l[i+2] = l[i+2], l[i]
	}
}

// TestSerialModes: with a commit it must be so of sure deeds alone; without
// one of all.
func TestSerialModes(t *testing.T) {
	for _, mode := range []int{math.MinInt, -1, 0, api.MShot, api.MSure, api.MLook, 4, math.MaxInt} {
		wrong := []serial.Act{getAct(1, has("wrong")), putAct(2, "y")}
		look := done(0, 1, api.MLook, listAct(0, 7, pair(2, "y")))
		wantSerial(t, mode != api.MSure, done(1, 0, mode, wrong...), look)
		wantSerial(t, true, done(1, 0, mode, wrong[1]), look)
		wantSerial(t, false, done(0, 0, mode, wrong[0]))
		wantSerial(t, true, done(0, 0, mode, getAct(1, none)))
	}
}

// TestSerialLooksLeaveTheWorld as it is, whatever they wrote.
func TestSerialLooksLeaveTheWorld(t *testing.T) {
	wrote := done(0, 0, api.MShot, putAct(1, "own"), getAct(1, has("own")))
	wantSerial(t, true, wrote, wrote, done(0, 0, api.MLook, getAct(1, none)))
	wantSerial(t, true, wrote, done(1, 0, api.MSure, getAct(1, none)))
	wantSerial(t, false, wrote, done(1, 0, api.MSure, getAct(1, has("own"))))
	wantSerial(t, false, wrote, done(0, 0, api.MLook, getAct(1, has("own"))))
}

// TestSerialBeside: deeds whose N is below 0 are not done; a look behind a
// number that is below 0 or above the greatest one is not looked at.
func TestSerialBeside(t *testing.T) {
	bad := []serial.Act{getAct(1, has("wrong")), putAct(1, "y")}
	for _, n := range []int{math.MinInt, -7, -1} {
		wantSerial(t, true, done(n, 0, api.MSure, bad...), done(1, 0, api.MSure, getAct(1, none)), done(0, 0, api.MLook, getAct(1, none)))
		wantSerial(t, true, done(n, 0, api.MSure, bad...), done(0, 1, api.MSure, bad...))
	}
	for _, at := range []int{math.MinInt, -1, 3, 4, math.MaxInt} {
		wantSerial(t, true, done(0, at, api.MSure, bad...), done(2, 0, api.MSure, getAct(1, none)))
	}
	for _, at := range []int{0, 1, 2} {
		wantSerial(t, false, done(0, at, api.MSure, bad...), done(2, 0, api.MSure, getAct(1, none)))
	}
	wantSerial(t, true, done(0, 1, api.MSure, bad...))
	wantSerial(t, false, done(0, 0, api.MSure, bad...))
}

// TestSerialNoKey: what a deed did behind an act at no key is not done.
func TestSerialNoKey(t *testing.T) {
	for _, k := range noKeys() {
		acts := []serial.Act{putAct(1, "x"), putAct(k, "no"), putAct(2, "y")}
		look := done(0, 1, api.MLook, listAct(0, 7, pair(1, "x")))
		wantSerial(t, true, done(1, 0, api.MShot, acts...), look)
		wantSerial(t, false, done(1, 0, api.MSure, acts...), look)
		wantSerial(t, false, done(0, 0, api.MShot, acts...))
	}
}

// TestSerialEnds: it does not count to the greatest number.
func TestSerialEnds(t *testing.T) {
	x := done(math.MaxInt, 0, api.MSure, getAct(1, none), putAct(1, "x"))
	look := func(at int, v api.Value) serial.Done { return done(0, at, api.MLook, getAct(1, v)) }
	wantSerial(t, true, x, look(0, none), look(math.MaxInt-1, none), look(math.MaxInt, has("x")), look(math.MinInt, has("no")))
	wantSerial(t, false, x, look(math.MaxInt-1, has("x")))
	wantSerial(t, false, x, look(math.MaxInt, none))
	y := done(math.MaxInt-1, 0, api.MShot, putAct(1, "y"))
	wantSerial(t, false, x, y)
	x.Acts[0].V = has("y")
	wantSerial(t, true, x, y, look(math.MaxInt-2, none), look(math.MaxInt-1, has("y")), look(math.MaxInt, has("x")))
}

// TestSerialOfMany ends soon enough with many deeds, too.
func TestSerialOfMany(t *testing.T) {
	var l []serial.Done
	for i := range 100000 {
		n := 100000 - i
		l = append(l, done(n, n-1, api.MSure, putAct(n%8, "x")), done(0, n, api.MLook, getAct(n%8, has("x"))))
	}
	wantSerial(t, true, l...)
	l = append(l, done(0, 5, api.MLook, getAct(6, has("x"))))
	wantSerial(t, false, l...)
}
