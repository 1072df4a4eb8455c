package serial_test

import (
	"math"
	"math/rand"
	"slices"
	"testing"

	"vaultage/api"
	"vaultage/hall"
	"vaultage/serial"
)

// line is what a book is told of one step.
type line struct {
	x    api.Step
	e    api.Event
	last int
}

// modelList is List by the chapter's words: of each line that says that a
// deed was done, what its seat did since it began.
func modelList(lines []line) []serial.Done {
	var l []serial.Done
	for i, end := range lines {
		isDone := end.x.Kind == api.SCommit && end.e.Code == 0 || end.x.Kind == api.STear && end.e.N != 0
		if !isDone {
			continue
		}
		of := slices.DeleteFunc(slices.Clone(lines[:i]), func(n line) bool {
			return n.x.S != end.x.S || n.e.Code != 0
		})
		for of[0].x.Kind != api.SBegin || slices.ContainsFunc(of[1:], func(n line) bool { return n.x.Kind == api.SBegin }) {
			of = of[1:]
		}
		d := serial.Done{N: end.e.N, At: of[0].last, Mode: of[0].x.Mode}
		if d.Mode == api.MLook {
			d.At = of[0].x.At
		}
		for _, n := range of[1:] {
			if a, is := modelAct(n.x, n.e); is {
				d.Acts = append(d.Acts, a)
			}
		}
		l = append(l, d)
	}
	return l
}

// modelAct is the act of a step that had no code; false: it is none.
func modelAct(x api.Step, e api.Event) (serial.Act, bool) {
	switch x.Kind {
	case api.SGet:
		return serial.Act{Kind: x.Kind, Key: x.Key, V: e.V}, true
	case api.SPut:
		return serial.Act{Kind: x.Kind, Key: x.Key, V: has(x.Bytes)}, true
	case api.SDrop:
		return serial.Act{Kind: x.Kind, Key: x.Key}, true
	case api.SList:
		return serial.Act{Kind: x.Kind, Key: x.Key, To: x.To, L: e.L}, true
	}
	return serial.Act{}, false
}

// modelReplay is Replay by the chapter's words, act by act.
func modelReplay(w serial.World, l []serial.Act) (serial.World, bool) {
	if len(l) == 0 {
		return w, true
	}
	a := l[0]
	if a.Key < 0 || a.Key > 7 {
		return w, false
	}
	so := true
	switch a.Kind {
	case 2:
		so = w[a.Key].There == a.V.There && w[a.Key].Bytes == a.V.Bytes
	case 3, 4:
		w[a.Key] = a.V
	case 5:
		left := slices.Clone(a.L)
		for k, v := range w {
			if k < a.Key || k > a.To || !v.There {
				continue
			}
			if len(left) == 0 || left[0] != (api.Pair{Key: k, V: v}) {
				so = false
				break
			}
			left = left[1:]
		}
		so = so && len(left) == 0
	}
	w, rest := modelReplay(w, l[1:])
	return w, so && rest
}

// modelSerial is Serial by the chapter's words, number by number.
func modelSerial(l []serial.Done) bool {
	var w serial.World
	greatest := 0
	for _, d := range l {
		greatest = max(greatest, d.N)
	}
	for n := range greatest + 1 {
		for _, d := range l {
			if n == 0 || d.N != n {
				continue
			}
			var so bool
			if w, so = modelReplay(w, d.Acts); !so && d.Mode == api.MSure {
				return false
			}
		}
		for _, d := range l {
			if d.N != 0 || d.At != n {
				continue
			}
			if _, so := modelReplay(w, d.Acts); !so {
				return false
			}
		}
	}
	return true
}

// story is a hall, a book of its steps, and these as they were.
type story struct {
	noted
	lines []line
}

func newStory() *story { return &story{noted: start()} }

func (s *story) tell(x api.Step) api.Event {
	last := s.h.Last()
	e := s.do(x)
	e.L = slices.Clone(e.L)
	s.lines = append(s.lines, line{x, e, last})
	return e
}

// holdAgainst looks at all that is promised of a book of a hall.
func (s *story) holdAgainst(t *testing.T) []serial.Done {
	t.Helper()
	l := s.b.List()
	if want := modelList(s.lines); !slices.EqualFunc(l, want, sameDone) {
		t.Fatalf("%+v: List() = %+v, want %+v", s.lines, l, want)
	}
	if !serial.Serial(l) {
		t.Fatalf("%+v: %+v are not serial", s.lines, l)
	}
	if w := worldOf(t, l); w != tellWorld(s.h) {
		t.Fatalf("%+v: they wrote %v, the keys have %v", s.lines, w, tellWorld(s.h))
	}
	return l
}

// worldOf is what deeds wrote, one behind the other by their commits: each of
// these is of one deed, and none is missing.
func worldOf(t *testing.T, l []serial.Done) serial.World {
	t.Helper()
	var w serial.World
	n := 0
	for _, d := range l {
		if d.N == 0 {
			continue
		}
		if n++; d.N != n {
			t.Fatalf("behind %d commits comes %d", n-1, d.N)
		}
		w, _ = serial.Replay(w, d.Acts)
	}
	return w
}

// tellWorld is what all keys have by now.
func tellWorld(h *hall.Hall) serial.World {
	var w serial.World
	l, _ := h.List(0, 7, h.Last())
	for _, p := range l {
		w[p.Key] = p.V
	}
	return w
}

// someSteps have two seats meet at two keys, and a third one look.
func someSteps() []api.Step {
	return []api.Step{
		beginStep(0, api.MShot, 9),
		beginStep(1, api.MSure, 0),
		beginStep(2, api.MLook, 1),
		getStep(0, 2),
		getStep(1, 1),
		putStep(0, 1, "a"),
		putStep(1, 2, "b"),
		dropStep(1, 1),
		listStep(2, 1, 2),
		listStep(1, 0, 7),
		commitStep(0),
		commitStep(1),
		commitStep(2),
		abortStep(1),
		clearStep(),
		crashStep(),
		tearStep(0, 4),
		tearStep(1, 5),
	}
}

// TestAllShortHistories does every row of up to four of someSteps, of a new
// hall, and of one in which three deeds go on behind two commits.
func TestAllShortHistories(t *testing.T) {
	goOn(t, nil, someSteps(), 4)
	goOn(t, []api.Step{
		beginStep(4, api.MShot, 0), putStep(4, 1, "o"), commitStep(4),
		beginStep(0, api.MShot, 0), beginStep(1, api.MSure, 0),
		beginStep(4, api.MShot, 0), dropStep(4, 1), putStep(4, 2, "p"), commitStep(4),
		beginStep(2, api.MLook, 1),
	}, someSteps(), 4)
}

// TestAllMeetings does every row of up to six steps by which two sure deeds
// read and write what the other one does.
func TestAllMeetings(t *testing.T) {
	goOn(t, []api.Step{beginStep(0, api.MSure, 0), beginStep(1, api.MSure, 0)}, []api.Step{
		getStep(0, 2), putStep(0, 1, "a"), commitStep(0),
		getStep(1, 1), putStep(1, 2, "b"), commitStep(1),
	}, 6)
}

// goOn does a history, and then every one with up to that many steps more.
func goOn(t *testing.T, history, steps []api.Step, more int) {
	t.Helper()
	s := newStory()
	for _, x := range history {
		s.tell(x)
	}
	s.holdAgainst(t)
	if more == 0 {
		return
	}
	for _, x := range steps {
		goOn(t, append(history[:len(history):len(history)], x), steps, more-1)
	}
}

// someStep is of a hall of that many commits: mostly one that can be done.
func someStep(r *rand.Rand, last int) api.Step {
	x := api.Step{
		S: r.Intn(5), Mode: []int{api.MShot, api.MShot, api.MSure, api.MSure, api.MLook}[r.Intn(5)], At: last - r.Intn(6),
		Key: r.Intn(8), To: r.Intn(8), Keep: r.Intn(60),
		Bytes: letters(r.Intn(13)),
	}
	kinds := []int{
		api.SBegin, api.SBegin, api.SBegin, api.SBegin, api.SGet, api.SGet, api.SGet,
		api.SPut, api.SPut, api.SPut, api.SPut, api.SDrop, api.SList,
		api.SCommit, api.SCommit, api.SCommit, api.SAbort, api.SClear,
	}
	x.Kind = kinds[r.Intn(len(kinds))]
	switch r.Intn(100) {
	case 0:
		x.Kind = api.SCrash
	case 1, 2:
		x.Kind = api.STear
	case 3, 4:
		return wildStep(r, x)
	}
	return x
}

// wild is a number that is mostly of nothing.
func wild(r *rand.Rand) int {
	return []int{math.MinInt, -1, 0, 4, 5, 8, 11, 41, math.MaxInt}[r.Intn(9)]
}

// wildStep makes one number of a step any other one.
func wildStep(r *rand.Rand, x api.Step) api.Step {
	n := wild(r)
	switch r.Intn(8) {
	case 0:
		x.Kind = n
	case 1:
		x.S = n
	case 2:
		x.Mode = n
	case 3:
		x.At = n
	case 4:
		x.Key = n
	case 5:
		x.To = n
	case 6:
		x.Keep = n
	default:
		x.Bytes = letters(13 + r.Intn(300))
	}
	return x
}

// write has a seat write, and nobody in its way: only room can be missing.
func (s *story) write(r *rand.Rand) api.Event {
	seat := r.Intn(5)
	s.tell(abortStep(seat))
	s.tell(beginStep(seat, 1+r.Intn(2), 0))
	s.tell(putStep(seat, r.Intn(8), letters(r.Intn(13))))
	return s.tell(commitStep(seat))
}

// TestLongHistories goes on until halls are full.
func TestLongHistories(t *testing.T) {
	torn, full, looks := 0, 0, 0
	for seed := range 60 {
		r := rand.New(rand.NewSource(int64(seed)))
		s := newStory()
		for i := range 1200 {
			x := someStep(r, s.h.Last())
			e := s.tell(x)
			if x.Kind == api.STear && e.N > 0 {
				torn++
			}
			if r.Intn(20) == 0 && s.write(r).Code == api.ErrFull {
				full++
			}
			if i%100 == 99 {
				s.holdAgainst(t)
			}
		}
		for _, d := range s.holdAgainst(t) {
			if d.N == 0 && len(d.Acts) > 0 {
				looks++
			}
		}
	}
	if torn == 0 || full == 0 || looks == 0 {
		t.Errorf("%d came by a tear, %d had no room, %d looked", torn, full, looks)
	}
}

// TestSerialSeesWhatWasRead: had a sure deed, or one without a commit, read
// something else, its deeds would not be serial; had another one, they would.
func TestSerialSeesWhatWasRead(t *testing.T) {
	changed := map[bool]int{}
	for seed := range 10 {
		r := rand.New(rand.NewSource(int64(seed)))
		s := newStory()
		for range 400 {
			s.tell(someStep(r, s.h.Last()))
		}
		l := s.holdAgainst(t)
		for i := range l {
			for j := range l[i].Acts {
				a := &l[i].Acts[j]
				kept := *a
				switch a.Kind {
				case api.SGet:
					a.V = has("never")
				case api.SList:
					a.L = append(a.L, pair(7, "never"))
				default:
					continue
				}
				want := l[i].N > 0 && l[i].Mode != api.MSure
				wantSerial(t, want, l...)
				changed[want]++
				*a = kept
			}
		}
	}
	if changed[false] == 0 || changed[true] == 0 {
		t.Errorf("changed: %v", changed)
	}
}

// TestSerialOfShots: without being sure they need not have come one behind
// the other; what was not so is told of these deeds.
func TestSerialOfShots(t *testing.T) {
	not := 0
	for seed := range 40 {
		r := rand.New(rand.NewSource(int64(seed)))
		s := newStory()
		for range 600 {
			s.tell(someStep(r, s.h.Last()))
		}
		l := s.b.List()
		for i := range l {
			l[i].Mode = api.MSure
		}
		if !serial.Serial(l) {
			not++
		}
	}
	if not == 0 {
		t.Error("shots were always serial")
	}
}

// someAct is one that is often so of a world of few values.
func someAct(r *rand.Rand) serial.Act {
	a := serial.Act{
		Kind: 2 + r.Intn(4), Key: r.Intn(3), To: r.Intn(4),
		V: []api.Value{none, none, has(""), has("a")}[r.Intn(4)],
	}
	if a.Kind == api.SList {
		for k := a.Key; k <= a.To; k++ {
			if r.Intn(3) == 0 {
				a.L = append(a.L, api.Pair{Key: k, V: []api.Value{has(""), has("a")}[r.Intn(2)]})
			}
		}
	}
	switch r.Intn(40) {
	case 0:
		a.Kind = wild(r)
	case 1:
		a.Key = wild(r)
	case 2:
		a.To = wild(r)
	}
	return a
}

func someActs(r *rand.Rand, most int) []serial.Act {
	var l []serial.Act
	for range r.Intn(most + 1) {
		l = append(l, someAct(r))
	}
	return l
}

func someWorld(r *rand.Rand) serial.World {
	var w serial.World
	for k := range 4 {
		w[k] = []api.Value{none, has(""), has("a")}[r.Intn(3)]
	}
	return w
}

// TestReplayIsTheModels holds Replay of any acts against the chapter.
func TestReplayIsTheModels(t *testing.T) {
	r := rand.New(rand.NewSource(1))
	count := map[bool]int{}
	for range 200000 {
		w, l := someWorld(r), someActs(r, 5)
		want, so := modelReplay(w, l)
		wantReplay(t, w, l, want, so)
		count[so]++
	}
	if count[true] < 1000 || count[false] < 1000 {
		t.Errorf("so: %v", count)
	}
}

// isNoKey: behind such an act nothing more is done.
func isNoKey(a serial.Act) bool { return a.Key < 0 || a.Key >= api.MaxKeys }

// TestReplayInTwo: the first acts, and then the others on the world that they
// left, come to the same world as all of them, unless one of the first ones
// ended it all; and both are so just if all are.
func TestReplayInTwo(t *testing.T) {
	r := rand.New(rand.NewSource(2))
	for range 20000 {
		w, l := someWorld(r), someActs(r, 8)
		all, so := serial.Replay(w, l)
		for i := range len(l) + 1 {
			first, firstSo := serial.Replay(w, l[:i])
			then, thenSo := serial.Replay(first, l[i:])
			if so != (firstSo && thenSo) {
				t.Fatalf("%+v, parted at %d: %v and %v, but all %v", l, i, firstSo, thenSo, so)
			}
			ended := slices.ContainsFunc(l[:i], isNoKey)
			if ended && first != all || !ended && then != all {
				t.Fatalf("%+v, parted at %d: %v, then %v, but all %v", l, i, first, then, all)
			}
		}
	}
}

// TestSerialIsTheModels holds Serial of any deeds against the chapter.
func TestSerialIsTheModels(t *testing.T) {
	r := rand.New(rand.NewSource(3))
	count := map[bool]int{}
	for range 200000 {
		var l []serial.Done
		for range r.Intn(7) {
			l = append(l, serial.Done{N: r.Intn(6) - 1, At: r.Intn(7) - 1, Mode: r.Intn(5), Acts: someActs(r, 2)})
		}
		want := modelSerial(l)
		wantSerial(t, want, l...)
		count[want]++
	}
	if count[true] < 1000 || count[false] < 1000 {
		t.Errorf("serial: %v", count)
	}
}

// TestSerialOfAnyOrder: the order of a list of a book's deeds, each with a
// number of its own or none, does not matter.
func TestSerialOfAnyOrder(t *testing.T) {
	r := rand.New(rand.NewSource(4))
	s := newStory()
	for range 500 {
		s.tell(someStep(r, s.h.Last()))
	}
	l := s.holdAgainst(t)
	for range 50 {
		r.Shuffle(len(l), func(i, j int) { l[i], l[j] = l[j], l[i] })
		wantSerial(t, true, l...)
	}
}

// TestSameAgain: what is told hangs on what was noted alone.
func TestSameAgain(t *testing.T) {
	r := rand.New(rand.NewSource(5))
	s := newStory()
	for range 500 {
		s.tell(someStep(r, s.h.Last()))
	}
	again := serial.New()
	for i, n := range s.lines {
		again.Note(n.x, n.e, n.last)
		if i%7 == 0 {
			// To be asked changes nothing.
			again.List()
		}
	}
	wantList(t, again, s.b.List()...)
	wantList(t, again, s.b.List()...)
}

// TestNoPanic has steps and events of no hall, with any numbers.
func TestNoPanic(t *testing.T) {
	r := rand.New(rand.NewSource(6))
	for range 200 {
		b := serial.New()
		for range 300 {
			x := someStep(r, r.Intn(40))
			for range r.Intn(4) {
				x = wildStep(r, x)
			}
			e := api.Event{N: wild(r), V: api.Value{There: r.Intn(2) == 0, Bytes: letters(r.Intn(20))}}
			if r.Intn(4) == 0 {
				e.Code = wild(r)
			}
			for range r.Intn(4) {
				e.L = append(e.L, api.Pair{Key: wild(r), V: e.V})
			}
			b.Note(x, e, wild(r))
		}
		l := b.List()
		for _, d := range l {
			serial.Replay(serial.World{}, d.Acts)
		}
		serial.Serial(l)
	}
}
