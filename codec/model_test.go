package codec_test

import (
	"bytes"
	"math/rand"
	"slices"
	"testing"

	"vaultage/api"
	"vaultage/codec"
)

// shortRow is up to how many bytes all rows are made here.
const shortRow = 6

// someBytes are the bytes of these rows: sizes, counts and lengths up to
// theirs, keys, the first that is none, and the mark of no value.
func someBytes() []byte { return []byte{0, 1, 2, 3, 4, 5, 6, 8, 255} }

// formed are all rows of such pairs that have at most so many bytes, by these:
// it makes them instead of reading them, as the program does.
func formed() map[string][]api.Pair {
	all := map[string][]api.Pair{}
	var goOn func(body string, w []api.Pair)
	goOn = func(body string, w []api.Pair) {
		size := 2 + len(body)
		if size > shortRow {
			return
		}
		all[string([]byte{byte(size), byte(len(w))})+body] = w
		for _, k := range someBytes() {
			key := string([]byte{k})
			goOn(body+key+"\xff", append(slices.Clone(w), drop(int(k))))
			for _, v := range textsUpTo(shortRow - size - 2) {
				p := pair(int(k), v)
				goOn(body+key+string([]byte{byte(len(v))})+v, append(slices.Clone(w), p))
			}
		}
	}
	goOn("", nil)
	return all
}

// textsUpTo are all texts of someBytes of at most that many bytes.
func textsUpTo(most int) []string {
	if most < 0 {
		return nil
	}
	all := []string{""}
	for _, s := range textsUpTo(most - 1) {
		for _, b := range someBytes() {
			all = append(all, s+string([]byte{b}))
		}
	}
	return all
}

// pairsCode is table.Check's code of pairs that bytes can tell.
func pairsCode(w []api.Pair) int {
	for i, p := range w {
		if p.Key > 7 {
			return api.ErrRange
		}
		if i > 0 && p.Key <= w[i-1].Key {
			return api.ErrOrder
		}
		if len(p.V.Bytes) > 12 {
			return api.ErrLong
		}
	}
	return 0
}

func modelDecode(all map[string][]api.Pair, b []byte) ([]api.Pair, int, int) {
	if len(b) == 0 || int(b[0]) > len(b) {
		return nil, 0, api.ErrShort
	}
	w, ok := all[string(b[:b[0]])]
	if !ok {
		return nil, 0, api.ErrForm
	}
	if code := pairsCode(w); code != 0 {
		return nil, 0, code
	}
	return w, int(b[0]), 0
}

// TestAllShortRows decodes every row of up to six of someBytes.
func TestAllShortRows(t *testing.T) {
	all := formed()
	codes := map[int]int{}
	for _, s := range textsUpTo(shortRow) {
		w, size, code := modelDecode(all, []byte(s))
		wantDecode(t, []byte(s), w, size, code)
		codes[code]++
	}
	for _, code := range []int{0, api.ErrShort, api.ErrForm, api.ErrRange, api.ErrOrder} {
		if codes[code] == 0 {
			t.Errorf("no row has the code %d", code)
		}
	}
}

// TestAllShortCommits encodes every row of pairs that is at most six bytes.
func TestAllShortCommits(t *testing.T) {
	for s, w := range formed() {
		if code := pairsCode(w); code != 0 {
			wantEncode(t, w, nil, code)
		} else {
			wantEncode(t, w, []byte(s), 0)
		}
	}
}

func someText(r *rand.Rand, n int) string {
	b := make([]byte, n)
	r.Read(b)
	return string(b)
}

func someCommit(r *rand.Rand) []api.Pair {
	var w []api.Pair
	for k := range api.MaxKeys {
		switch r.Intn(4) {
		case 0:
			w = append(w, drop(k))
		case 1:
			w = append(w, pair(k, someText(r, r.Intn(api.MaxValue+1))))
		}
	}
	return w
}

// TestThereAndBack: whatever a commit is, its bytes are decoded as it, with
// whatever behind them, and are too short without some at their end.
func TestThereAndBack(t *testing.T) {
	r := rand.New(rand.NewSource(1))
	for range 2000 {
		w := someCommit(r)
		b, code := codec.Encode(w)
		if code != 0 || int(b[0]) != len(b) {
			t.Fatalf("Encode(%#v) = %v, %d", w, b, code)
		}
		wantDecode(t, append(slices.Clone(b), someText(r, r.Intn(300))...), w, len(b), 0)
		for cut := range b {
			wantNoCommit(t, b[:cut], api.ErrShort)
		}
	}
}

// TestOneBehindTheOther: each commit of a row ends where the next one begins.
func TestOneBehindTheOther(t *testing.T) {
	r := rand.New(rand.NewSource(2))
	for range 100 {
		var row []byte
		var list [][]api.Pair
		for range r.Intn(40) {
			w := someCommit(r)
			b, _ := codec.Encode(w)
			row, list = append(row, b...), append(list, w)
		}
		for _, w := range list {
			wantDecode(t, row, w, int(row[0]), 0)
			row = row[row[0]:]
		}
		wantNoCommit(t, row, api.ErrShort)
	}
}

// holdBack looks at what is promised of any bytes: those that begin with a
// commit begin with its bytes; with a code nothing else is told.
func holdBack(t *testing.T, b []byte) {
	t.Helper()
	ahead := slices.Clone(b)
	w, size, code := codec.Decode(b)
	if !bytes.Equal(b, ahead) {
		t.Fatalf("Decode(%v) left %v", ahead, b)
	}
	switch code {
	case 0:
		if size < 2 || size > len(b) || size != int(b[0]) {
			t.Fatalf("Decode(%v) tells %d bytes", b, size)
		}
		wantEncode(t, w, b[:size], 0)
	case api.ErrShort, api.ErrForm, api.ErrRange, api.ErrOrder, api.ErrLong:
		if len(w) != 0 || size != 0 {
			t.Fatalf("Decode(%v) = %#v, %d, %d", b, w, size, code)
		}
	default:
		t.Fatalf("Decode(%v) has the code %d", b, code)
	}
}

// TestBrokenCommits breaks a byte or two of commits.
func TestBrokenCommits(t *testing.T) {
	r := rand.New(rand.NewSource(3))
	for range 50000 {
		b, _ := codec.Encode(someCommit(r))
		b = append(b, someText(r, r.Intn(20))...)
		for range r.Intn(3) {
			b[r.Intn(len(b))] = byte(r.Intn(256) >> r.Intn(8))
		}
		holdBack(t, b)
	}
}

// wildPairs are pairs that bytes can tell, seldom those of a commit, and their
// bytes.
func wildPairs(r *rand.Rand) ([]api.Pair, []byte) {
	var w []api.Pair
	b := []byte{2, 0}
	key := 0
	for range r.Intn(8) {
		key = max(key+r.Intn(6)-1, 0)
		v := someText(r, max(r.Intn(15)-1, 0))
		if r.Intn(3) == 0 {
			w, b = append(w, drop(key)), append(b, byte(key), 255)
		} else {
			w, b = append(w, pair(key, v)), append(b, byte(key), byte(len(v)))
			b = append(b, v...)
		}
	}
	b[0], b[1] = byte(len(b)), byte(len(w))
	return w, b
}

// TestWildPairs: of what has the form of pairs table.Check's code is told, and
// one byte less or more, said by the first one, breaks the form.
func TestWildPairs(t *testing.T) {
	r := rand.New(rand.NewSource(4))
	codes := map[int]int{}
	for range 20000 {
		w, b := wildPairs(r)
		code := pairsCode(w)
		codes[code]++
		if code == 0 {
			wantDecode(t, b, w, len(b), 0)
		} else {
			wantNoCommit(t, b, code)
		}
		b = append(b, 0)
		b[0]++
		wantNoCommit(t, b, api.ErrForm)
		b[0] -= 2
		wantNoCommit(t, b, api.ErrForm)
	}
	for _, code := range []int{0, api.ErrRange, api.ErrOrder, api.ErrLong} {
		if codes[code] == 0 {
			t.Errorf("no pairs have the code %d", code)
		}
	}
}

// FuzzDecode runs its few rows as a test; go test -fuzz makes more.
func FuzzDecode(f *testing.F) {
	for _, c := range commits() {
		f.Add(c.b)
	}
	f.Add([]byte{})
	f.Add([]byte{4, 1, 0, 1, 'a'})
	f.Fuzz(func(t *testing.T, b []byte) { holdBack(t, b) })
}
