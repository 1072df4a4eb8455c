package vault_test

import (
	"bytes"
	"math"
	"slices"
	"strings"
	"testing"

	"vaultage/api"
	"vaultage/deed"
	"vaultage/log"
	"vaultage/table"
	"vaultage/vault"
)

var none = api.Value{}

func has(s string) api.Value { return api.Value{There: true, Bytes: s} }

func pair(k int, s string) api.Pair { return api.Pair{Key: k, V: has(s)} }

func drop(k int) api.Pair { return api.Pair{Key: k} }

func pairs(p ...api.Pair) []api.Pair { return p }

func modes() []int { return []int{api.MShot, api.MSure, api.MLook} }

func noModes() []int { return []int{math.MinInt, -1, 0, 4, math.MaxInt} }

// letters is a text of that many bytes.
func letters(n int) string { return strings.Repeat("x", n) }

// longest is a commit of 114 bytes, the most that one can have.
func longest() []api.Pair {
	var w []api.Pair
	for k := range api.MaxKeys {
		w = append(w, pair(k, letters(api.MaxValue)))
	}
	return w
}

// begin is a deed of which no code is told.
func begin(t *testing.T, v *vault.Vault, mode, at int) *deed.Deed {
	t.Helper()
	d, code := v.Begin(mode, at)
	if d == nil || code != 0 {
		t.Fatalf("Begin(%d, %d) = %v, %d, want a deed", mode, at, d, code)
	}
	return d
}

func wantNoBegin(t *testing.T, v *vault.Vault, mode, at, want int) {
	t.Helper()
	if d, code := v.Begin(mode, at); d != nil || code != want {
		t.Errorf("Begin(%d, %d) = %v, %d, want nil, %d", mode, at, d, code, want)
	}
}

func putAll(t *testing.T, d *deed.Deed, w []api.Pair) {
	t.Helper()
	for _, p := range w {
		if code := d.Put(p.Key, p.V); code != 0 {
			t.Fatalf("Put(%d, %#v) = %d, want 0", p.Key, p.V, code)
		}
	}
}

// writer is a deed that wrote these.
func writer(t *testing.T, v *vault.Vault, mode int, w ...api.Pair) *deed.Deed {
	t.Helper()
	d := begin(t, v, mode, 0)
	putAll(t, d, w)
	return d
}

// reader is a deed that read these keys.
func reader(t *testing.T, v *vault.Vault, mode int, keys ...int) *deed.Deed {
	t.Helper()
	d := begin(t, v, mode, v.Last())
	for _, k := range keys {
		if _, code := d.Get(v.Table, k); code != 0 {
			t.Fatalf("Get(%d): code %d", k, code)
		}
	}
	return d
}

func wantCommit(t *testing.T, v *vault.Vault, d *deed.Deed, n, code int) {
	t.Helper()
	if gotN, gotCode := v.Commit(d); gotN != n || gotCode != code {
		t.Fatalf("Commit = %d, %d, want %d, %d", gotN, gotCode, n, code)
	}
}

func wantTear(t *testing.T, v *vault.Vault, d *deed.Deed, keep, n, code int) {
	t.Helper()
	if gotN, gotCode := v.Tear(d, keep); gotN != n || gotCode != code {
		t.Fatalf("Tear(%d) = %d, %d, want %d, %d", keep, gotN, gotCode, n, code)
	}
}

// write makes a commit of these.
func write(t *testing.T, v *vault.Vault, w ...api.Pair) {
	t.Helper()
	wantCommit(t, v, writer(t, v, api.MShot, w...), v.Last()+1, 0)
}

// filled is a vault of four commits:
//
//	commit  key 0  key 1  key 3  key 7
//	1              a      b
//	2              -             z
//	3                     b
//	4       (none) c      B
//
// Key 0 has a value without bytes since commit 4; - is no value.
func filled(t *testing.T) *vault.Vault {
	t.Helper()
	v := vault.New()
	for _, w := range filledCommits() {
		write(t, v, w...)
	}
	return v
}

func filledCommits() [][]api.Pair {
	return [][]api.Pair{
		{pair(1, "a"), pair(3, "b")},
		{drop(1), pair(7, "z")},
		{pair(3, "b")},
		{pair(0, ""), pair(1, "c"), pair(3, "B")},
	}
}

// filledLists are the lists of filled behind the commits 0 to 4.
func filledLists() [][]api.Pair {
	return [][]api.Pair{
		nil,
		{pair(1, "a"), pair(3, "b")},
		{pair(3, "b"), pair(7, "z")},
		{pair(3, "b"), pair(7, "z")},
		{pair(0, ""), pair(1, "c"), pair(3, "B"), pair(7, "z")},
	}
}

// wantVault: the log is just of these commits, and the table of all of them,
// with nothing forgotten.
func wantVault(t *testing.T, v *vault.Vault, list ...[]api.Pair) {
	t.Helper()
	g, x := log.New(), table.New()
	for _, w := range list {
		g.Put(w)
		x.Write(w)
	}
	if !bytes.Equal(v.Log(), g.Bytes()) {
		t.Fatalf("Log() = %v, want %v", v.Log(), g.Bytes())
	}
	sameTold(t, v, tell(x))
}

// answer is what a table tells of a key behind a commit.
type answer struct {
	v    api.Value
	code int
}

// told is all that a table tells.
type told struct {
	first, last int
	since       []int
	read        [][]answer
}

func tell(x *table.Table) told {
	all := told{first: x.First(), last: x.Last()}
	for k := -1; k <= api.MaxKeys; k++ {
		var row []answer
		for at := -1; at <= x.Last()+1; at++ {
			v, code := x.Read(k, at)
			row = append(row, answer{v, code})
		}
		all.since, all.read = append(all.since, x.Since(k)), append(all.read, row)
	}
	return all
}

func sameTold(t *testing.T, v *vault.Vault, want told) {
	t.Helper()
	got := tell(v.Table)
	if got.first != want.first || got.last != want.last {
		t.Fatalf("commits %d to %d, want %d to %d", got.first, got.last, want.first, want.last)
	}
	if !slices.Equal(got.since, want.since) {
		t.Fatalf("Since of all keys: %v, want %v", got.since, want.since)
	}
	for k := range want.read {
		if !slices.Equal(got.read[k], want.read[k]) {
			t.Fatalf("Read of key %d: %v, want %v", k-1, got.read[k], want.read[k])
		}
	}
}

// unchanged: what is done leaves the log and the table as they are.
func unchanged(t *testing.T, v *vault.Vault, do func()) {
	t.Helper()
	b, x := v.Log(), tell(v.Table)
	do()
	if !bytes.Equal(v.Log(), b) {
		t.Fatalf("Log() = %v, want %v", v.Log(), b)
	}
	sameTold(t, v, x)
}

func TestNewIsEmpty(t *testing.T) {
	v := vault.New()
	wantVault(t, v)
	v.Crash()
	wantVault(t, v)
}

func TestBegin(t *testing.T) {
	v := filled(t)
	unchanged(t, v, func() {
		for at := range 5 {
			d := begin(t, v, api.MLook, at)
			if d.Mode() != api.MLook || d.At() != at {
				t.Errorf("a look behind %d has %d, %d", at, d.Mode(), d.At())
			}
			if l, code := d.List(v.Table, 0, 7); !slices.Equal(l, filledLists()[at]) || code != 0 {
				t.Errorf("a look behind %d sees %#v, %d", at, l, code)
			}
		}
	})
}

// TestBeginBehindTheLast: a deed that is no look does not mind at.
func TestBeginBehindTheLast(t *testing.T) {
	v := vault.New()
	for _, w := range append(filledCommits(), nil) {
		for _, mode := range []int{api.MShot, api.MSure} {
			for _, at := range []int{math.MinInt, -1, 0, v.Last(), v.Last() + 1, math.MaxInt} {
				d := begin(t, v, mode, at)
				if d.Mode() != mode || d.At() != v.Last() {
					t.Errorf("Begin(%d, %d) has %d, %d", mode, at, d.Mode(), d.At())
				}
				if len(d.Reads()) != 0 || len(d.Writes()) != 0 {
					t.Errorf("Begin(%d, %d) did something", mode, at)
				}
			}
		}
		if w != nil {
			write(t, v, w...)
		}
	}
}

// TestBeginNoMode: that there is no such mode is told first.
func TestBeginNoMode(t *testing.T) {
	v := filled(t)
	v.Clear(3)
	for _, mode := range noModes() {
		for _, at := range []int{math.MinInt, -1, 0, 3, 4, 5, math.MaxInt} {
			wantNoBegin(t, v, mode, at, api.ErrKind)
		}
	}
}

func TestBeginOutOfRange(t *testing.T) {
	v := filled(t)
	for range 2 {
		for _, at := range []int{math.MinInt, -1, 5, math.MaxInt} {
			unchanged(t, v, func() { wantNoBegin(t, v, api.MLook, at, api.ErrRange) })
		}
		// Below 0 all is forgotten, too, but that is told behind ErrRange.
		v.Clear(4)
	}
	empty := vault.New()
	wantNoBegin(t, empty, api.MLook, 1, api.ErrRange)
	wantNoBegin(t, empty, api.MLook, -1, api.ErrRange)
	begin(t, empty, api.MLook, 0)
}

// TestBeginOld: behind a clearing a look begins at First or above it, though
// some keys could be read further back; the other deeds always begin.
func TestBeginOld(t *testing.T) {
	for least := range 7 {
		v := filled(t)
		v.Clear(least)
		first := min(least, 4)
		if v.First() != first {
			t.Fatalf("cleared up to %d: First() = %d, want %d", least, v.First(), first)
		}
		for at := range 5 {
			if at < first {
				unchanged(t, v, func() { wantNoBegin(t, v, api.MLook, at, api.ErrOld) })
				continue
			}
			d := begin(t, v, api.MLook, at)
			if l, code := d.List(v.Table, 0, 7); !slices.Equal(l, filledLists()[at]) || code != 0 {
				t.Errorf("cleared up to %d, a look behind %d sees %#v, %d", least, at, l, code)
			}
		}
		begin(t, v, api.MShot, 0)
		begin(t, v, api.MSure, 0)
	}
}

func TestDeedsAreApart(t *testing.T) {
	v := filled(t)
	for _, mode := range []int{api.MShot, api.MSure} {
		one, other := begin(t, v, mode, 0), begin(t, v, mode, 0)
		unchanged(t, v, func() { putAll(t, one, pairs(pair(3, "mine"))) })
		if got, code := other.Get(v.Table, 3); got != has("B") || code != 0 {
			t.Errorf("the other deed sees %#v, %d", got, code)
		}
		if len(other.Writes()) != 0 || len(one.Reads()) != 0 {
			t.Errorf("what one does is the other one's: %#v, %v", other.Writes(), one.Reads())
		}
	}
}

func TestCommit(t *testing.T) {
	v := vault.New()
	var list [][]api.Pair
	for i, w := range append(filledCommits(), longest(), pairs(drop(7))) {
		mode := []int{api.MShot, api.MSure}[i%2]
		wantCommit(t, v, writer(t, v, mode, w...), i+1, 0)
		list = append(list, w)
		wantVault(t, v, list...)
	}
}

// TestCommitWhatItWroteLast: of what it wrote one behind the other only the
// last comes, and by the keys' numbers.
func TestCommitWhatItWroteLast(t *testing.T) {
	v := vault.New()
	d := writer(t, v, api.MSure, pair(5, "a"), pair(2, "b"), drop(5), pair(0, "c"), pair(2, "d"))
	wantCommit(t, v, d, 1, 0)
	wantVault(t, v, pairs(pair(0, "c"), pair(2, "d"), drop(5)))
}

// TestCommitOfNothing: a deed that wrote nothing is done, but makes no commit.
func TestCommitOfNothing(t *testing.T) {
	v := filled(t)
	for _, mode := range modes() {
		unchanged(t, v, func() {
			wantCommit(t, v, begin(t, v, mode, 4), 0, 0)
			wantCommit(t, v, reader(t, v, mode, 0, 1, 2, 7), 0, 0)
		})
	}
	refused := begin(t, v, api.MShot, 0)
	refused.Put(8, has("x"))
	refused.Put(1, has(letters(13)))
	refused.Put(1, api.Value{Bytes: "x"})
	look := begin(t, v, api.MLook, 4)
	look.Put(1, has("x"))
	unchanged(t, v, func() {
		wantCommit(t, v, refused, 0, 0)
		wantCommit(t, v, look, 0, 0)
	})
}

// TestLookIsAlwaysDone: whatever others write, a look sees what was, and it is
// done without a commit, by a Tear, too.
func TestLookIsAlwaysDone(t *testing.T) {
	for at, want := range filledLists() {
		v := filled(t)
		d := begin(t, v, api.MLook, at)
		for range 3 {
			write(t, v, longest()...)
			if l, code := d.List(v.Table, 0, 7); !slices.Equal(l, want) || code != 0 {
				t.Errorf("a look behind %d sees %#v, %d", at, l, code)
			}
			unchanged(t, v, func() { wantCommit(t, v, d, 0, 0) })
		}
		unchanged(t, v, func() { wantTear(t, v, d, 1, 0, 0) })
	}
}

// TestWritingWhatItHadIsACommit: a value that is no other one is written, too.
func TestWritingWhatItHadIsACommit(t *testing.T) {
	v := vault.New()
	write(t, v, pair(1, "a"))
	other := writer(t, v, api.MShot, pair(1, "b"))
	wantCommit(t, v, writer(t, v, api.MShot, pair(1, "a"), drop(2)), 2, 0)
	wantVault(t, v, pairs(pair(1, "a")), pairs(pair(1, "a"), drop(2)))
	wantCommit(t, v, other, 0, api.ErrClash)
}

func TestCommitClash(t *testing.T) {
	for _, mode := range []int{api.MShot, api.MSure} {
		v := vault.New()
		one, other := writer(t, v, mode, pair(1, "one"), pair(2, "x")), writer(t, v, mode, drop(0), drop(1))
		wantCommit(t, v, one, 1, 0)
		for range 2 {
			wantCommit(t, v, other, 0, api.ErrClash)
			wantVault(t, v, pairs(pair(1, "one"), pair(2, "x")))
		}
		// It wrote what it wrote: done once more, it is in its own way.
		wantCommit(t, v, one, 0, api.ErrClash)
		wantVault(t, v, pairs(pair(1, "one"), pair(2, "x")))
	}
}

func TestCommitStale(t *testing.T) {
	v := vault.New()
	sure, shot := reader(t, v, api.MSure, 1), reader(t, v, api.MShot, 1)
	putAll(t, sure, pairs(pair(2, "sure")))
	putAll(t, shot, pairs(pair(3, "shot")))
	write(t, v, pair(1, "x"))
	unchanged(t, v, func() { wantCommit(t, v, sure, 0, api.ErrStale) })
	wantCommit(t, v, shot, 2, 0)
	wantVault(t, v, pairs(pair(1, "x")), pairs(pair(3, "shot")))
	// A clash is told ahead of what is stale.
	putAll(t, sure, pairs(pair(3, "sure")))
	unchanged(t, v, func() { wantCommit(t, v, sure, 0, api.ErrClash) })
}

// TestCommitOfNothingStale: May's code is told of a sure deed that wrote
// nothing, too.
func TestCommitOfNothingStale(t *testing.T) {
	v := filled(t)
	v.Clear(2)
	d := reader(t, v, api.MSure, 1)
	write(t, v, drop(1))
	unchanged(t, v, func() { wantCommit(t, v, d, 0, api.ErrStale) })
	b := v.Log()
	wantTear(t, v, d, 9, 0, api.ErrStale)
	if !bytes.Equal(v.Log(), b) || v.Last() != 5 || v.First() != 0 {
		t.Errorf("commits %d to %d, log %v, want %v", v.First(), v.Last(), v.Log(), b)
	}
}

// TestTwoSeats is the document's example.
func TestTwoSeats(t *testing.T) {
	v := vault.New()
	one, other := begin(t, v, api.MSure, 0), begin(t, v, api.MSure, 0)
	putAll(t, one, pairs(pair(1, "one")))
	wantCommit(t, v, one, 1, 0)
	if got, code := other.Get(v.Table, 1); got != none || code != 0 {
		t.Errorf("the other one reads %#v, %d", got, code)
	}
	putAll(t, other, pairs(pair(2, "other")))
	wantCommit(t, v, other, 0, api.ErrStale)
}

// TestDeedIsNotChanged: what is handed in stays as it is, and what it does
// later is not in the vault.
func TestDeedIsNotChanged(t *testing.T) {
	for _, done := range []func(v *vault.Vault, d *deed.Deed) (int, int){
		(*vault.Vault).Commit,
		func(v *vault.Vault, d *deed.Deed) (int, int) { return v.Tear(d, 99) },
	} {
		v := filled(t)
		d := reader(t, v, api.MSure, 3, 7)
		putAll(t, d, pairs(pair(1, "mine"), drop(3)))
		if n, code := done(v, d); n != 5 || code != 0 {
			t.Fatalf("done: %d, %d, want 5, 0", n, code)
		}
		if d.Mode() != api.MSure || d.At() != 4 || !slices.Equal(d.Reads(), []int{3, 7}) || !slices.Equal(d.Writes(), pairs(pair(1, "mine"), drop(3))) {
			t.Errorf("the deed has %d, %d, %v, %#v by now", d.Mode(), d.At(), d.Reads(), d.Writes())
		}
		unchanged(t, v, func() { putAll(t, d, pairs(pair(1, "later"), pair(6, "later"))) })
	}
}

// full is a vault of as many commits as there can be.
func full(t *testing.T) (*vault.Vault, [][]api.Pair) {
	t.Helper()
	v := vault.New()
	list := slices.Repeat([][]api.Pair{{pair(2, "x")}}, api.MaxCommits)
	for _, w := range list {
		write(t, v, w...)
	}
	return v, list
}

// fullOfBytes is a vault of 29 commits, whose log has room for so many bytes
// more, at most eight.
func fullOfBytes(t *testing.T, room int) (*vault.Vault, [][]api.Pair) {
	t.Helper()
	v := vault.New()
	list := slices.Repeat([][]api.Pair{longest()}, 26)
	for _, n := range []int{10, 6, 8 - room} {
		list = append(list, pairs(pair(4, letters(n))))
	}
	for _, w := range list {
		write(t, v, w...)
	}
	if n := len(v.Log()); n != api.MaxBytes-room {
		t.Fatalf("%d bytes, want %d", n, api.MaxBytes-room)
	}
	return v, list
}

func TestCommitFull(t *testing.T) {
	v, list := full(t)
	for range 2 {
		for _, w := range append(filledCommits(), longest()) {
			unchanged(t, v, func() {
				wantCommit(t, v, writer(t, v, api.MShot, w...), 0, api.ErrFull)
				wantCommit(t, v, writer(t, v, api.MSure, w...), 0, api.ErrFull)
			})
		}
		// A clearing makes no room.
		v.Clear(40)
	}
	v.Crash()
	wantVault(t, v, list...)
	wantCommit(t, v, writer(t, v, api.MShot, drop(1)), 0, api.ErrFull)
}

// TestNothingIsDoneWhenFull: a deed that wrote nothing needs no room.
func TestNothingIsDoneWhenFull(t *testing.T) {
	byCommits, _ := full(t)
	byBytes, _ := fullOfBytes(t, 0)
	for _, v := range []*vault.Vault{byCommits, byBytes} {
		for _, mode := range modes() {
			unchanged(t, v, func() {
				wantCommit(t, v, reader(t, v, mode, 2, 3), 0, 0)
				wantTear(t, v, reader(t, v, mode, 2, 3), 1, 0, 0)
			})
		}
	}
}

// TestCommitFullOfBytes: what the log has no room for is not in the table.
func TestCommitFullOfBytes(t *testing.T) {
	for room := range 9 {
		for size := 4; size <= 9; size++ {
			v, list := fullOfBytes(t, room)
			w := pairs(pair(6, letters(size-4)))
			d := writer(t, v, api.MShot, w...)
			if size > room {
				unchanged(t, v, func() { wantCommit(t, v, d, 0, api.ErrFull) })
				wantVault(t, v, list...)
				continue
			}
			wantCommit(t, v, d, 30, 0)
			wantVault(t, v, append(list, w)...)
		}
	}
}

// TestMayAheadOfFull: May's code is told ahead of the log's.
func TestMayAheadOfFull(t *testing.T) {
	for _, c := range []struct{ mode, read, written, code int }{
		{api.MShot, 3, 2, api.ErrClash},
		{api.MSure, 2, 2, api.ErrClash},
		{api.MSure, 2, 3, api.ErrStale},
		{api.MShot, 2, 3, api.ErrFull},
		{api.MSure, 3, 3, api.ErrFull},
	} {
		v := vault.New()
		for range api.MaxCommits - 1 {
			write(t, v, pair(2, "x"))
		}
		d := reader(t, v, c.mode, c.read)
		putAll(t, d, pairs(drop(c.written)))
		write(t, v, pair(2, "x"))
		unchanged(t, v, func() { wantCommit(t, v, d, 0, c.code) })
		unchanged(t, v, func() { wantTear(t, v, d, 1, 0, c.code) })
	}
}

// TestTear tears every commit behind every other one, at every byte: then
// either all of it is there, or nothing.
func TestTear(t *testing.T) {
	all := append(filledCommits(), longest(), pairs(drop(5)), pairs(pair(2, "\x04\x01\x02\xff")))
	for _, first := range all {
		for i, w := range all {
			size := len(encode(w))
			keeps := []int{math.MinInt, math.MaxInt}
			for keep := -2; keep <= size+2; keep++ {
				keeps = append(keeps, keep)
			}
			for _, keep := range keeps {
				v := vault.New()
				write(t, v, first...)
				v.Clear(1)
				d := writer(t, v, []int{api.MShot, api.MSure}[i%2], w...)
				if keep < size {
					wantTear(t, v, d, keep, 0, 0)
					wantVault(t, v, first)
				} else {
					wantTear(t, v, d, keep, 2, 0)
					wantVault(t, v, first, w)
				}
			}
		}
	}
}

func TestTearFirst(t *testing.T) {
	v := vault.New()
	wantTear(t, v, writer(t, v, api.MShot, drop(6)), 3, 0, 0)
	wantVault(t, v)
	wantTear(t, v, writer(t, v, api.MShot, drop(6)), 4, 1, 0)
	wantVault(t, v, pairs(drop(6)))
	if !bytes.Equal(v.Log(), []byte{4, 1, 6, 255}) {
		t.Errorf("Log() = %v", v.Log())
	}
}

// TestGoOnBehindTear: a commit behind a torn one has the number that it would
// have had, and is in the log behind those ahead of it.
func TestGoOnBehindTear(t *testing.T) {
	v := vault.New()
	var list [][]api.Pair
	for i, w := range filledCommits() {
		for _, keep := range []int{0, 1, 5} {
			wantTear(t, v, writer(t, v, api.MShot, longest()...), keep, 0, 0)
			wantVault(t, v, list...)
		}
		wantCommit(t, v, writer(t, v, api.MSure, w...), i+1, 0)
		list = append(list, w)
		wantVault(t, v, list...)
	}
}

// TestTearCrashes: whatever a Tear tells, a crash came: what was forgotten is
// known again.
func TestTearCrashes(t *testing.T) {
	for _, c := range []struct {
		name          string
		mode          int
		w             []api.Pair
		keep, n, code int
	}{
		{"nothing, a shot", api.MShot, nil, 9, 0, 0},
		{"nothing, a look", api.MLook, nil, 9, 0, 0},
		{"nothing, stale", api.MSure, nil, 9, 0, api.ErrStale},
		{"stale", api.MSure, pairs(drop(2)), 9, 0, api.ErrStale},
		{"a clash", api.MShot, pairs(drop(1)), 9, 0, api.ErrClash},
		{"a clash, of which nothing is kept", api.MShot, pairs(drop(1)), 0, 0, api.ErrClash},
		{"torn", api.MShot, pairs(drop(2)), 3, 0, 0},
		{"nothing kept", api.MShot, pairs(drop(2)), 0, 0, 0},
		{"whole", api.MShot, pairs(drop(2)), 4, 6, 0},
	} {
		t.Run(c.name, func(t *testing.T) {
			v, list := filled(t), append(filledCommits(), pairs(drop(1)))
			d := reader(t, v, c.mode, 1)
			putAll(t, d, c.w)
			write(t, v, drop(1))
			v.Clear(5)
			if v.First() != 5 {
				t.Fatalf("First() = %d, want 5", v.First())
			}
			wantTear(t, v, d, c.keep, c.n, c.code)
			if c.n != 0 {
				list = append(list, c.w)
			}
			wantVault(t, v, list...)
		})
	}
}

// TestTearFull: what would not fit whole has the log's code, whatever is kept
// of it; then a crash comes.
func TestTearFull(t *testing.T) {
	byCommits, commits := full(t)
	byBytes, fewer := fullOfBytes(t, 3)
	for _, keep := range []int{math.MinInt, -1, 0, 1, 3, 4, math.MaxInt} {
		byCommits.Clear(40)
		wantTear(t, byCommits, writer(t, byCommits, api.MShot, drop(1)), keep, 0, api.ErrFull)
		wantVault(t, byCommits, commits...)
		byBytes.Clear(29)
		wantTear(t, byBytes, writer(t, byBytes, api.MSure, drop(1)), keep, 0, api.ErrFull)
		wantVault(t, byBytes, fewer...)
	}
}

// TestTearToTheLast: the last commit that there can be may come by a Tear.
func TestTearToTheLast(t *testing.T) {
	v := vault.New()
	for range api.MaxCommits - 1 {
		write(t, v, drop(1))
	}
	wantTear(t, v, writer(t, v, api.MShot, drop(1)), 3, 0, 0)
	wantTear(t, v, writer(t, v, api.MShot, drop(1)), 4, 40, 0)
	wantTear(t, v, writer(t, v, api.MShot, drop(1)), 4, 0, api.ErrFull)
	wantVault(t, v, slices.Repeat([][]api.Pair{{drop(1)}}, 40)...)
}

// TestCrash: as many commits, and each key has behind each of them what it had;
// to crash again changes nothing.
func TestCrash(t *testing.T) {
	for least := range 6 {
		v := filled(t)
		v.Clear(least)
		b := v.Log()
		for range 3 {
			v.Crash()
			wantVault(t, v, filledCommits()...)
			if !bytes.Equal(v.Log(), b) {
				t.Errorf("Log() = %v, want %v", v.Log(), b)
			}
		}
	}
}

// TestCrashLosesWhatWasNotDone: what a deed only wrote is nowhere.
func TestCrashLosesWhatWasNotDone(t *testing.T) {
	v := filled(t)
	writer(t, v, api.MShot, pair(1, "lost"), pair(6, "lost"))
	v.Crash()
	wantVault(t, v, filledCommits()...)
}

// TestGoOnBehindCrash: numbers go on behind those of the log, and what was
// written ahead of the crash is in the way of nobody who began behind it.
func TestGoOnBehindCrash(t *testing.T) {
	v := filled(t)
	v.Crash()
	d := reader(t, v, api.MSure, 0, 1, 3)
	putAll(t, d, pairs(pair(1, "new")))
	wantCommit(t, v, d, 5, 0)
	v.Crash()
	wantVault(t, v, append(filledCommits(), pairs(pair(1, "new")))...)
}

// TestClearing is the document's example: behind a clearing up to commit 2
// nobody can begin to look behind commit 1; behind a crash one can.
func TestClearing(t *testing.T) {
	v := vault.New()
	write(t, v, pair(1, "a"))
	write(t, v, pair(1, "b"))
	if n := v.Clear(2); n != 2 {
		t.Errorf("Clear(2) = %d, want 2", n)
	}
	wantNoBegin(t, v, api.MLook, 1, api.ErrOld)
	v.Crash()
	d := begin(t, v, api.MLook, 1)
	if got, code := d.Get(v.Table, 1); got != has("a") || code != 0 {
		t.Errorf("a look behind 1 sees %#v, %d", got, code)
	}
}

// TestClearIsInNobodysWay: a clearing forgets, but a deed that began ahead of
// it is done.
func TestClearIsInNobodysWay(t *testing.T) {
	v := filled(t)
	d := reader(t, v, api.MSure, 2, 7)
	putAll(t, d, pairs(pair(2, "mine")))
	write(t, v, drop(1))
	v.Clear(5)
	wantCommit(t, v, d, 6, 0)
	v.Crash()
	wantVault(t, v, append(filledCommits(), pairs(drop(1)), pairs(pair(2, "mine")))...)
}

func TestLogIsNewMemory(t *testing.T) {
	v := vault.New()
	write(t, v, pair(1, "a"))
	want := []byte{5, 1, 1, 1, 'a'}
	first, second := v.Log(), v.Log()
	clear(first[:cap(first)])
	if !bytes.Equal(second, want) {
		t.Errorf("two answers share memory: %v", second)
	}
	_ = append(second, 9, 9)
	write(t, v, drop(2))
	if !bytes.Equal(second, want) {
		t.Errorf("an answer changed: %v", second)
	}
	v.Crash()
	wantVault(t, v, pairs(pair(1, "a")), pairs(drop(2)))
}

func TestVaultsAreApart(t *testing.T) {
	one, other := filled(t), filled(t)
	write(t, one, drop(3))
	one.Clear(5)
	wantVault(t, other, filledCommits()...)
	other.Crash()
	if one.First() != 5 || one.Last() != 5 || other.Last() != 4 {
		t.Errorf("commits %d to %d, and %d", one.First(), one.Last(), other.Last())
	}
}

// TestNoPanic: nothing is promised of a deed of ahead of a crash, but that no
// call panics; nor does any with wild numbers.
func TestNoPanic(t *testing.T) {
	wild := []int{math.MinInt, -1, 0, 1, 2, 3, 4, 40, 41, math.MaxInt}
	v := filled(t)
	old := writer(t, v, api.MSure, pair(1, "old"))
	old.Get(v.Table, 3)
	for _, i := range wild {
		for _, j := range wild {
			v.Begin(i, j)
			v.Clear(i)
			v.Tear(old, j)
			v.Crash()
			v.Commit(old)
			v.Log()
			v.Read(i, j)
		}
	}
}
