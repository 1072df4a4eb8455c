package codec_test

import (
	"bytes"
	"math"
	"slices"
	"strings"
	"testing"

	"vaultage/api"
	"vaultage/codec"
)

func has(s string) api.Value { return api.Value{There: true, Bytes: s} }

func pair(k int, s string) api.Pair { return api.Pair{Key: k, V: has(s)} }

func drop(k int) api.Pair { return api.Pair{Key: k} }

func pairs(p ...api.Pair) []api.Pair { return p }

// letters is a text of that many bytes.
func letters(n int) string { return strings.Repeat("x", n) }

// row is bytes, those of a text behind them.
func row(s string, b ...byte) []byte { return append(b, s...) }

func wantEncode(t *testing.T, w []api.Pair, b []byte, code int) {
	t.Helper()
	gotB, gotCode := codec.Encode(w)
	if !bytes.Equal(gotB, b) || gotCode != code {
		t.Errorf("Encode(%#v) = %v, %d, want %v, %d", w, gotB, gotCode, b, code)
	}
}

func wantDecode(t *testing.T, b []byte, w []api.Pair, size, code int) {
	t.Helper()
	gotW, gotSize, gotCode := codec.Decode(b)
	if !slices.Equal(gotW, w) || gotSize != size || gotCode != code {
		t.Errorf("Decode(%v) = %#v, %d, %d, want %#v, %d, %d", b, gotW, gotSize, gotCode, w, size, code)
	}
}

// wantNoCommit: with a code nothing else is told.
func wantNoCommit(t *testing.T, b []byte, code int) {
	t.Helper()
	wantDecode(t, b, nil, 0, code)
}

type commit struct {
	name string
	w    []api.Pair
	b    []byte
}

func commits() []commit {
	return []commit{
		{"no pairs", nil, []byte{2, 0}},
		{"no pairs, an empty list", pairs(), []byte{2, 0}},
		{"no value", pairs(drop(5)), []byte{4, 1, 5, 255}},
		{"a value without bytes", pairs(pair(5, "")), []byte{4, 1, 5, 0}},
		{"a value", pairs(pair(0, "abc")), row("abc", 7, 1, 0, 3)},
		{"the longest value", pairs(pair(7, letters(12))), row(letters(12), 16, 1, 7, 12)},
		{"bytes of all kinds", pairs(pair(2, "\x00\n\xff\xfe\\")), []byte{9, 1, 2, 5, 0, 10, 255, 254, 92}},
		{"bytes like a pair", pairs(pair(2, "\x03\xff")), []byte{6, 1, 2, 2, 3, 255}},
		{"several", pairs(pair(1, "ab"), drop(3), pair(7, "")), []byte{10, 3, 1, 2, 'a', 'b', 3, 255, 7, 0}},
		{"all without values", allKeys(api.Value{}), []byte{18, 8, 0, 255, 1, 255, 2, 255, 3, 255, 4, 255, 5, 255, 6, 255, 7, 255}},
		{"the longest", allKeys(has(letters(12))), longest()},
	}
}

// allKeys gives every key that value.
func allKeys(v api.Value) []api.Pair {
	var w []api.Pair
	for k := range api.MaxKeys {
		w = append(w, api.Pair{Key: k, V: v})
	}
	return w
}

func longest() []byte {
	b := []byte{114, 8}
	for k := range byte(8) {
		b = append(b, row(letters(12), k, 12)...)
	}
	return b
}

func TestEncode(t *testing.T) {
	for _, c := range commits() {
		t.Run(c.name, func(t *testing.T) { wantEncode(t, c.w, c.b, 0) })
	}
}

func TestEncodeOfNoCommit(t *testing.T) {
	bad := api.Value{Bytes: "x"}
	long := has(letters(13))
	for _, c := range []struct {
		name string
		w    []api.Pair
		code int
	}{
		{"a key below all", pairs(drop(-1)), api.ErrRange},
		{"a key above all", pairs(drop(8)), api.ErrRange},
		{"a key that would be 0 as a byte", pairs(drop(256)), api.ErrRange},
		{"the lowest number", pairs(drop(math.MinInt)), api.ErrRange},
		{"the greatest number", pairs(drop(math.MaxInt)), api.ErrRange},
		{"no key behind a key", pairs(pair(1, "a"), pair(8, "b")), api.ErrRange},
		{"twice the same key", pairs(pair(1, "a"), pair(1, "a")), api.ErrOrder},
		{"a lower key", pairs(pair(1, "a"), pair(0, "a")), api.ErrOrder},
		{"too long", pairs(api.Pair{Key: 1, V: long}), api.ErrLong},
		{"as long as 255 says", pairs(pair(1, letters(255))), api.ErrLong},
		{"a length that would be 0 as a byte", pairs(pair(1, letters(256))), api.ErrLong},
		{"too long, and not there", pairs(api.Pair{Key: 1, V: api.Value{Bytes: letters(13)}}), api.ErrLong},
		{"bytes of no value", pairs(api.Pair{Key: 1, V: bad}), api.ErrForm},
		{"the first pair's is told", pairs(api.Pair{Key: 1, V: bad}, drop(9)), api.ErrForm},
		{"of one pair the key's is told", pairs(api.Pair{Key: 8, V: long}), api.ErrRange},
		{"of one pair the order's ahead of the value's", pairs(drop(1), api.Pair{Key: 1, V: long}), api.ErrOrder},
		{"more pairs than a byte says", make([]api.Pair, 256), api.ErrOrder},
	} {
		t.Run(c.name, func(t *testing.T) { wantEncode(t, c.w, nil, c.code) })
	}
}

func TestDecode(t *testing.T) {
	for _, c := range commits() {
		t.Run(c.name, func(t *testing.T) { wantDecode(t, c.b, c.w, len(c.b), 0) })
	}
}

// TestDecodeShort: ErrShort is told ahead of all else.
func TestDecodeShort(t *testing.T) {
	for _, b := range [][]byte{
		nil,
		{},
		{2},
		{255},
		{3, 0},
		{3, 9},
		{4, 1, 0},
		{4, 1, 9},
		{6, 1, 9, 255, 0},
		row(letters(250), 255, 1, 0, 251),
	} {
		wantNoCommit(t, b, api.ErrShort)
	}
}

// TestDecodeForm: the bytes that the first one counts are not just its pairs.
func TestDecodeForm(t *testing.T) {
	for _, c := range []struct {
		name string
		b    []byte
	}{
		{"the first byte is 0", []byte{0}},
		{"the first byte is 0, a commit behind it", []byte{0, 2, 0}},
		{"the first byte is 1", []byte{1}},
		{"the first byte is 1, a count behind it", []byte{1, 0}},
		{"a byte too many, no pairs", []byte{3, 0, 0}},
		{"a pair too many, no pairs", []byte{4, 0, 1, 255}},
		{"a byte too many behind no value", []byte{5, 1, 1, 255, 0}},
		{"a byte too many behind a value", []byte{6, 1, 1, 1, 'a', 'b'}},
		{"a pair too many", []byte{6, 1, 1, 255, 2, 255}},
		{"no pair", []byte{2, 1}},
		{"a pair too few", []byte{4, 2, 1, 255}},
		{"many pairs too few", []byte{4, 255, 1, 255}},
		{"a key alone", []byte{3, 1, 0}},
		{"a second key alone", []byte{5, 2, 0, 255, 1}},
		{"a value without its bytes", []byte{4, 1, 0, 1}},
		{"a value without its last byte", []byte{6, 1, 0, 3, 'a', 'b'}},
		{"a value whose bytes stand behind the end", []byte{4, 1, 0, 1, 'a'}},
		{"a length that stands behind the end", []byte{3, 1, 0, 255}},
		{"254 bytes, which can't be there", row(letters(251), 255, 1, 0, 254)},
		{"252 bytes, one more than can be there", row(letters(251), 255, 1, 0, 252)},
		{"a byte too many ahead of the key's fault", []byte{5, 1, 9, 255, 0}},
		{"too short ahead of the key's fault", []byte{6, 2, 9, 255, 1, 1}},
		{"too short ahead of the order's fault", []byte{6, 2, 1, 255, 1, 1}},
		{"too short ahead of the length's fault", []byte{5, 1, 1, 13, 'a'}},
	} {
		t.Run(c.name, func(t *testing.T) { wantNoCommit(t, c.b, api.ErrForm) })
	}
}

// TestDecodeChecks: the form is well, but table.Check has a code.
func TestDecodeChecks(t *testing.T) {
	for _, c := range []struct {
		name string
		b    []byte
		code int
	}{
		{"no such key", []byte{4, 1, 8, 255}, api.ErrRange},
		{"the greatest byte as a key", []byte{4, 1, 255, 255}, api.ErrRange},
		{"twice the same key", []byte{6, 2, 1, 255, 1, 255}, api.ErrOrder},
		{"a lower key", []byte{6, 2, 1, 0, 0, 0}, api.ErrOrder},
		{"a byte too long", row(letters(13), 17, 1, 0, 13), api.ErrLong},
		{"as long as can be there", row(letters(251), 255, 1, 0, 251), api.ErrLong},
		{"the first pair's is told", append(row(letters(13), 19, 2, 0, 13), 9, 255), api.ErrLong},
		{"the key's is told", row(letters(13), 17, 1, 8, 13), api.ErrRange},
		{"the order's is told", row(letters(13), 19, 2, 1, 255, 1, 13), api.ErrOrder},
		{"nine pairs, one of no key", rising(9), api.ErrRange},
		{"as many pairs as can be there", rising(126), api.ErrRange},
		{"as many of one key as can be there", append([]byte{254, 126}, make([]byte, 252)...), api.ErrOrder},
	} {
		t.Run(c.name, func(t *testing.T) { wantNoCommit(t, c.b, c.code) })
	}
}

// rising is that many keys from 0 on, without values.
func rising(count byte) []byte {
	b := []byte{2 + 2*count, count}
	for k := range count {
		b = append(b, k, 255)
	}
	return b
}

// TestWhateverIsBehind: the bytes of a commit, with whatever behind them, are
// decoded as it.
func TestWhateverIsBehind(t *testing.T) {
	for _, c := range commits() {
		for x := range 256 {
			wantDecode(t, append(slices.Clone(c.b), byte(x)), c.w, len(c.b), 0)
		}
		for _, other := range commits() {
			wantDecode(t, slices.Concat(c.b, other.b), c.w, len(c.b), 0)
		}
		wantDecode(t, append(slices.Clone(c.b), make([]byte, 5000)...), c.w, len(c.b), 0)
	}
}

// TestCutIsShort: the bytes of a commit without some at their end are too
// short, whatever else lies in their memory.
func TestCutIsShort(t *testing.T) {
	for _, c := range commits() {
		for cut := range c.b {
			wantNoCommit(t, c.b[:cut], api.ErrShort)
			wantNoCommit(t, slices.Clone(c.b[:cut]), api.ErrShort)
		}
	}
}

func TestFirstByteIsSize(t *testing.T) {
	for _, c := range commits() {
		b, _ := codec.Encode(c.w)
		if int(b[0]) != len(b) {
			t.Errorf("%s: %d bytes, the first one is %d", c.name, len(b), b[0])
		}
	}
}

func TestEncodeIsNewMemory(t *testing.T) {
	all := pairs(pair(1, "ab"), drop(3), pair(9, "x"))
	w := all[:2]
	want := []byte{8, 2, 1, 2, 'a', 'b', 3, 255}
	first, _ := codec.Encode(w)
	second, _ := codec.Encode(w)
	clear(first[:cap(first)])
	if !bytes.Equal(second, want) {
		t.Errorf("two answers share memory: %v", second)
	}
	wantEncode(t, w, want, 0)
	if !slices.Equal(all, pairs(pair(1, "ab"), drop(3), pair(9, "x"))) {
		t.Errorf("what was handed in is changed: %#v", all)
	}
	w[0] = pair(2, "zz")
	if !bytes.Equal(second, want) {
		t.Errorf("an answer hangs on what was handed in: %v", second)
	}
}

func TestDecodeIsNewMemory(t *testing.T) {
	b := []byte{8, 2, 1, 2, 'a', 'b', 3, 255, 77}
	want := pairs(pair(1, "ab"), drop(3))
	first, _, _ := codec.Decode(b[:8])
	second, _, _ := codec.Decode(b[:8])
	clear(first[:cap(first)])
	if !slices.Equal(second, want) {
		t.Errorf("two answers share memory: %#v", second)
	}
	if !bytes.Equal(b, []byte{8, 2, 1, 2, 'a', 'b', 3, 255, 77}) {
		t.Errorf("what was handed in is changed: %v", b)
	}
	clear(b)
	if !slices.Equal(second, want) {
		t.Errorf("an answer hangs on what was handed in: %#v", second)
	}
}
