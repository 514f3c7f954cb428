package compact_test

import (
	"bytes"
	"slices"
	"testing"

	"althing/compact"
)

// ways is numbers at the edges of each way to write one, and their bytes.
var ways = []struct {
	n int
	b []byte
}{
	{0, []byte{0}},
	{1, []byte{4}},
	{63, []byte{252}},
	{64, []byte{1, 1}},
	{69, []byte{0x15, 1}},
	{255, []byte{0xfd, 3}},
	{1<<14 - 1, []byte{0xfd, 0xff}},
	{1 << 14, []byte{2, 0, 1, 0}},
	{1<<30 - 1, []byte{0xfe, 0xff, 0xff, 0xff}},
	{1 << 30, []byte{3, 0, 0, 0, 0x40}},
	{1<<32 - 1, []byte{3, 0xff, 0xff, 0xff, 0xff}},
	{1 << 32, []byte{7, 0, 0, 0, 0, 1}},
	{1<<40 - 1, []byte{7, 0xff, 0xff, 0xff, 0xff, 0xff}},
	{1 << 40, []byte{11, 0, 0, 0, 0, 0, 1}},
	{1<<48 - 1, []byte{11, 0xff, 0xff, 0xff, 0xff, 0xff, 0xff}},
	{1 << 48, []byte{15, 0, 0, 0, 0, 0, 0, 1}},
	{1<<56 - 1, []byte{15, 0xff, 0xff, 0xff, 0xff, 0xff, 0xff, 0xff}},
	{1 << 56, []byte{19, 0, 0, 0, 0, 0, 0, 0, 1}},
	{0x0102030405060708, []byte{19, 8, 7, 6, 5, 4, 3, 2, 1}},
	{1<<62 - 1, []byte{19, 0xff, 0xff, 0xff, 0xff, 0xff, 0xff, 0xff, 0x3f}},
	{1 << 62, []byte{19, 0, 0, 0, 0, 0, 0, 0, 0x40}},
}

func TestP11EachWayToWriteANumber(t *testing.T) {
	for _, w := range ways {
		if b := compact.Put(nil, w.n); !bytes.Equal(b, w.b) {
			t.Errorf("Put(%d) = %x, want %x", w.n, b, w.b)
		}
		if size := compact.Size(w.n); size != len(w.b) {
			t.Errorf("Size(%d) = %d, want %d", w.n, size, len(w.b))
		}
		for _, behind := range [][]byte{nil, {0}, {0xff, 0xff}} {
			n, size, ok := compact.Take(slices.Concat(w.b, behind))
			if n != w.n || size != len(w.b) || !ok {
				t.Errorf("Take(%x, then %x) = %d, %d, %v", w.b, behind, n, size, ok)
			}
		}
	}
}

func TestP11NumbersBeyondTheBounds(t *testing.T) {
	for _, n := range []int{-1, -64, -1 << 63} {
		if b := compact.Put(nil, n); !bytes.Equal(b, []byte{0}) || compact.Size(n) != 1 {
			t.Errorf("%d: %x, size %d: it counts as 0", n, b, compact.Size(n))
		}
	}
	want := []byte{19, 0, 0, 0, 0, 0, 0, 0, 0x40}
	for _, n := range []int{1<<62 + 1, 1<<63 - 1} {
		if b := compact.Put(nil, n); !bytes.Equal(b, want) || compact.Size(n) != 9 {
			t.Errorf("%d: %x, size %d: it counts as 2^62", n, b, compact.Size(n))
		}
	}
}

func TestP11PutLaysAllBehindWhatIsThere(t *testing.T) {
	if b := compact.Put([]byte{9, 9}, 1, 69, 0); !bytes.Equal(b, []byte{9, 9, 4, 0x15, 1, 0}) {
		t.Errorf("%x", b)
	}
	if b := compact.Put([]byte{9}); !bytes.Equal(b, []byte{9}) {
		t.Errorf("no number: %x", b)
	}
	if b := compact.Put(nil); len(b) != 0 {
		t.Errorf("nothing: %x", b)
	}
}

func TestP11TakeRefusesWhatIsNotWhole(t *testing.T) {
	for _, w := range ways {
		for k := range w.b {
			if n, size, ok := compact.Take(w.b[:k]); n != 0 || size != 0 || ok {
				t.Errorf("Take(%x) = %d, %d, %v", w.b[:k], n, size, ok)
			}
		}
	}
}

func TestP13TakeRefusesLongerWays(t *testing.T) {
	for _, b := range [][]byte{
		{1, 0}, {0xfd, 0}, // at most 63, in two bytes
		{2, 0, 0, 0}, {6, 0, 0, 0}, {0xfe, 0xff, 0, 0}, // less than 2^14, in four
		{3, 0, 0, 0, 0}, {3, 0xff, 0xff, 0xff, 0x3f}, // less than 2^30, in five
		{7, 0, 0, 0, 0x40, 0}, {7, 0xff, 0xff, 0xff, 0xff, 0}, // a byte too many
		{11, 0, 0, 0, 0, 1, 0}, {15, 0, 0, 0, 0, 0, 1, 0}, {19, 1, 1, 1, 1, 1, 1, 1, 0},
		{19, 1, 0, 0, 0, 0, 0, 0, 0x40}, {19, 0, 0, 0, 0, 0, 0, 0, 0x80}, // above 2^62
		{19, 0xff, 0xff, 0xff, 0xff, 0xff, 0xff, 0xff, 0xff},
		{23, 0, 0, 0, 0, 0, 0, 0, 0x40, 0}, {23, 1, 1, 1, 1, 1, 1, 1, 1, 1}, // nine bytes and more
		{0xff, 1, 1, 1, 1, 1, 1, 1, 1, 1, 1},
	} {
		if n, size, ok := compact.Take(b); n != 0 || size != 0 || ok {
			t.Errorf("Take(%x) = %d, %d, %v", b, n, size, ok)
		}
	}
}

func TestP13WhatIsTakenIsWhatWasPut(t *testing.T) {
	for first := range 256 {
		for _, last := range []byte{0, 1, 0x3f, 0x40, 0x41, 0xff} {
			b := []byte{byte(first), 5, 0, 7, 0, 0, 0, last, last}
			for k := range len(b) + 1 {
				n, size, ok := compact.Take(b[:k])
				if ok && !bytes.Equal(compact.Put(nil, n), b[:size]) {
					t.Errorf("Take(%x) = %d, which is put as %x", b[:k], n, compact.Put(nil, n))
				}
			}
		}
	}
	for shift := range 63 {
		for _, d := range []int{-1, 0, 1} {
			n := min(1<<shift+d, 1<<62)
			if got, size, ok := compact.Take(compact.Put(nil, n)); got != n || size != compact.Size(n) || !ok {
				t.Errorf("%d is taken as %d, %d, %v", n, got, size, ok)
			}
		}
	}
}

func TestP12RowsAreLaid(t *testing.T) {
	b := compact.Row([]byte("x"), []byte("ab"), nil, []byte{})
	if !bytes.Equal(b, []byte{'x', 8, 'a', 'b', 0, 0}) {
		t.Errorf("%x", b)
	}
	long := bytes.Repeat([]byte{7}, 64)
	if b := compact.Row(nil, long); !bytes.Equal(b, append([]byte{1, 1}, long...)) {
		t.Errorf("%x", b)
	}
	if b := compact.Row([]byte("x")); string(b) != "x" {
		t.Errorf("no row: %x", b)
	}
	if b := compact.Row(nil); len(b) != 0 {
		t.Errorf("nothing: %x", b)
	}
}

func TestP12CutTakesTheFirstRow(t *testing.T) {
	for _, n := range []int{0, 1, 63, 64, 1 << 14} {
		row := bytes.Repeat([]byte{'r'}, n)
		p, size, ok := compact.Cut(append(compact.Row(nil, row), "behind"...))
		if !bytes.Equal(p, row) || size != n+compact.Size(n) || !ok {
			t.Errorf("a row of %d: %d bytes, size %d, %v", n, len(p), size, ok)
		}
	}
	for _, b := range [][]byte{
		nil, {}, {4}, {8, 'a'}, {1}, {1, 0, 'a'}, {1, 1, 'a'}, {23, 1, 1, 1, 1, 1, 1, 1, 1, 1},
		{19, 0, 0, 0, 0, 0, 0, 0, 0x40, 'a'}, {19, 0xff, 0xff, 0xff, 0xff, 0xff, 0xff, 0xff, 0x3f, 'a'},
	} {
		if p, size, ok := compact.Cut(b); len(p) != 0 || size != 0 || ok {
			t.Errorf("Cut(%x) = %x, %d, %v", b, p, size, ok)
		}
	}
}

func TestP12NumsTellsAllUpToTheFirstThatIsNone(t *testing.T) {
	want := []int{5, 1000, 0, 1 << 40}
	whole := compact.Put(nil, want...)
	for _, behind := range [][]byte{nil, {1}, {1, 0, 4}, {23, 4}} {
		var got []int
		for i, n := range compact.Nums(slices.Concat(whole, behind)) {
			if i != len(got) {
				t.Errorf("place %d, want %d", i, len(got))
			}
			got = append(got, n)
		}
		if !slices.Equal(got, want) {
			t.Errorf("then %x: %v", behind, got)
		}
	}
	for i, n := range compact.Nums(nil) {
		t.Error("nothing has numbers:", i, n)
	}
}

func TestP12RowsTellsAllUpToTheFirstThatIsNone(t *testing.T) {
	whole := compact.Row(nil, []byte("ab"), nil, []byte("q"))
	for _, behind := range [][]byte{nil, {4}, {8, 'r'}, {1, 0}} {
		var got []string
		for i, p := range compact.Rows(slices.Concat(whole, behind)) {
			if i != len(got) {
				t.Errorf("place %d, want %d", i, len(got))
			}
			got = append(got, string(p))
		}
		if !slices.Equal(got, []string{"ab", "", "q"}) {
			t.Errorf("then %x: %q", behind, got)
		}
	}
	for i, p := range compact.Rows(nil) {
		t.Error("nothing has rows:", i, p)
	}
}

func TestP13RangingEndsWhereItIsStopped(t *testing.T) {
	nums, rows := compact.Nums([]byte{0, 4, 8}), compact.Rows([]byte{0, 4, 1, 0})
	for range 2 { // the second time all begins anew
		last := -1
		for i := range nums {
			last = i
			if i == 1 {
				break
			}
		}
		if last != 1 {
			t.Error("Nums:", last)
		}
		last = -1
		for i := range rows {
			last = i
			if i == 1 {
				break
			}
		}
		if last != 1 {
			t.Error("Rows:", last)
		}
	}
}

func TestP13ArgumentsAreNotWritten(t *testing.T) {
	room := []byte("abcdef")
	compact.Put(room[:2], 1, 2)
	compact.Row(room[:2], []byte("q"))
	if string(room) != "abcdef" {
		t.Errorf("the spare room is written: %q", room)
	}
	one := []byte("ab")
	if b := compact.Put(one); &b[0] == &one[0] {
		t.Error("Put answers what was handed in")
	}
	if b := compact.Row(one); &b[0] == &one[0] {
		t.Error("Row answers what was handed in")
	}
}

func TestP13AnswersAreNewMemory(t *testing.T) {
	b := compact.Row(nil, []byte("ab"), []byte("cd"))
	was := bytes.Clone(b)
	p, _, _ := compact.Cut(b)
	scribble(p)
	rows := compact.Rows(b)
	for range 2 {
		at := 0
		for i, p := range rows {
			if want := []string{"ab", "cd"}[i]; string(p) != want {
				t.Errorf("row %d is %q, want %q", i, p, want)
			}
			scribble(p)
			at++
		}
		if at != 2 {
			t.Error(at, "rows")
		}
	}
	if !bytes.Equal(b, was) {
		t.Errorf("what was handed in is written through an answer: %q", b)
	}
}

func TestP13WhatIsHandedInIsNotKept(t *testing.T) {
	b := []byte{4, 'a', 4, 'b'}
	nums, rows := compact.Nums(b), compact.Rows(b)
	clear(b)
	for i, n := range nums {
		if i == 0 && n != 1 {
			t.Error("Nums keeps the bytes:", n)
		}
	}
	for i, p := range rows {
		if i == 0 && string(p) != "a" {
			t.Errorf("Rows keeps the bytes: %q", p)
		}
	}
}

// scribble writes over all of p, its spare room too.
func scribble(p []byte) {
	for i := range p[:cap(p)] {
		p[:cap(p)][i] = 'z'
	}
}
