package ledger_test

import (
	"slices"
	"testing"

	"althing/api"
	"althing/ledger"
)

const top = api.MaxBal

// start is a ledger of some balances; the test ends if there is none.
func start(t *testing.T, free ...int) *ledger.Ledger {
	t.Helper()
	l, err := ledger.New(free)
	if err != api.OK || l == nil {
		t.Fatalf("New(%v): %v", free, err)
	}
	return l
}

// told is the ids and locks of an account.
func told(l *ledger.Ledger, a int) []int {
	var out []int
	for id, n := range l.Locks(a) {
		out = append(out, id, n)
	}
	return out
}

// state is all that a ledger tells.
func state(l *ledger.Ledger) []int {
	out := []int{l.Issued()}
	for a := range api.MaxAcc {
		out = append(out, l.Free(a), l.Held(a), l.Locked(a))
		out = append(out, told(l, a)...)
	}
	return out
}

// want checks what an account has.
func want(t *testing.T, l *ledger.Ledger, a, free, held int) {
	t.Helper()
	if l.Free(a) != free || l.Held(a) != held {
		t.Errorf("account %d: free %d, held %d; want %d, %d", a, l.Free(a), l.Held(a), free, held)
	}
}

func TestP61New(t *testing.T) {
	for _, free := range [][]int{nil, {}, {0}, {top}, {1, 2, 3}, {top - 1, 1}, {1, 2, 3, 4, 5, 6, 7, 8, 9, 10}, {0, 0, 0, 0, 0, 0, 0, 0, 0, top}} {
		l := start(t, free...)
		sum := 0
		for a := range api.MaxAcc {
			n := 0
			if a < len(free) {
				n = free[a]
			}
			sum += n
			want(t, l, a, n, 0)
			if l.Locked(a) != 0 || told(l, a) != nil {
				t.Errorf("account %d has locks", a)
			}
		}
		if l.Issued() != sum {
			t.Errorf("New(%v): %d are issued", free, l.Issued())
		}
	}
	for _, free := range [][]int{
		{1, 2, 3, 4, 5, 6, 7, 8, 9, 10, 11}, make([]int, api.MaxAcc+1),
		{-1}, {1, -1}, {top + 1}, {top, 1}, {1, top}, {top, top}, {top, 5, -5}, {0, 0, 0, 0, 0, 0, 0, 0, 0, -1}, {1<<63 - 1, 1<<63 - 1},
	} {
		if l, err := ledger.New(free); err != api.ErrArg || l != nil {
			t.Errorf("New(%v): %v, %v", free, l, err)
		}
	}
}

func TestP61WhatIsToldOfNoAccount(t *testing.T) {
	l := start(t, 5, 5, 5, 5, 5, 5, 5, 5, 5, 5)
	for _, a := range []int{-1, api.MaxAcc, -1 << 63, 1<<63 - 1} {
		l.Lock(a, 1, 3)
		if l.Free(a) != 0 || l.Held(a) != 0 || l.Locked(a) != 0 || told(l, a) != nil || l.Release(a, 1) != 0 || l.Slash(a, 1) != 0 {
			t.Errorf("account %d has something", a)
		}
	}
	if l.Issued() != 50 {
		t.Error("issued:", l.Issued())
	}
}

func TestP61LocksRise(t *testing.T) {
	l := start(t, 100, 100)
	l.Lock(0, 3, 30)
	l.Lock(0, -2, 50)
	l.Lock(0, 1, 40)
	l.Lock(1, 1, 7)
	if got := told(l, 0); !slices.Equal(got, []int{-2, 50, 1, 40, 3, 30}) {
		t.Error(got)
	}
	if got := told(l, 1); !slices.Equal(got, []int{1, 7}) || l.Locked(1) != 7 {
		t.Error(got)
	}
	if l.Locked(0) != 50 {
		t.Error("Locked is the greatest one:", l.Locked(0))
	}
	n := 0
	for id := range l.Locks(0) {
		n++
		l.Lock(0, id, 0)
		if id == 1 {
			break
		}
	}
	if got := told(l, 0); n != 2 || !slices.Equal(got, []int{3, 30}) {
		t.Error("stopped:", n, got)
	}
}

func TestP62Transfer(t *testing.T) {
	l := start(t, 10, 20)
	if err := l.Transfer(1, 0, 15); err != api.OK {
		t.Error(err)
	}
	want(t, l, 0, 25, 0)
	want(t, l, 1, 5, 0)
	if err := l.Transfer(1, 9, 5); err != api.OK {
		t.Error("all that is free:", err)
	}
	want(t, l, 1, 0, 0)
	want(t, l, 9, 5, 0)
	if err := l.Transfer(0, 0, 25); err != api.OK {
		t.Error("to oneself:", err)
	}
	want(t, l, 0, 25, 0)
	if l.Issued() != 30 {
		t.Error("issued:", l.Issued())
	}
}

func TestP62ReserveMintBurn(t *testing.T) {
	l := start(t, 10, 20)
	if err := l.Reserve(0, 4); err != api.OK {
		t.Error(err)
	}
	want(t, l, 0, 6, 4)
	if err := l.Reserve(0, 6); err != api.OK {
		t.Error("all that is free:", err)
	}
	want(t, l, 0, 0, 10)
	if l.Issued() != 30 {
		t.Error("what is held is issued:", l.Issued())
	}
	if err := l.Mint(0, 5); err != api.OK || l.Issued() != 35 {
		t.Error(err, l.Issued())
	}
	want(t, l, 0, 5, 10)
	if err := l.Burn(1, 8); err != api.OK || l.Issued() != 27 {
		t.Error(err, l.Issued())
	}
	want(t, l, 1, 12, 0)
	if err := l.Burn(1, 12); err != api.OK || l.Issued() != 15 {
		t.Error("all that is free:", err, l.Issued())
	}
	want(t, l, 1, 0, 0)
}

// call is one of the four that may err.
type call struct {
	name string
	do   func(l *ledger.Ledger, a, n int) api.Errno
}

var spending = []call{
	{"Transfer", func(l *ledger.Ledger, a, n int) api.Errno { return l.Transfer(a, 5, n) }},
	{"Reserve", func(l *ledger.Ledger, a, n int) api.Errno { return l.Reserve(a, n) }},
	{"Burn", func(l *ledger.Ledger, a, n int) api.Errno { return l.Burn(a, n) }},
}

var (
	mint   = call{"Mint", func(l *ledger.Ledger, a, n int) api.Errno { return l.Mint(a, n) }}
	come   = call{"Transfer to", func(l *ledger.Ledger, a, n int) api.Errno { return l.Transfer(0, a, n) }}
	itself = call{"Transfer to oneself", func(l *ledger.Ledger, a, n int) api.Errno { return l.Transfer(a, a, n) }}
)

// errs checks an error, and that nothing has changed by it.
func errs(t *testing.T, c call, l *ledger.Ledger, a, n int, wanted api.Errno) {
	t.Helper()
	was := state(l)
	if err := c.do(l, a, n); err != wanted {
		t.Errorf("%s of %d from %d: %v, want %v", c.name, n, a, err, wanted)
	}
	if wanted != api.OK && !slices.Equal(state(l), was) {
		t.Errorf("%s of %d from %d changed something: %v, it was %v", c.name, n, a, state(l), was)
	}
}

func TestP62ErrorsOfArguments(t *testing.T) {
	l := start(t, 10, 20)
	l.Lock(0, 1, 10)
	for _, c := range append(spending, mint, come, itself) {
		for _, a := range []int{-1, api.MaxAcc, 1<<63 - 1, -1 << 63} {
			for _, n := range []int{0, 1, 11, -1} {
				errs(t, c, l, a, n, api.ErrArg)
			}
		}
		for _, n := range []int{-1, top + 1, -1 << 63, 1<<63 - 1} {
			errs(t, c, l, 0, n, api.ErrArg)
			errs(t, c, l, 1, n, api.ErrArg)
		}
	}
}

func TestP62ErrorsOfFundsAndLocks(t *testing.T) {
	for _, c := range spending {
		l := start(t, 10, 20, 0)
		l.Lock(0, 1, 3)
		l.Lock(0, 2, 6)
		errs(t, c, l, 0, 11, api.ErrFunds)
		errs(t, c, l, 0, top, api.ErrFunds)
		errs(t, c, l, 2, 1, api.ErrFunds)
		errs(t, c, l, 0, 5, api.ErrLocked)
		errs(t, c, l, 0, 10, api.ErrLocked)
		errs(t, c, l, 0, 4, api.OK)
		errs(t, c, l, 0, 1, api.ErrLocked)
		l.Lock(0, 2, 5) // what is free is 6 now
		errs(t, c, l, 0, 1, api.OK)
		errs(t, c, l, 0, 1, api.ErrLocked)
		errs(t, c, l, 0, 6, api.ErrFunds)
	}
}

func TestP62NothingIsNeverLocked(t *testing.T) {
	l := start(t, 10, 20)
	l.Lock(0, 1, 50) // more than what is free
	for _, c := range append(spending, itself) {
		errs(t, c, l, 0, 0, api.OK)
	}
	errs(t, itself, l, 0, 10, api.OK)
	errs(t, itself, l, 0, 11, api.ErrFunds)
	want(t, l, 0, 10, 0)
	for _, c := range spending {
		errs(t, c, l, 0, 1, api.ErrLocked)
	}
	errs(t, come, l, 1, 1, api.ErrLocked)
	if err := l.Transfer(1, 0, 20); err != api.OK {
		t.Error("the receiver's locks count:", err)
	}
}

func TestP62MintIsBounded(t *testing.T) {
	l := start(t, 10, top-20)
	if err := l.Reserve(1, 100); err != api.OK {
		t.Error(err)
	}
	errs(t, mint, l, 0, 11, api.ErrOver)
	errs(t, mint, l, 0, top, api.ErrOver)
	errs(t, mint, l, 0, 10, api.OK)
	errs(t, mint, l, 0, 1, api.ErrOver)
	errs(t, mint, l, 0, 0, api.OK)
	want(t, l, 0, 20, 0)
	l.Lock(0, 1, top)
	if err := l.Burn(1, 1); err != api.OK {
		t.Error(err)
	}
	errs(t, mint, l, 0, 1, api.OK) // a lock doesn't matter
}

func TestP63Release(t *testing.T) {
	l := start(t, 0, 20)
	l.Reserve(1, 12)
	l.Lock(1, 1, 8)
	for _, x := range []struct{ n, got, free, held int }{{-1, 0, 8, 12}, {0, 0, 8, 12}, {5, 5, 13, 7}, {-1 << 63, 0, 13, 7}, {8, 7, 20, 0}, {1, 0, 20, 0}} {
		if got := l.Release(1, x.n); got != x.got {
			t.Errorf("Release of %d: %d, want %d", x.n, got, x.got)
		}
		want(t, l, 1, x.free, x.held)
	}
	want(t, l, 0, 0, 0)
	if l.Issued() != 20 {
		t.Error("issued:", l.Issued())
	}
}

func TestP63Slash(t *testing.T) {
	l := start(t, 1, 20)
	l.Reserve(1, 12)
	for _, x := range []struct{ n, got, held, treasury int }{{-1, 0, 12, 1}, {0, 0, 12, 1}, {5, 5, 7, 6}, {1<<63 - 1, 7, 0, 13}, {1, 0, 0, 13}} {
		if got := l.Slash(1, x.n); got != x.got {
			t.Errorf("Slash of %d: %d, want %d", x.n, got, x.got)
		}
		want(t, l, 1, 8, x.held)
		want(t, l, api.Treasury, x.treasury, 0)
	}
	l.Reserve(api.Treasury, 10)
	if got := l.Slash(api.Treasury, 4); got != 4 {
		t.Error("of the treasury:", got)
	}
	want(t, l, api.Treasury, 7, 6)
	if l.Issued() != 21 {
		t.Error("issued:", l.Issued())
	}
}

func TestP63Lock(t *testing.T) {
	l := start(t, 10)
	for _, x := range []struct {
		n    int
		told []int
	}{
		{5, []int{7, 5}}, {3, []int{7, 3}}, {top, []int{7, top}}, {top + 1, nil}, {1, []int{7, 1}}, {0, nil},
		{2, []int{7, 2}}, {-1, nil}, {4, []int{7, 4}}, {1<<63 - 1, nil}, {6, []int{7, 6}}, {-1 << 63, nil}, {0, nil},
	} {
		l.Lock(0, 7, x.n)
		if got := told(l, 0); !slices.Equal(got, x.told) {
			t.Errorf("a lock of %d: %v, want %v", x.n, got, x.told)
		}
	}
	l.Lock(0, 7, 5)
	l.Lock(0, 8, 9)
	l.Lock(0, 8, 0)
	l.Lock(1, 7, 0)
	if got := told(l, 0); !slices.Equal(got, []int{7, 5}) || l.Locked(0) != 5 {
		t.Error("the other lock stays:", got)
	}
	if err := l.Transfer(0, 1, 6); err != api.ErrLocked {
		t.Error(err)
	}
	l.Lock(0, 7, 0)
	if err := l.Transfer(0, 1, 6); err != api.OK {
		t.Error(err)
	}
}

func TestP64OnlyMintAndBurnChangeWhatIsIssued(t *testing.T) {
	l := start(t, 100, 200, 300)
	for i := range 200 {
		a, b, n := i%4, i*7%5, i*13%90
		l.Transfer(a, b, n)
		l.Reserve(b, n/2)
		l.Release(a, n/3)
		l.Slash(b, n/5)
		l.Lock(a, i%3, n)
		sum := 0
		for a := range api.MaxAcc {
			sum += l.Free(a) + l.Held(a)
			if l.Free(a) < 0 || l.Held(a) < 0 {
				t.Fatalf("account %d is below nought", a)
			}
		}
		if l.Issued() != 600 || sum != 600 {
			t.Fatalf("issued %d, the accounts have %d", l.Issued(), sum)
		}
	}
}

func TestP64WhatIsHandedInIsNotKept(t *testing.T) {
	free := []int{1, 2, 3}
	l := start(t, free...)
	m := start(t, free...)
	l.Mint(0, 5)
	if !slices.Equal(free, []int{1, 2, 3}) || m.Free(0) != 1 {
		t.Error("what was handed in is changed:", free)
	}
	free[1] = 9
	want(t, l, 1, 2, 0)
}

func TestP64NilLedger(t *testing.T) {
	var l *ledger.Ledger
	l.Lock(0, 1, 5)
	if l.Free(0) != 0 || l.Held(0) != 0 || l.Locked(0) != 0 || l.Issued() != 0 || told(l, 0) != nil || l.Release(0, 1) != 0 || l.Slash(0, 1) != 0 {
		t.Error("a nil ledger has something")
	}
	for _, c := range append(spending, mint, come, itself) {
		if err := c.do(l, 0, 0); err != api.ErrArg {
			t.Errorf("%s: %v", c.name, err)
		}
	}
}
