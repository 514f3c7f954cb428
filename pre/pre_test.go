package pre_test

import (
	"bytes"
	"slices"
	"testing"

	"althing/api"
	"althing/code"
	"althing/ledger"
	"althing/pre"
)

// remark is a remark of n.
func remark(n int) api.Call { return api.Call{Kind: api.CallRemark, N: n} }

// rich is a ledger whose accounts have a hundred each.
func rich(t *testing.T) *ledger.Ledger {
	t.Helper()
	l, err := ledger.New([]int{100, 100, 100, 100, 100, 100, 100, 100, 100, 100})
	if err != api.OK {
		t.Fatal(err)
	}
	return l
}

// owners is what All tells.
func owners(p *pre.Pre) map[api.Hash]int {
	m := map[api.Hash]int{}
	for sum, who := range p.All() {
		m[sum] = who
	}
	return m
}

// noted checks whether a call is there, and of whom (-1: of nobody).
func noted(t *testing.T, p *pre.Pre, c api.Call, who int) {
	t.Helper()
	got, ok := p.Get(code.Sum(c))
	owner, there := owners(p)[code.Sum(c)]
	if who < 0 {
		if ok || there || !code.SameCall(got, api.Call{}) {
			t.Errorf("%+v is there: %+v", c, got)
		}
		return
	}
	if !ok || !there || owner != who || !code.SameCall(got, c) {
		t.Errorf("%+v is not there, or not of %d: %+v, %v, of %d", c, who, got, ok, owner)
	}
}

// note notes a call; it may not err.
func note(t *testing.T, p *pre.Pre, l *ledger.Ledger, who int, c api.Call) api.Hash {
	t.Helper()
	sum, err := p.Note(l, who, c)
	if err != api.OK || sum != code.Sum(c) {
		t.Fatalf("Note(%d, %+v): %x, %v", who, c, sum, err)
	}
	return sum
}

// refused checks that a note errs and that nothing is done.
func refused(t *testing.T, p *pre.Pre, l *ledger.Ledger, who int, c api.Call, want api.Errno) {
	t.Helper()
	n, held := len(owners(p)), l.Held(who)
	if sum, err := p.Note(l, who, c); err != want || sum != (api.Hash{}) {
		t.Errorf("Note(%d, %+v): %x, %v, want %v", who, c, sum, err, want)
	}
	if len(owners(p)) != n || l.Held(who) != held {
		t.Errorf("Note(%d, %+v) has done something", who, c)
	}
}

func TestP81Note(t *testing.T) {
	l, p := rich(t), pre.New()
	noted(t, p, remark(1), -1)
	note(t, p, l, 3, remark(1))
	noted(t, p, remark(1), 3)
	noted(t, p, remark(2), -1)
	batch := api.Call{Kind: api.CallBatch, Kids: []api.Call{remark(2), {Kind: api.CallSpend, To: 2, N: 7}}}
	note(t, p, l, 3, batch)
	note(t, p, l, 0, remark(2))
	noted(t, p, batch, 3)
	noted(t, p, remark(2), 0)
	if l.Held(3) != 10 || l.Free(3) != 90 || l.Held(0) != 5 || l.Free(0) != 95 {
		t.Error("deposits:", l.Held(3), l.Free(3), l.Held(0), l.Free(0))
	}
}

func TestP81NoteErrsInOrder(t *testing.T) {
	l, p := rich(t), pre.New()
	for _, who := range []int{-1, api.MaxAcc, 1 << 62} {
		refused(t, p, l, who, remark(1), api.ErrArg)
	}
	for _, c := range []api.Call{{}, remark(-1), {Kind: api.CallBatch}, {Kind: api.CallSpend, To: 10}} {
		refused(t, p, l, 1, c, api.ErrArg)
	}
	for i := range api.MaxPre {
		if i == api.MaxPre-1 {
			refused(t, p, l, 2, remark(0), api.ErrHas)
		}
		note(t, p, l, i, remark(i))
	}
	refused(t, p, l, 2, remark(0), api.ErrHas) // full, but it is there
	refused(t, p, l, 0, remark(0), api.ErrHas)
	refused(t, p, l, 2, remark(99), api.ErrFull)
	refused(t, p, l, -1, remark(0), api.ErrArg)
	refused(t, p, l, 2, remark(-1), api.ErrArg)
	l.Burn(9, 96)
	refused(t, p, l, 9, remark(99), api.ErrFull)
	refused(t, p, l, 9, remark(0), api.ErrHas)
	if err := p.Unnote(l, 5, code.Sum(remark(5))); err != api.OK {
		t.Fatal(err)
	}
	refused(t, p, l, 9, remark(99), api.ErrFunds)
	l.Mint(9, 1)
	l.Lock(9, 1, 1)
	refused(t, p, l, 9, remark(99), api.ErrLocked)
	l.Lock(9, 1, 0)
	note(t, p, l, 9, remark(99))
	if l.Free(9) != 0 || l.Held(9) != 5 {
		t.Error("free, held:", l.Free(9), l.Held(9))
	}
}

func TestP81Unnote(t *testing.T) {
	l, p := rich(t), pre.New()
	one, two := note(t, p, l, 3, remark(1)), note(t, p, l, 4, remark(2))
	for _, x := range []struct {
		who  int
		sum  api.Hash
		want api.Errno
	}{
		{3, code.Sum(remark(9)), api.ErrNone}, {-1, api.Hash{}, api.ErrNone}, {4, one, api.ErrOrigin}, {-1, one, api.ErrOrigin}, {3, two, api.ErrOrigin},
	} {
		if err := p.Unnote(l, x.who, x.sum); err != x.want {
			t.Errorf("Unnote(%d, %x): %v, want %v", x.who, x.sum, err, x.want)
		}
	}
	p.Want(one)
	p.Want(code.Sum(remark(9)))
	if err := p.Unnote(l, 4, one); err != api.ErrOrigin {
		t.Error("wanted, and another one's:", err)
	}
	if err := p.Unnote(l, 3, code.Sum(remark(9))); err != api.ErrNone {
		t.Error("wanted, but not there:", err)
	}
	if err := p.Unnote(l, 3, one); err != api.ErrState {
		t.Error("wanted:", err)
	}
	noted(t, p, remark(1), 3)
	if l.Held(3) != 5 || l.Held(4) != 5 {
		t.Error("what errs gives back:", l.Held(3), l.Held(4))
	}
	p.Unwant(one)
	if err := p.Unnote(l, 3, one); err != api.OK || l.Held(3) != 0 || l.Free(3) != 100 {
		t.Error("no more wanted:", err, l.Held(3), l.Free(3))
	}
	noted(t, p, remark(1), -1)
	noted(t, p, remark(2), 4)
	if err := p.Unnote(l, 3, one); err != api.ErrNone {
		t.Error("twice:", err)
	}
	l.Reserve(3, 50)
	note(t, p, l, 5, remark(1))
	noted(t, p, remark(1), 5)
	if l.Held(3) != 50 || l.Held(5) != 5 {
		t.Error("noted once more:", l.Held(3), l.Held(5))
	}
	l.Reserve(5, 20)
	if err := p.Unnote(l, 5, one); err != api.OK || l.Held(5) != 20 {
		t.Error("more is given back than the deposit:", err, l.Held(5))
	}
}

func TestP82WantAndUnwant(t *testing.T) {
	l, p := rich(t), pre.New()
	there, not := note(t, p, l, 1, remark(1)), code.Sum(remark(2))
	for _, sum := range []api.Hash{there, not} {
		for i, step := range []struct {
			want bool
			n    int
		}{{false, 0}, {true, 1}, {true, 2}, {true, 3}, {false, 2}, {false, 1}, {false, 0}, {false, 0}, {true, 1}, {false, 0}} {
			if step.want {
				p.Want(sum)
			} else {
				p.Unwant(sum)
			}
			if got := p.Wanted(sum); got != step.n {
				t.Errorf("step %d: wanted %d times, want %d", i, got, step.n)
			}
		}
	}
	p.Want(there)
	if p.Wanted(not) != 0 || p.Wanted(there) != 1 {
		t.Error("what is wanted:", p.Wanted(not), p.Wanted(there))
	}
	noted(t, p, remark(2), -1)
	p.Want(not)
	note(t, p, l, 1, remark(2))
	if err := p.Unnote(l, 1, not); err != api.ErrState {
		t.Error("wanted ahead of its note:", err)
	}
}

func TestP82AllRises(t *testing.T) {
	l, p := rich(t), pre.New()
	var sums []api.Hash
	for i := range api.MaxPre {
		sums = append(sums, note(t, p, l, 9-i, remark(i*i)))
	}
	p.Want(code.Sum(remark(77))) // wanted, but not there
	slices.SortFunc(sums, func(a, b api.Hash) int { return bytes.Compare(a[:], b[:]) })
	for range 2 {
		var got []api.Hash
		for sum := range p.All() {
			got = append(got, sum)
		}
		if !slices.Equal(got, sums) {
			t.Errorf("%x", got)
		}
	}
	n := 0
	for sum, who := range p.All() {
		if err := p.Unnote(l, who, sum); err != api.OK {
			t.Error("of", who, err)
		}
		n++
		if n == 3 {
			break
		}
	}
	if got := owners(p); n != 3 || len(got) != 3 {
		t.Error("stopped:", n, got)
	}
	n = 0
	for sum, who := range p.All() {
		n++
		p.Unnote(l, who, sum)
		note(t, p, l, 1, remark(1000+n))
	}
	if n != 3 {
		t.Error("ranged over while notes come and go:", n)
	}
}

func TestP83MemoryIsNotShared(t *testing.T) {
	l, p := rich(t), pre.New()
	c := api.Call{Kind: api.CallBatch, Kids: []api.Call{remark(1), {Kind: api.CallBatch, Kids: []api.Call{remark(2)}}}}
	sum := note(t, p, l, 1, c)
	c.Kids[0].N, c.Kids[1].Kids[0].N = 8, 9
	for range 2 {
		got, _ := p.Get(sum)
		if got.Kids[0].N != 1 || got.Kids[1].Kids[0].N != 2 {
			t.Errorf("%+v", got)
		}
		got.Kids[0].N, got.Kids[1].Kids[0].N = 6, 7
	}
	if c.Kids[0].N != 8 || c.Kids[1].Kids[0].N != 9 {
		t.Error("what was handed in is changed")
	}
}

func TestP83NilPre(t *testing.T) {
	var p *pre.Pre
	l := rich(t)
	p.Want(api.Hash{})
	p.Unwant(api.Hash{})
	refused(t, p, l, 1, remark(1), api.ErrArg)
	if err := p.Unnote(l, 1, api.Hash{}); err != api.ErrArg {
		t.Error(err)
	}
	if c, ok := p.Get(api.Hash{}); ok || !code.SameCall(c, api.Call{}) || p.Wanted(api.Hash{}) != 0 || len(owners(p)) != 0 {
		t.Error("a nil Pre has something")
	}
}

func TestP83NilLedger(t *testing.T) {
	l, p := rich(t), pre.New()
	sum := note(t, p, l, 1, remark(1))
	refused(t, p, nil, 1, remark(2), api.ErrArg)
	refused(t, p, nil, 1, remark(1), api.ErrHas) // that comes ahead of the Reserve
	if err := p.Unnote(nil, 1, sum); err != api.OK {
		t.Error(err)
	}
	noted(t, p, remark(1), -1)
	if l.Held(1) != 5 {
		t.Error(l.Held(1))
	}
}
