package act_test

import (
	"slices"
	"testing"

	"althing/act"
	"althing/api"
	"althing/ledger"
	"althing/refer"
	"althing/voting"
)

const (
	bill = api.Bill
	now  = 7 // the block at which all is done
)

// world is what calls are done to.
type world struct {
	t *testing.T
	l *ledger.Ledger
	v *voting.Voting
	r *refer.Refer
}

// start is a world with three tracks, of ranks 0, 1, 2, and the referenda 0 to 3, of which 1 is backed by the account 2.
func start(t *testing.T) *world {
	t.Helper()
	l, err := ledger.New([]int{500, 100, 100, 100})
	if err != api.OK {
		t.Fatal(err)
	}
	flat := api.Curve{Kind: api.CurveLinear, A: bill / 2, B: bill / 2, C: bill}
	var tracks []api.Track
	for rank := range 3 {
		tracks = append(tracks, api.Track{Most: 1, Deposit: 20, Decision: 5, Approval: flat, Support: flat, Cap: 50 * (rank + 1), Rank: rank})
	}
	r, err := refer.New(tracks)
	if err != api.OK {
		t.Fatal(err)
	}
	w := &world{t, l, voting.New(), r}
	for ref := range 4 {
		if _, err := r.Submit(l, w.v, 1, 0, api.Hash{}, 0, 0); err != api.OK {
			t.Fatal(ref, err)
		}
	}
	if err := r.Deposit(l, 2, 1); err != api.OK {
		t.Fatal(err)
	}
	return w
}

// does checks what a call does.
func (w *world) does(track int, c api.Call, err api.Errno, want ...api.Event) {
	w.t.Helper()
	events, e := act.Do(w.l, w.v, w.r, c, track, now)
	if e != err || !slices.Equal(events, want) {
		w.t.Errorf("%+v in track %d: %v, %v; want %v, %v", c, track, events, e, want, err)
	}
}

// state is all that a world tells of balances and referenda.
func (w *world) state() []int {
	var out []int
	for a := range api.MaxAcc {
		out = append(out, w.l.Free(a), w.l.Held(a))
	}
	for ref, x := range w.r.All() {
		out = append(out, ref, x.State, x.End, x.Backer, int(w.v.Close(ref, 0, 0)))
	}
	return out
}

// errs checks that a call errs so, has no events and changes nothing.
func (w *world) errs(track int, c api.Call, err api.Errno) {
	w.t.Helper()
	was := w.state()
	w.does(track, c, err)
	if !slices.Equal(w.state(), was) {
		w.t.Errorf("%+v in track %d changes something", c, track)
	}
}

// remark, spend, cancel, kill and batch are calls.
func remark(n int) api.Call           { return api.Call{Kind: api.CallRemark, N: n} }
func spend(to, n int) api.Call        { return api.Call{Kind: api.CallSpend, To: to, N: n} }
func cancel(ref int) api.Call         { return api.Call{Kind: api.CallCancel, N: ref} }
func kill(ref int) api.Call           { return api.Call{Kind: api.CallKill, N: ref} }
func batch(kids ...api.Call) api.Call { return api.Call{Kind: api.CallBatch, Kids: kids} }

// event is an event.
func event(kind, a, b int) api.Event { return api.Event{Kind: kind, A: a, B: b} }

func TestP131ArgumentsThatMayNotBe(t *testing.T) {
	w := start(t)
	for i, do := range []func() ([]api.Event, api.Errno){
		func() ([]api.Event, api.Errno) { return act.Do(nil, w.v, w.r, remark(1), 0, now) },
		func() ([]api.Event, api.Errno) { return act.Do(w.l, nil, w.r, remark(1), 0, now) },
		func() ([]api.Event, api.Errno) { return act.Do(w.l, w.v, nil, remark(1), 0, now) },
		func() ([]api.Event, api.Errno) { return act.Do(nil, w.v, w.r, spend(1, 999), 0, now) },
		func() ([]api.Event, api.Errno) { return act.Do(w.l, nil, w.r, cancel(0), 0, now) },
		func() ([]api.Event, api.Errno) { return act.Do(nil, nil, nil, api.Call{}, -1, now) },
	} {
		if events, err := do(); err != api.ErrArg || len(events) != 0 {
			t.Errorf("call %d: %v, %v", i, events, err)
		}
	}
	for _, c := range []api.Call{{}, remark(-1), spend(10, 1), cancel(12), kill(-1), batch(), batch(remark(1), remark(-1)), {Kind: 6}} {
		w.errs(2, c, api.ErrArg)
	}
	for _, track := range []int{-1, 3, 4} {
		w.errs(track, remark(1), api.ErrArg)
		w.errs(track, spend(1, 999), api.ErrArg)
	}
}

func TestP131Remark(t *testing.T) {
	w := start(t)
	was := w.state()
	w.does(0, remark(0), api.OK, event(api.EventRemark, 0, 0))
	w.does(2, remark(77), api.OK, event(api.EventRemark, 2, 77))
	if !slices.Equal(w.state(), was) {
		t.Error("a remark changes something")
	}
}

func TestP131Spend(t *testing.T) {
	w := start(t)
	w.errs(0, spend(3, 51), api.ErrOver)
	w.errs(0, spend(3, 501), api.ErrOver)
	w.does(0, spend(3, 50), api.OK, event(api.EventSpent, 3, 50))
	if w.l.Free(3) != 150 || w.l.Free(api.Treasury) != 450 {
		t.Error("free:", w.l.Free(3), w.l.Free(api.Treasury))
	}
	w.does(1, spend(5, 100), api.OK, event(api.EventSpent, 5, 100))
	w.does(1, spend(5, 0), api.OK, event(api.EventSpent, 5, 0))
	w.l.Lock(api.Treasury, 1, 300)
	w.errs(1, spend(5, 51), api.ErrLocked)
	w.errs(1, spend(5, 101), api.ErrOver)
	w.does(1, spend(api.Treasury, 60), api.OK, event(api.EventSpent, api.Treasury, 60))
	w.l.Lock(api.Treasury, 1, 0)
	w.l.Reserve(api.Treasury, 300)
	w.errs(1, spend(5, 51), api.ErrFunds)
	w.does(1, spend(5, 50), api.OK, event(api.EventSpent, 5, 50))
}

func TestP131Cancel(t *testing.T) {
	w := start(t)
	w.errs(0, cancel(0), api.ErrOrigin)
	w.errs(0, cancel(9), api.ErrOrigin)
	w.errs(1, cancel(9), api.ErrNone)
	w.does(1, cancel(0), api.OK, event(api.EventEnded, 0, api.StateCancelled))
	w.errs(1, cancel(0), api.ErrState)
	w.does(2, cancel(1), api.OK, event(api.EventEnded, 1, api.StateCancelled))
	for ref := range 2 {
		if x, _ := w.r.Get(ref); x.State != api.StateCancelled || x.End != now || !x.Put || w.v.Close(ref, 0, 0) != api.ErrState {
			t.Errorf("%+v", x)
		}
	}
	if x, _ := w.r.Get(2); x.State != api.StateOngoing {
		t.Errorf("%+v", x)
	}
}

func TestP131Kill(t *testing.T) {
	w := start(t)
	w.errs(0, kill(1), api.ErrOrigin)
	w.errs(1, kill(1), api.ErrOrigin)
	w.errs(1, kill(9), api.ErrOrigin)
	w.errs(2, kill(9), api.ErrNone)
	w.does(2, kill(1), api.OK, event(api.EventEnded, 1, api.StateKilled), event(api.EventSlash, 1, 10), event(api.EventSlash, 2, 20))
	w.errs(2, kill(1), api.ErrState)
	if x, _ := w.r.Get(1); x.State != api.StateKilled || x.End != now || w.l.Free(api.Treasury) != 530 {
		t.Errorf("%+v", x)
	}
}

func TestP131BatchIsDoneInOrder(t *testing.T) {
	w := start(t)
	c := batch(remark(1), batch(spend(3, 5), batch(remark(2), kill(1))), cancel(2), remark(3))
	w.does(2, c, api.OK,
		event(api.EventRemark, 2, 1), event(api.EventSpent, 3, 5), event(api.EventRemark, 2, 2),
		event(api.EventEnded, 1, api.StateKilled), event(api.EventSlash, 1, 10), event(api.EventSlash, 2, 20),
		event(api.EventEnded, 2, api.StateCancelled), event(api.EventRemark, 2, 3))
	if w.l.Free(3) != 105 {
		t.Error("free:", w.l.Free(3))
	}
}

func TestP131BatchEndsAtTheFirstThatErrs(t *testing.T) {
	w := start(t)
	w.does(1, batch(spend(3, 5), spend(3, 101), remark(1)), api.ErrOver, event(api.EventSpent, 3, 5))
	if w.l.Free(3) != 105 {
		t.Error("what was done stays:", w.l.Free(3))
	}
	w.does(1, batch(remark(1), batch(remark(2), kill(0), remark(3)), remark(4)), api.ErrOrigin, event(api.EventRemark, 1, 1), event(api.EventRemark, 1, 2))
	w.does(1, batch(batch(cancel(0), batch(cancel(0)), spend(3, 1)), cancel(1)), api.ErrState, event(api.EventEnded, 0, api.StateCancelled))
	if x, _ := w.r.Get(1); x.State != api.StateOngoing || w.l.Free(3) != 105 {
		t.Errorf("what stands behind is done: %+v, %d", x, w.l.Free(3))
	}
	w.errs(1, batch(cancel(9), remark(1)), api.ErrNone)
	w.errs(0, batch(batch(spend(1, 51))), api.ErrOver)
}

func TestP132AnswersAreNewMemory(t *testing.T) {
	w := start(t)
	c := batch(remark(1), remark(2))
	events, _ := act.Do(w.l, w.v, w.r, c, 0, now)
	events[0].B = 9
	w.does(0, c, api.OK, event(api.EventRemark, 0, 1), event(api.EventRemark, 0, 2))
	if c.Kids[0].N != 1 || c.Kids[1].N != 2 {
		t.Error("what was handed in is changed")
	}
}
