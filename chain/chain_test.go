package chain_test

import (
	"slices"
	"testing"

	"althing/api"
	"althing/chain"
	"althing/code"
)

const bill = api.Bill

// flat is a threshold that is always the same.
func flat(part int) api.Curve {
	return api.Curve{Kind: api.CurveLinear, A: part, B: part, C: bill}
}

// tracks is a quick kind, a slow one, and one that may cancel and kill.
func tracks() []api.Track {
	half, none := flat(bill/2), flat(0)
	return []api.Track{
		{Most: 12, Deposit: 3, Decision: 2, Approval: half, Support: none, Cap: 100},
		{Most: 1, Deposit: 20, Prepare: 1, Decision: 5, Confirm: 2, Enact: 4, Approval: half, Support: none, Cap: 50},
		{Most: 12, Deposit: 3, Decision: 2, Approval: half, Support: none, Rank: 2},
	}
}

// world is a chain.
type world struct {
	t *testing.T
	c *chain.Chain
}

// start is a chain whose accounts 0 to 5 have a thousand each.
func start(t *testing.T) *world {
	t.Helper()
	c, err := chain.New([]int{1000, 1000, 1000, 1000, 1000, 1000}, tracks())
	if err != api.OK || c == nil {
		t.Fatal(err)
	}
	return &world{t, c}
}

// do applies an extrinsic that may not err.
func (w *world) do(e api.Ext) {
	w.t.Helper()
	if err := w.c.Apply(e); err != api.OK {
		w.t.Fatalf("%+v: %v", e, err)
	}
}

// errs checks that an extrinsic errs so and changes nothing.
func (w *world) errs(e api.Ext, want api.Errno) {
	w.t.Helper()
	was := w.state()
	if err := w.c.Apply(e); err != want {
		w.t.Errorf("%+v: %v, want %v", e, err, want)
	}
	if !slices.Equal(w.state(), was) {
		w.t.Errorf("%+v changes something", e)
	}
}

// block checks the events of one more block.
func (w *world) block(want ...api.Event) {
	w.t.Helper()
	now := w.c.Now()
	if got := w.c.Block(); !slices.Equal(got, want) {
		w.t.Errorf("block %d: %v, want %v", w.c.Now(), got, want)
	}
	if w.c.Now() != now+1 {
		w.t.Errorf("behind the block %d comes %d", now, w.c.Now())
	}
}

// blocks is so many blocks without events.
func (w *world) blocks(n int) {
	w.t.Helper()
	for range n {
		w.block()
	}
}

// propose notes a call by the account 1 and has it decided in a track by the ayes of 2; it is enacted after so many blocks.
func (w *world) propose(ref, track, after int, c api.Call) {
	w.t.Helper()
	if _, ok := w.c.Pre().Get(code.Sum(c)); !ok {
		w.do(api.Ext{Kind: api.ExtNote, Who: 1, Call: c})
	}
	w.do(api.Ext{Kind: api.ExtSubmit, Who: 1, Track: track, Sum: code.Sum(c), N: after})
	w.do(api.Ext{Kind: api.ExtDeposit, Who: 1, Ref: ref})
	w.do(api.Ext{Kind: api.ExtVote, Who: 2, Ref: ref, Vote: aye(1, 10)})
}

// state is all that a chain tells, as numbers.
func (w *world) state() []int {
	out := []int{w.c.Now(), w.c.Ledger().Issued(), w.c.Agenda().Len()}
	for a := range api.MaxAcc {
		out = append(out, w.c.Ledger().Free(a), w.c.Ledger().Held(a))
		for id, n := range w.c.Ledger().Locks(a) {
			out = append(out, id, n)
		}
		for track := range api.MaxTracks {
			for ref, x := range w.c.Voting().Votes(a, track) {
				out = append(out, ref, x.Kind, x.A)
			}
			to, level, n, _ := w.c.Voting().Delegating(a, track)
			until, prior := w.c.Voting().Prior(a, track)
			out = append(out, to, level, n, until, prior)
		}
	}
	for ref, x := range w.c.Refer().All() {
		tally := w.c.Voting().Tally(ref)
		out = append(out, x.State, x.Track, x.By, x.Backer, x.Since, x.Until, x.End, tally.Ayes, tally.Nays, tally.Support, w.c.Pre().Wanted(x.Sum))
	}
	for sum, who := range w.c.Pre().All() {
		out = append(out, int(sum[0]), who, w.c.Pre().Wanted(sum))
	}
	for t := range w.c.Agenda().All() {
		out = append(out, t.Name, t.At, t.Priority, int(t.Sum[0]), t.Track)
	}
	return out
}

// remark, spend, cancel, kill are calls; aye is a vote.
func remark(n int) api.Call    { return api.Call{Kind: api.CallRemark, N: n} }
func spend(to, n int) api.Call { return api.Call{Kind: api.CallSpend, To: to, N: n} }
func cancel(ref int) api.Call  { return api.Call{Kind: api.CallCancel, N: ref} }
func kill(ref int) api.Call    { return api.Call{Kind: api.CallKill, N: ref} }
func aye(level, n int) api.Vote {
	return api.Vote{Kind: api.VoteStandard, Aye: true, Level: level, A: n}
}

// event is an event; called is that of a call without an error, ended that of an end.
func event(kind, a, b int) api.Event     { return api.Event{Kind: kind, A: a, B: b} }
func called(ref int) api.Event           { return event(api.EventCalled, ref, 0) }
func ended(ref int, state int) api.Event { return event(api.EventEnded, ref, state) }
func approved(ref int) api.Event         { return ended(ref, api.StateApproved) }

func TestP141New(t *testing.T) {
	w := start(t)
	if w.c.Now() != 0 || w.c.Ledger().Free(5) != 1000 || w.c.Ledger().Issued() != 6000 || w.c.Agenda().Len() != 0 {
		t.Error("a new chain:", w.state())
	}
	if x, ok := w.c.Refer().Track(2); !ok || x != tracks()[2] {
		t.Errorf("%+v", x)
	}
	if _, ok := w.c.Refer().Track(3); ok {
		t.Error("there is a track too many")
	}
	for i, x := range []struct {
		free   []int
		tracks []api.Track
	}{{[]int{-1}, tracks()}, {make([]int, 11), tracks()}, {nil, nil}, {[]int{1}, []api.Track{{}}}, {[]int{-1}, nil}} {
		if c, err := chain.New(x.free, x.tracks); c != nil || err != api.ErrArg {
			t.Error(i, c, err)
		}
	}
	if c, err := chain.New(nil, tracks()); c == nil || err != api.OK {
		t.Error("without any balance:", err)
	}
}

func TestP141WhatMayNotBe(t *testing.T) {
	w := start(t)
	for _, e := range []api.Ext{
		{}, {Kind: 12}, {Kind: api.ExtTransfer, Who: -1}, {Kind: api.ExtTransfer, Who: 10}, {Kind: api.ExtTransfer, Who: 1, To: 2, N: 3, Ref: 1},
		{Kind: api.ExtNote, Who: 1}, {Kind: api.ExtVote, Who: 1}, {Kind: api.ExtSubmit, Who: 1, N: 1001}, {Kind: api.ExtDeposit, Who: 1, Ref: 12},
		{Kind: api.ExtUnlock, Who: 1, Track: 4},
	} {
		w.errs(e, api.ErrArg)
	}
}

func TestP141Transfer(t *testing.T) {
	w := start(t)
	w.do(api.Ext{Kind: api.ExtTransfer, Who: 1, To: 2, N: 30})
	if w.c.Ledger().Free(1) != 970 || w.c.Ledger().Free(2) != 1030 {
		t.Error(w.state())
	}
	w.errs(api.Ext{Kind: api.ExtTransfer, Who: 1, To: 2, N: 971}, api.ErrFunds)
	w.c.Ledger().Lock(1, 9, 970)
	w.errs(api.Ext{Kind: api.ExtTransfer, Who: 1, To: 2, N: 1}, api.ErrLocked)
}

func TestP141NoteAndUnnote(t *testing.T) {
	w := start(t)
	sum := code.Sum(remark(1))
	w.do(api.Ext{Kind: api.ExtNote, Who: 1, Call: remark(1)})
	if c, ok := w.c.Pre().Get(sum); !ok || !code.SameCall(c, remark(1)) || w.c.Ledger().Held(1) != api.PreDeposit {
		t.Error("noted:", c, ok)
	}
	w.errs(api.Ext{Kind: api.ExtNote, Who: 2, Call: remark(1)}, api.ErrHas)
	w.errs(api.Ext{Kind: api.ExtNote, Who: 9, Call: remark(2)}, api.ErrFunds)
	w.errs(api.Ext{Kind: api.ExtUnnote, Who: 2, Sum: sum}, api.ErrOrigin)
	w.errs(api.Ext{Kind: api.ExtUnnote, Who: 1}, api.ErrNone)
	w.do(api.Ext{Kind: api.ExtUnnote, Who: 1, Sum: sum})
	if _, ok := w.c.Pre().Get(sum); ok || w.c.Ledger().Held(1) != 0 {
		t.Error("it is noted still")
	}
}

func TestP141Submit(t *testing.T) {
	w := start(t)
	sum := code.Sum(remark(1))
	w.do(api.Ext{Kind: api.ExtNote, Who: 1, Call: remark(1)})
	w.blocks(3)
	w.errs(api.Ext{Kind: api.ExtSubmit, Who: 1, Track: 3, Sum: sum, N: 6}, api.ErrArg)
	w.errs(api.Ext{Kind: api.ExtSubmit, Who: 9, Track: 1, Sum: sum, N: 6}, api.ErrFunds)
	w.do(api.Ext{Kind: api.ExtSubmit, Who: 1, Track: 1, Sum: sum, N: 6})
	want := api.Referendum{State: api.StateOngoing, Track: 1, Sum: sum, After: 6, Submitted: 3, By: 1, Put: true, Backer: -1, Since: -1, Until: -1}
	if x, ok := w.c.Refer().Get(0); !ok || x != want {
		t.Errorf("%+v", x)
	}
	if w.c.Pre().Wanted(sum) != 1 {
		t.Error("wanted:", w.c.Pre().Wanted(sum))
	}
	w.errs(api.Ext{Kind: api.ExtUnnote, Who: 1, Sum: sum}, api.ErrState)
	w.do(api.Ext{Kind: api.ExtSubmit, Who: 2, Sum: sum})
	w.do(api.Ext{Kind: api.ExtSubmit, Who: 2, Sum: api.Hash{1}}) // which is not noted
	if w.c.Pre().Wanted(sum) != 2 || w.c.Pre().Wanted(api.Hash{1}) != 1 {
		t.Error("wanted:", w.c.Pre().Wanted(sum))
	}
}

func TestP141DepositAndRefund(t *testing.T) {
	w := start(t)
	w.do(api.Ext{Kind: api.ExtSubmit, Who: 1, Track: 1})
	w.errs(api.Ext{Kind: api.ExtDeposit, Who: 2, Ref: 1}, api.ErrNone)
	w.do(api.Ext{Kind: api.ExtDeposit, Who: 2, Ref: 0})
	if x, _ := w.c.Refer().Get(0); x.Backer != 2 || w.c.Ledger().Held(2) != 20 {
		t.Errorf("%+v", x)
	}
	w.errs(api.Ext{Kind: api.ExtDeposit, Who: 3, Ref: 0}, api.ErrHas)
	w.errs(api.Ext{Kind: api.ExtRefund, Who: 2, Ref: 0}, api.ErrState)
	w.blocks(5)
	w.block(ended(0, api.StateRejected))
	w.errs(api.Ext{Kind: api.ExtRefund, Who: 3, Ref: 0}, api.ErrOrigin)
	w.do(api.Ext{Kind: api.ExtRefund, Who: 2, Ref: 0})
	w.do(api.Ext{Kind: api.ExtRefund, Who: 1, Ref: 0})
	if w.c.Ledger().Held(1) != 0 || w.c.Ledger().Held(2) != 0 {
		t.Error("deposits are not given back")
	}
}

func TestP141VotesAndDelegations(t *testing.T) {
	w := start(t)
	w.do(api.Ext{Kind: api.ExtSubmit, Who: 1, Track: 1})
	w.do(api.Ext{Kind: api.ExtDelegate, Who: 3, Track: 1, To: 2, Level: 1, N: 10})
	w.do(api.Ext{Kind: api.ExtVote, Who: 2, Ref: 0, Vote: aye(2, 10)})
	if got := w.c.Voting().Tally(0); got != (api.Tally{Ayes: 30, Support: 20}) {
		t.Errorf("%+v", got)
	}
	w.errs(api.Ext{Kind: api.ExtVote, Who: 3, Ref: 0, Vote: aye(2, 10)}, api.ErrHas)
	w.errs(api.Ext{Kind: api.ExtVote, Who: 4, Ref: 0, Vote: aye(2, 1001)}, api.ErrFunds)
	w.errs(api.Ext{Kind: api.ExtDelegate, Who: 2, Track: 1, To: 3, Level: 1, N: 10}, api.ErrState)
	w.errs(api.Ext{Kind: api.ExtDelegate, Who: 2, Track: 0, To: 2, Level: 1, N: 10}, api.ErrArg)
	w.errs(api.Ext{Kind: api.ExtTransfer, Who: 3, To: 2, N: 991}, api.ErrLocked)
	w.blocks(4)
	w.do(api.Ext{Kind: api.ExtUndelegate, Who: 3, Track: 1})
	w.errs(api.Ext{Kind: api.ExtUndelegate, Who: 3, Track: 1}, api.ErrNone)
	if until, n := w.c.Voting().Prior(3, 1); until != 12 || n != 10 {
		t.Error("the prior:", until, n)
	}
	w.blocks(7)
	w.do(api.Ext{Kind: api.ExtUnlock, Who: 3, Track: 1})
	if w.c.Ledger().Locked(3) != 10 {
		t.Error("unlocked ahead of its time")
	}
	w.blocks(1)
	w.do(api.Ext{Kind: api.ExtUnlock, Who: 3, Track: 1})
	if w.c.Ledger().Locked(3) != 0 {
		t.Error("locked:", w.c.Ledger().Locked(3))
	}
	w.do(api.Ext{Kind: api.ExtUnvote, Who: 2, Ref: 0})
	w.errs(api.Ext{Kind: api.ExtUnvote, Who: 2, Ref: 0}, api.ErrNone)
	if got := w.c.Voting().Tally(0); got != (api.Tally{}) {
		t.Errorf("%+v", got)
	}
	w.do(api.Ext{Kind: api.ExtUnlock, Who: 2, Track: 1})
	if w.c.Ledger().Locked(2) != 0 {
		t.Error("locked:", w.c.Ledger().Locked(2))
	}
}

func TestP141UnvoteIsAtTheBlock(t *testing.T) {
	w := start(t)
	w.propose(0, 0, 900, remark(1))
	w.block(approved(0))
	w.blocks(7)
	w.do(api.Ext{Kind: api.ExtUnvote, Who: 2, Ref: 0}) // at 8: it is locked up to 9
	if until, n := w.c.Voting().Prior(2, 0); until != 9 || n != 10 {
		t.Error("the prior:", until, n)
	}
	w = start(t)
	w.propose(0, 0, 900, remark(1))
	w.block(approved(0))
	w.blocks(8)
	w.do(api.Ext{Kind: api.ExtUnvote, Who: 2, Ref: 0}) // at 9
	if until, n := w.c.Voting().Prior(2, 0); until != 0 || n != 0 {
		t.Error("the prior:", until, n)
	}
}

func TestP142WhenItIsEnacted(t *testing.T) {
	for _, x := range []struct{ track, after, end, at int }{
		{0, 0, 1, 2}, // Enact of 0: one block at least
		{0, 1, 1, 2},
		{0, 7, 1, 8},
		{1, 0, 3, 7}, // Enact of 4
		{1, 4, 3, 7},
		{1, 5, 3, 8},
	} {
		w := start(t)
		w.propose(0, x.track, x.after, spend(4, 50))
		w.blocks(x.end - 1)
		w.block(approved(0))
		want := []api.Task{{Name: 0, At: x.at, Sum: code.Sum(spend(4, 50)), Track: x.track}}
		if got := slices.Collect(w.c.Agenda().All()); !slices.Equal(got, want) {
			t.Errorf("%+v: %+v, want %+v", x, got, want)
		}
		if w.c.Pre().Wanted(want[0].Sum) != 1 {
			t.Error("wanted:", w.c.Pre().Wanted(want[0].Sum))
		}
		w.blocks(x.at - x.end - 1)
		w.block(event(api.EventSpent, 4, 50), called(0))
		if w.c.Ledger().Free(4) != 1050 || w.c.Agenda().Len() != 0 || w.c.Pre().Wanted(want[0].Sum) != 0 {
			t.Errorf("%+v: %v", x, w.state())
		}
		w.blocks(20)
		if t.Failed() {
			t.Fatalf("%+v", x)
		}
	}
}

func TestP142MissedAndErrs(t *testing.T) {
	w := start(t)
	w.propose(0, 0, 1, spend(4, 101))
	w.do(api.Ext{Kind: api.ExtSubmit, Who: 1, Sum: api.Hash{7}}) // whose call is not there
	w.do(api.Ext{Kind: api.ExtDeposit, Who: 1, Ref: 1})
	w.do(api.Ext{Kind: api.ExtVote, Who: 2, Ref: 1, Vote: aye(1, 10)})
	w.propose(2, 0, 2, api.Call{Kind: api.CallBatch, Kids: []api.Call{spend(4, 100), spend(4, 100), cancel(0), remark(1)}})
	w.propose(3, 1, 0, kill(2))
	w.block(approved(0), approved(1), approved(2))
	if w.c.Pre().Wanted(api.Hash{7}) != 1 {
		t.Error("wanted:", w.c.Pre().Wanted(api.Hash{7}))
	}
	w.block(event(api.EventCalled, 0, int(api.ErrOver)), event(api.EventMissed, 1, 0))
	if w.c.Pre().Wanted(api.Hash{7}) != 0 || w.c.Pre().Wanted(code.Sum(spend(4, 101))) != 0 {
		t.Error("wanted still")
	}
	w.block(event(api.EventSpent, 4, 100), event(api.EventSpent, 4, 100), event(api.EventCalled, 2, int(api.ErrOrigin)), approved(3))
	if w.c.Ledger().Free(4) != 1200 {
		t.Error("what was done stays:", w.c.Ledger().Free(4))
	}
	w.blocks(3)
	w.block(event(api.EventCalled, 3, int(api.ErrOrigin)))
	w.do(api.Ext{Kind: api.ExtUnnote, Who: 1, Sum: code.Sum(spend(4, 101))})
}

func TestP142CallsOfOneSum(t *testing.T) {
	w := start(t)
	sum := code.Sum(remark(5))
	w.propose(0, 0, 0, remark(5))
	w.propose(1, 0, 3, remark(5))
	if w.c.Pre().Wanted(sum) != 2 {
		t.Error("wanted:", w.c.Pre().Wanted(sum))
	}
	w.block(approved(0), approved(1))
	w.block(event(api.EventRemark, 0, 5), called(0))
	w.errs(api.Ext{Kind: api.ExtUnnote, Who: 1, Sum: sum}, api.ErrState)
	w.block()
	w.block(event(api.EventRemark, 0, 5), called(1))
	w.do(api.Ext{Kind: api.ExtUnnote, Who: 1, Sum: sum})
}

func TestP142Budget(t *testing.T) {
	w := start(t)
	for ref := range 5 {
		w.propose(ref, 0, 1, remark(ref))
	}
	w.propose(5, 0, 2, remark(5))
	w.block(approved(0), approved(1), approved(2), approved(3), approved(4), approved(5))
	w.block(event(api.EventRemark, 0, 0), called(0), event(api.EventRemark, 0, 1), called(1))
	w.block(event(api.EventRemark, 0, 2), called(2), event(api.EventRemark, 0, 3), called(3))
	w.block(event(api.EventRemark, 0, 4), called(4), event(api.EventRemark, 0, 5), called(5))
	w.block()
}

func TestP142OtherEndsAreNotWanted(t *testing.T) {
	w := start(t)
	w.propose(0, 0, 0, remark(0))
	w.do(api.Ext{Kind: api.ExtVote, Who: 3, Ref: 0, Vote: api.Vote{Kind: api.VoteStandard, Level: 1, A: 11}})
	w.do(api.Ext{Kind: api.ExtSubmit, Who: 1, Sum: api.Hash{7}})
	w.blocks(2)
	if w.c.Pre().Wanted(code.Sum(remark(0))) != 1 {
		t.Error("it is ongoing")
	}
	w.block(ended(0, api.StateRejected))
	if w.c.Pre().Wanted(code.Sum(remark(0))) != 0 || w.c.Agenda().Len() != 0 {
		t.Error("what was rejected is wanted")
	}
	w.do(api.Ext{Kind: api.ExtUnnote, Who: 1, Sum: code.Sum(remark(0))})
	w.blocks(26)
	if w.c.Pre().Wanted(api.Hash{7}) != 1 {
		t.Error("it is ongoing")
	}
	w.block(ended(1, api.StateTimedOut))
	if w.c.Pre().Wanted(api.Hash{7}) != 0 {
		t.Error("what timed out is wanted")
	}
}

func TestP142EventsInOrder(t *testing.T) {
	w := start(t)
	w.do(api.Ext{Kind: api.ExtSubmit, Who: 3, Sum: api.Hash{8}})           // 0
	w.do(api.Ext{Kind: api.ExtSubmit, Who: 4, Track: 1, Sum: api.Hash{8}}) // 1
	w.do(api.Ext{Kind: api.ExtDeposit, Who: 5, Ref: 1})
	w.propose(2, 2, 0, cancel(0))
	w.propose(3, 2, 0, api.Call{Kind: api.CallBatch, Kids: []api.Call{kill(1), cancel(1)}})
	w.block(approved(2), approved(3))
	if w.c.Pre().Wanted(api.Hash{8}) != 2 {
		t.Error("wanted:", w.c.Pre().Wanted(api.Hash{8}))
	}
	w.propose(4, 0, 0, remark(4))
	w.block(
		ended(0, api.StateCancelled), called(2),
		ended(1, api.StateKilled), event(api.EventSlash, 4, 10), event(api.EventSlash, 5, 20), event(api.EventCalled, 3, int(api.ErrState)),
		approved(4))
	if w.c.Pre().Wanted(api.Hash{8}) != 0 {
		t.Error("wanted:", w.c.Pre().Wanted(api.Hash{8}))
	}
	if w.c.Ledger().Free(api.Treasury) != 1030 {
		t.Error("the treasury has", w.c.Ledger().Free(api.Treasury))
	}
	w.block(event(api.EventRemark, 0, 4), called(4))
}

func TestP142ACallMayEndWhatWouldPass(t *testing.T) {
	w := start(t)
	w.propose(0, 2, 0, cancel(1))
	w.block(approved(0))
	w.propose(1, 0, 0, remark(1))
	w.block(ended(1, api.StateCancelled), called(0)) // ahead of the Service, in which it would be approved
	w.blocks(5)
}

func TestP142TasksAreDoneAtTheirTrack(t *testing.T) {
	w := start(t)
	w.propose(0, 1, 0, spend(4, 60)) // the Cap there is 50
	w.propose(1, 0, 6, spend(4, 61))
	w.block(approved(1))
	w.blocks(1)
	w.block(approved(0))
	w.blocks(3)
	w.block(event(api.EventCalled, 0, int(api.ErrOver)), event(api.EventSpent, 4, 61), called(1))
}

func TestP143AnErrorChangesNothing(t *testing.T) {
	w := start(t)
	w.propose(0, 1, 0, remark(1))
	for _, who := range []int{0, 1, 2, 9} {
		for kind := range 13 {
			for _, n := range []int{0, 1, 5, 900, 2000} {
				e := api.Ext{Kind: kind, Who: who, N: n, To: 2, Ref: n % 13, Track: n % 5, Sum: api.Hash{byte(n)}, Vote: aye(1, n), Call: remark(n)}
				was := w.state()
				if err := w.c.Apply(e); err != api.OK && !slices.Equal(w.state(), was) {
					t.Errorf("%+v: %v changes something", e, err)
				}
			}
		}
	}
}

func TestP143WhatIsHandedInIsNotKept(t *testing.T) {
	free, l := []int{1000, 1000, 1000}, tracks()
	c, err := chain.New(free, l)
	if err != api.OK {
		t.Fatal(err)
	}
	free[1], l[0].Deposit = 7, 999
	if x, _ := c.Refer().Track(0); c.Ledger().Free(1) != 1000 || x.Deposit != 3 {
		t.Error("what was handed in is kept")
	}
	batch := api.Call{Kind: api.CallBatch, Kids: []api.Call{remark(1)}}
	sum := code.Sum(batch)
	if err := c.Apply(api.Ext{Kind: api.ExtNote, Who: 1, Call: batch}); err != api.OK {
		t.Fatal(err)
	}
	batch.Kids[0].N = 9
	if got, ok := c.Pre().Get(sum); !ok || got.Kids[0].N != 1 {
		t.Errorf("%+v, %v", got, ok)
	}
}

func TestP143NilChain(t *testing.T) {
	var c *chain.Chain
	if err := c.Apply(api.Ext{Kind: api.ExtTransfer, Who: 1, To: 2}); err != api.ErrArg {
		t.Error(err)
	}
	if len(c.Block()) != 0 || c.Now() != 0 || c.Ledger() != nil || c.Voting() != nil || c.Refer() != nil || c.Pre() != nil || c.Agenda() != nil {
		t.Error("a nil chain has something")
	}
}

func TestP143OneChainIsApartFromAnother(t *testing.T) {
	a, b := start(t), start(t)
	a.propose(0, 0, 0, remark(1))
	a.block(approved(0))
	a.block(event(api.EventRemark, 0, 1), called(0))
	if !slices.Equal(b.state(), start(t).state()) {
		t.Error("what is done to one is done to another")
	}
}
