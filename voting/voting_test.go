package voting_test

import (
	"slices"
	"testing"

	"althing/api"
	"althing/conv"
	"althing/ledger"
	"althing/voting"
)

// aye is a standard vote for it.
func aye(level, n int) api.Vote {
	return api.Vote{Kind: api.VoteStandard, Aye: true, Level: level, A: n}
}

// nay is a standard vote against it.
func nay(level, n int) api.Vote { return api.Vote{Kind: api.VoteStandard, Level: level, A: n} }

// split is a vote of both ways.
func split(ayes, nays int) api.Vote { return api.Vote{Kind: api.VoteSplit, A: ayes, N: nays} }

// abstain is a vote of all ways.
func abstain(ayes, nays, neither int) api.Vote {
	return api.Vote{Kind: api.VoteAbstain, A: ayes, N: nays, S: neither}
}

// world is a voting and the balances behind it.
type world struct {
	t *testing.T
	l *ledger.Ledger
	v *voting.Voting
}

// start is a world whose accounts have a thousand each, with the polls 0 to 3 open in track 0, and 4 and 5 in track 1.
func start(t *testing.T) *world {
	t.Helper()
	l, err := ledger.New([]int{1000, 1000, 1000, 1000, 1000, 1000, 1000, 1000, 1000, 1000})
	if err != api.OK {
		t.Fatal(err)
	}
	w := &world{t, l, voting.New()}
	for ref := range 6 {
		w.ok(w.v.Open(ref, ref/4))
	}
	return w
}

// ok checks that nothing errs.
func (w *world) ok(err api.Errno) {
	w.t.Helper()
	if err != api.OK {
		w.t.Error(err)
	}
}

// errs checks that a call errs so and changes nothing.
func (w *world) errs(what string, want api.Errno, do func() api.Errno) {
	w.t.Helper()
	was := w.state()
	if err := do(); err != want {
		w.t.Errorf("%s: %v, want %v", what, err, want)
	}
	if !slices.Equal(w.state(), was) {
		w.t.Errorf("%s changes something", what)
	}
}

// vote votes.
func (w *world) vote(who, ref int, x api.Vote) {
	w.t.Helper()
	w.ok(w.v.Vote(w.l, who, ref, x))
}

// delegate delegates.
func (w *world) delegate(who, track, to, level, n int) {
	w.t.Helper()
	w.ok(w.v.Delegate(w.l, who, track, to, level, n))
}

// state is all that a world tells, as numbers.
func (w *world) state() []int {
	var out []int
	for ref := -1; ref <= api.MaxRefs; ref++ {
		x := w.v.Tally(ref)
		out = append(out, x.Ayes, x.Nays, x.Support)
	}
	for who := range api.MaxAcc {
		out = append(out, w.l.Free(who), w.l.Held(who))
		for id, n := range w.l.Locks(who) {
			out = append(out, id, n)
		}
		for track := range api.MaxTracks {
			for ref, x := range w.v.Votes(who, track) {
				out = append(out, ref, x.Kind, x.Level, x.A, x.N, x.S)
			}
			to, level, n, _ := w.v.Delegating(who, track)
			until, prior := w.v.Prior(who, track)
			out = append(out, to, level, n, w.v.Got(who, track).Votes, w.v.Got(who, track).Capital, until, prior, -7)
		}
	}
	return out
}

// tally checks a poll's tally.
func (w *world) tally(ref, ayes, nays, support int) {
	w.t.Helper()
	if got := w.v.Tally(ref); got != (api.Tally{Ayes: ayes, Nays: nays, Support: support}) {
		w.t.Errorf("poll %d: %+v, want %d, %d, %d", ref, got, ayes, nays, support)
	}
}

// lock checks an account's lock of a track (0: none).
func (w *world) lock(who, track, want int) {
	w.t.Helper()
	got := 0
	for id, n := range w.l.Locks(who) {
		if id == track {
			got = n
		}
	}
	if got != want {
		w.t.Errorf("account %d, track %d: the lock is %d, want %d", who, track, got, want)
	}
}

// prior checks an account's prior lock.
func (w *world) prior(who, track, until, n int) {
	w.t.Helper()
	if u, m := w.v.Prior(who, track); u != until || m != n {
		w.t.Errorf("account %d, track %d: the prior is %d until %d, want %d until %d", who, track, m, u, n, until)
	}
}

// got checks what others lend an account.
func (w *world) got(who, track, votes, capital int) {
	w.t.Helper()
	if x := w.v.Got(who, track); x != (api.Weight{Votes: votes, Capital: capital}) {
		w.t.Errorf("account %d, track %d: got %+v, want %d, %d", who, track, x, votes, capital)
	}
}

// polls is the polls on which an account has votes.
func (w *world) polls(who, track int) []int {
	var out []int
	for ref := range w.v.Votes(who, track) {
		out = append(out, ref)
	}
	return out
}

func TestP111Open(t *testing.T) {
	w := &world{t, nil, voting.New()}
	for _, x := range [][2]int{{-1, 0}, {api.MaxRefs, 0}, {0, -1}, {0, api.MaxTracks}, {1 << 62, 1 << 62}} {
		w.errs("Open of none", api.ErrArg, func() api.Errno { return w.v.Open(x[0], x[1]) })
	}
	w.ok(w.v.Open(0, 0))
	w.ok(w.v.Open(api.MaxRefs-1, api.MaxTracks-1))
	w.errs("Open of one that is there", api.ErrHas, func() api.Errno { return w.v.Open(0, 0) })
	w.errs("Open of one that is there, in another track", api.ErrHas, func() api.Errno { return w.v.Open(0, 1) })
	w.errs("Open of one that is there, in no track", api.ErrArg, func() api.Errno { return w.v.Open(0, 4) })
	w.ok(w.v.Close(0, api.StateRejected, 3))
	w.errs("Open of one that is closed", api.ErrHas, func() api.Errno { return w.v.Open(0, 0) })
	w.tally(0, 0, 0, 0)
}

func TestP111Close(t *testing.T) {
	w := start(t)
	for _, ref := range []int{-1, 6, api.MaxRefs, 1 << 62} {
		w.errs("Close of none", api.ErrNone, func() api.Errno { return w.v.Close(ref, api.StateApproved, 5) })
		w.errs("Close of none, so", api.ErrNone, func() api.Errno { return w.v.Close(ref, 99, 5) })
	}
	for _, state := range []int{-1, 0, api.StateOngoing, 7, 1 << 62} {
		w.errs("Close so", api.ErrArg, func() api.Errno { return w.v.Close(0, state, 5) })
	}
	w.vote(1, 0, aye(1, 10)) // it is open still
	for i, state := range []int{api.StateApproved, api.StateRejected, api.StateTimedOut, api.StateCancelled, api.StateKilled} {
		w.ok(w.v.Close(i, state, 5))
		w.errs("Close of one that is closed", api.ErrState, func() api.Errno { return w.v.Close(i, state, 5) })
		w.errs("Close of one that is closed, so", api.ErrState, func() api.Errno { return w.v.Close(i, 99, 5) })
	}
	w.tally(0, 10, 0, 10)
	w.vote(1, 5, aye(1, 10))
}

func TestP112VoteCounts(t *testing.T) {
	w := start(t)
	w.vote(1, 0, aye(2, 100))
	w.tally(0, 200, 0, 100)
	w.vote(2, 0, nay(1, 50))
	w.tally(0, 200, 50, 100)
	w.vote(3, 0, split(30, 49))
	w.tally(0, 203, 54, 130)
	w.vote(4, 0, abstain(10, 20, 300))
	w.tally(0, 204, 56, 440)
	w.tally(1, 0, 0, 0)
	w.vote(1, 1, aye(0, 15))
	w.tally(1, 1, 0, 15)
	w.tally(0, 204, 56, 440)
	for who, want := range []int{0, 100, 50, 79, 330} {
		w.lock(who, 0, want)
		w.lock(who, 1, 0)
	}
	if l := w.polls(1, 0); !slices.Equal(l, []int{0, 1}) || w.polls(1, 1) != nil {
		t.Error("polls of 1:", l)
	}
	for ref, x := range w.v.Votes(3, 0) {
		if ref != 0 || x != split(30, 49) {
			t.Errorf("%d: %+v", ref, x)
		}
	}
}

func TestP112TheElderVoteIsTakenBack(t *testing.T) {
	w := start(t)
	w.vote(1, 0, aye(2, 100))
	w.vote(2, 0, aye(1, 7))
	w.vote(1, 0, nay(3, 40))
	w.tally(0, 7, 120, 7)
	w.lock(1, 0, 100) // it is not lowered
	w.vote(1, 0, abstain(100, 100, 100))
	w.tally(0, 17, 10, 207)
	w.lock(1, 0, 300)
	w.vote(1, 0, split(0, 0))
	w.tally(0, 7, 0, 7)
	if l := w.polls(1, 0); !slices.Equal(l, []int{0}) {
		t.Error(l)
	}
}

func TestP112LocksAreRaisedByTracks(t *testing.T) {
	w := start(t)
	w.l.Lock(1, 9, 5) // another id
	w.vote(1, 0, aye(1, 60))
	w.vote(1, 1, aye(1, 50))
	w.lock(1, 0, 60)
	w.vote(1, 2, aye(1, 61))
	w.lock(1, 0, 61)
	w.vote(1, 4, aye(1, 10))
	w.lock(1, 1, 10)
	w.lock(1, 0, 61)
	w.lock(1, 9, 5)
	w.l.Lock(1, 0, 0)
	w.vote(1, 3, aye(1, 3))
	w.lock(1, 0, 3) // it was not there
	w.vote(2, 4, aye(1, 0))
	if w.l.Locked(2) != 0 {
		t.Error("a vote of nothing locks", w.l.Locked(2))
	}
}

func TestP112VoteErrsInOrder(t *testing.T) {
	w := start(t)
	vote := func(who, ref int, x api.Vote) func() api.Errno {
		return func() api.Errno { return w.v.Vote(w.l, who, ref, x) }
	}
	w.delegate(5, 0, 6, 1, 10)
	w.ok(w.v.Close(3, api.StateApproved, 5))
	for _, who := range []int{-1, api.MaxAcc} {
		w.errs("of no account", api.ErrArg, vote(who, 0, aye(1, 1)))
		w.errs("of no account, on no poll", api.ErrArg, vote(who, 9, aye(1, 1)))
	}
	for _, x := range []api.Vote{{}, aye(7, 1), aye(1, -1), {Kind: api.VoteSplit, S: 1}} {
		w.errs("that may not be", api.ErrArg, vote(1, 0, x))
		w.errs("that may not be, on no poll", api.ErrArg, vote(1, 9, x))
	}
	for _, ref := range []int{-1, 6, api.MaxRefs, 1 << 62} {
		w.errs("on no poll", api.ErrNone, vote(1, ref, aye(1, 1)))
		w.errs("on no poll, of too much", api.ErrNone, vote(5, ref, aye(1, 1001)))
	}
	w.errs("on a closed poll", api.ErrState, vote(1, 3, aye(1, 1)))
	w.errs("on a closed poll, delegating", api.ErrState, vote(5, 3, aye(1, 1001)))
	w.errs("delegating", api.ErrHas, vote(5, 0, aye(1, 1)))
	w.errs("delegating, of too much", api.ErrHas, vote(5, 0, aye(1, 1001)))
	w.vote(5, 4, aye(1, 1)) // another track
	w.errs("of too much", api.ErrFunds, vote(1, 0, aye(1, 1001)))
	w.errs("of too much in all", api.ErrFunds, vote(1, 0, abstain(400, 400, 201)))
	w.vote(1, 0, aye(1, 1000))
	w.vote(1, 0, abstain(400, 400, 200))
	w.ok(w.l.Reserve(2, 999))
	w.errs("of what is held", api.ErrFunds, vote(2, 0, aye(1, 2)))
	w.vote(2, 0, aye(1, 1))
	w.errs("with no ledger", api.ErrArg, func() api.Errno { return w.v.Vote(nil, 1, 9, aye(1, 1)) })
}

func TestP112VotesAreFull(t *testing.T) {
	w := start(t)
	for ref := 6; ref < 9; ref++ {
		w.ok(w.v.Open(ref, 0))
	}
	w.vote(1, 4, aye(1, 1)) // another track doesn't count
	for _, ref := range []int{0, 1, 2, 3, 6} {
		w.vote(1, ref, aye(1, 1))
	}
	w.vote(2, 8, aye(1, 1)) // nor does another one's vote
	w.ok(w.v.Close(6, api.StateApproved, 5))
	w.vote(1, 7, aye(1, 1))
	w.errs("full", api.ErrFull, func() api.Errno { return w.v.Vote(w.l, 1, 8, aye(1, 1)) })
	w.errs("full, of too much", api.ErrFunds, func() api.Errno { return w.v.Vote(w.l, 1, 8, aye(1, 1001)) })
	w.vote(1, 7, nay(1, 2)) // who has a vote there may change it
	w.vote(1, 5, aye(1, 1))
	w.ok(w.v.Unvote(1, 6, 5)) // that of a closed poll counts, too
	w.vote(1, 8, aye(1, 1))
	if l := w.polls(1, 0); !slices.Equal(l, []int{0, 1, 2, 3, 7, 8}) {
		t.Error(l)
	}
}

func TestP113UnvoteOfAnOpenPoll(t *testing.T) {
	w := start(t)
	w.vote(1, 0, aye(2, 100))
	w.vote(2, 0, abstain(10, 20, 30))
	w.ok(w.v.Unvote(1, 0, 3))
	w.tally(0, 1, 2, 40)
	w.prior(1, 0, 0, 0)
	w.lock(1, 0, 100)
	if w.polls(1, 0) != nil {
		t.Error("the vote is there")
	}
	w.ok(w.v.Unvote(2, 0, 3))
	w.tally(0, 0, 0, 0)
	w.vote(1, 0, nay(1, 5))
	w.tally(0, 0, 5, 0)
}

func TestP113UnvoteErrs(t *testing.T) {
	w := start(t)
	w.vote(1, 0, aye(2, 100))
	unvote := func(who, ref int) func() api.Errno {
		return func() api.Errno { return w.v.Unvote(who, ref, 3) }
	}
	for _, who := range []int{-1, api.MaxAcc} {
		w.errs("of no account", api.ErrArg, unvote(who, 0))
		w.errs("of no account, on no poll", api.ErrArg, unvote(who, 9))
	}
	for _, ref := range []int{-1, 6, api.MaxRefs} {
		w.errs("on no poll", api.ErrNone, unvote(1, ref))
	}
	w.errs("of no vote", api.ErrNone, unvote(1, 1))
	w.errs("of another one's vote", api.ErrNone, unvote(2, 0))
	w.ok(w.v.Unvote(1, 0, 3))
	w.errs("twice", api.ErrNone, unvote(1, 0))
}

func TestP113WhoWonStaysLocked(t *testing.T) {
	for _, x := range []struct {
		vote       api.Vote
		state, now int
		until, n   int
	}{
		{aye(1, 70), api.StateApproved, 107, 108, 70},
		{aye(1, 70), api.StateApproved, 108, 0, 0}, // it has run out
		{aye(1, 70), api.StateApproved, 109, 0, 0},
		{aye(1, 70), api.StateApproved, 100, 108, 70},
		{aye(0, 70), api.StateApproved, 100, 0, 0},
		{aye(0, 70), api.StateApproved, 99, 100, 70},
		{aye(2, 70), api.StateApproved, 110, 116, 70},
		{aye(6, 70), api.StateApproved, 355, 356, 70},
		{aye(6, 70), api.StateApproved, 356, 0, 0},
		{nay(3, 70), api.StateRejected, 110, 132, 70},
		{nay(3, 70), api.StateRejected, 132, 0, 0},
		{nay(3, 70), api.StateApproved, 110, 0, 0},
		{aye(3, 70), api.StateRejected, 110, 0, 0},
		{aye(3, 70), api.StateTimedOut, 110, 0, 0},
		{nay(3, 70), api.StateTimedOut, 110, 0, 0},
		{aye(3, 70), api.StateCancelled, 110, 0, 0},
		{nay(3, 70), api.StateCancelled, 110, 0, 0},
		{aye(3, 70), api.StateKilled, 110, 0, 0},
		{nay(3, 70), api.StateKilled, 110, 0, 0},
		{split(70, 0), api.StateApproved, 99, 0, 0},
		{split(0, 70), api.StateRejected, 99, 0, 0},
		{abstain(70, 0, 0), api.StateApproved, 99, 0, 0},
		{abstain(0, 70, 0), api.StateRejected, 99, 0, 0},
	} {
		w := start(t)
		w.vote(1, 0, x.vote)
		w.vote(2, 0, aye(1, 5))
		was := w.v.Tally(0)
		w.ok(w.v.Close(0, x.state, 100))
		w.ok(w.v.Unvote(1, 0, x.now))
		w.prior(1, 0, x.until, x.n)
		w.prior(1, 1, 0, 0)
		w.lock(1, 0, 70)
		if w.v.Tally(0) != was || w.polls(1, 0) != nil {
			t.Errorf("%+v: the tally of a closed poll changes, or the vote is there: %+v", x, w.v.Tally(0))
		}
		if t.Failed() {
			t.Fatalf("%+v", x)
		}
	}
}

func TestP113PriorsJoin(t *testing.T) {
	w := start(t)
	w.vote(1, 0, aye(3, 70))
	w.vote(1, 1, aye(1, 90))
	w.vote(1, 2, aye(4, 10))
	w.vote(1, 4, aye(1, 500))
	for _, ref := range []int{0, 1, 2, 4} {
		w.ok(w.v.Close(ref, api.StateApproved, 100))
	}
	w.ok(w.v.Unvote(1, 0, 101))
	w.prior(1, 0, 132, 70)
	w.ok(w.v.Unvote(1, 1, 101))
	w.prior(1, 0, 132, 90) // the later until, the greater n
	w.ok(w.v.Unvote(1, 2, 101))
	w.prior(1, 0, 164, 90)
	w.ok(w.v.Unvote(1, 4, 101))
	w.prior(1, 1, 108, 500)
	w.prior(1, 0, 164, 90)
}

func TestP114DelegationsLendWeight(t *testing.T) {
	w := start(t)
	w.delegate(2, 0, 1, 1, 10)
	w.got(1, 0, 10, 10)
	w.got(1, 1, 0, 0)
	w.got(2, 0, 0, 0)
	w.vote(1, 0, aye(2, 10))
	w.tally(0, 30, 0, 20)
	w.vote(1, 1, nay(1, 10))
	w.tally(1, 0, 20, 0)
	w.vote(1, 2, split(10, 10))
	w.tally(2, 1, 1, 10)
	w.vote(1, 4, aye(1, 10)) // another track
	w.tally(4, 10, 0, 10)
	w.ok(w.v.Close(1, api.StateRejected, 5))
	w.delegate(3, 0, 1, 3, 100)
	w.got(1, 0, 310, 110)
	w.tally(0, 330, 0, 120)
	w.tally(1, 0, 20, 0) // it is closed
	w.tally(2, 1, 1, 10) // a split vote gains nothing by it
	w.tally(4, 10, 0, 10)
	w.vote(1, 3, nay(0, 10))
	w.tally(3, 0, 311, 0)
	w.delegate(4, 1, 1, 0, 55)
	w.got(1, 1, 5, 55)
	w.tally(4, 15, 0, 65)
	w.tally(0, 330, 0, 120)
	w.vote(1, 0, nay(1, 20)) // a vote is changed with what it got
	w.tally(0, 0, 330, 0)
	w.ok(w.v.Unvote(1, 0, 5))
	w.tally(0, 0, 0, 0)
	for who, want := range []int{0, 20, 10, 100, 0} {
		w.lock(who, 0, want)
	}
	w.lock(4, 1, 55)
	if to, level, n, ok := w.v.Delegating(3, 0); to != 1 || level != 3 || n != 100 || !ok {
		t.Error("delegating:", to, level, n, ok)
	}
	if to, level, n, ok := w.v.Delegating(3, 1); to != 0 || level != 0 || n != 0 || ok {
		t.Error("delegating in no such track:", to, level, n, ok)
	}
}

func TestP114WeightIsNotLentOn(t *testing.T) {
	w := start(t)
	w.vote(3, 0, aye(1, 1))
	w.delegate(1, 0, 2, 1, 10)
	w.delegate(2, 0, 3, 1, 100)
	w.got(2, 0, 10, 10)
	w.got(3, 0, 100, 100)
	w.tally(0, 101, 0, 101)
	w.delegate(4, 0, 2, 1, 5)
	w.got(3, 0, 100, 100)
	w.tally(0, 101, 0, 101)
}

func TestP114DelegateRaisesTheLock(t *testing.T) {
	w := start(t)
	w.vote(1, 0, aye(1, 60))
	w.ok(w.v.Unvote(1, 0, 1))
	w.delegate(1, 0, 2, 6, 50)
	w.lock(1, 0, 60)
	w.ok(w.v.Undelegate(1, 0, 1))
	w.delegate(1, 0, 2, 6, 61)
	w.lock(1, 0, 61)
	w.delegate(3, 1, 2, 6, 0)
	if w.l.Locked(3) != 0 {
		t.Error("a delegation of nothing locks", w.l.Locked(3))
	}
	if _, _, _, ok := w.v.Delegating(3, 1); !ok {
		t.Error("a delegation of nothing is one")
	}
}

func TestP114DelegateErrsInOrder(t *testing.T) {
	w := start(t)
	w.delegate(5, 0, 6, 1, 10)
	w.vote(7, 0, aye(1, 1))
	w.vote(8, 1, aye(1, 1))
	w.ok(w.v.Close(1, api.StateApproved, 3))
	delegate := func(who, track, to, level, n int) func() api.Errno {
		return func() api.Errno { return w.v.Delegate(w.l, who, track, to, level, n) }
	}
	for _, who := range []int{1, 5, 7} { // those who delegate and vote, too
		for _, bad := range []int{-1, api.MaxAcc} {
			w.errs("of no account", api.ErrArg, delegate(bad, 0, who, 1, 1))
			w.errs("to no account", api.ErrArg, delegate(who, 0, bad, 1, 1))
		}
		w.errs("to oneself", api.ErrArg, delegate(who, 0, who, 1, 1))
		for _, track := range []int{-1, api.MaxTracks} {
			w.errs("in no track", api.ErrArg, delegate(who, track, 2, 1, 1))
		}
		for _, level := range []int{-1, api.MaxLevel + 1} {
			w.errs("of no level", api.ErrArg, delegate(who, 0, 2, level, 1))
		}
		for _, n := range []int{-1, api.MaxBal + 1} {
			w.errs("of no balance", api.ErrArg, delegate(who, 0, 2, 1, n))
		}
		w.errs("with no ledger", api.ErrArg, func() api.Errno { return w.v.Delegate(nil, who, 0, 2, 1, 1) })
	}
	w.errs("twice", api.ErrHas, delegate(5, 0, 6, 1, 1001))
	w.errs("with a vote", api.ErrState, delegate(7, 0, 6, 1, 1001))
	w.errs("with a vote on a closed poll", api.ErrState, delegate(8, 0, 6, 1, 1001))
	w.errs("of too much", api.ErrFunds, delegate(1, 0, 6, 1, 1001))
	w.ok(w.l.Reserve(1, 1))
	w.errs("of what is held", api.ErrFunds, delegate(1, 0, 6, 1, 1000))
	w.delegate(1, 0, 6, 6, 999)
	w.delegate(7, 1, 6, 1, 1)
	w.delegate(5, 3, 6, 0, 1)
}

func TestP114Undelegate(t *testing.T) {
	w := start(t)
	w.vote(1, 0, aye(1, 10))
	w.vote(1, 1, nay(1, 10))
	w.vote(1, 4, aye(1, 10))
	w.delegate(2, 0, 1, 2, 30)
	w.delegate(3, 0, 1, 1, 7)
	w.delegate(2, 1, 1, 1, 4)
	w.tally(0, 77, 0, 47)
	w.tally(1, 0, 77, 0)
	w.ok(w.v.Close(1, api.StateRejected, 9))
	w.ok(w.v.Undelegate(2, 0, 50))
	w.got(1, 0, 7, 7)
	w.got(1, 1, 4, 4)
	w.tally(0, 17, 0, 17)
	w.tally(1, 0, 77, 0) // it is closed
	w.tally(4, 14, 0, 14)
	w.prior(2, 0, 66, 30)
	w.prior(2, 1, 0, 0)
	w.prior(1, 0, 0, 0)
	w.lock(2, 0, 30)
	if to, level, n, ok := w.v.Delegating(2, 0); to != 0 || level != 0 || n != 0 || ok {
		t.Error("delegating:", to, level, n, ok)
	}
	if _, _, _, ok := w.v.Delegating(2, 1); !ok {
		t.Error("the delegation in another track is gone")
	}
	w.vote(2, 0, aye(1, 1))
	w.tally(0, 18, 0, 18)
	w.ok(w.v.Undelegate(3, 0, 50))
	w.got(1, 0, 0, 0)
	w.prior(3, 0, 58, 7)
	w.tally(0, 11, 0, 11)
}

func TestP114UndelegatedPriors(t *testing.T) {
	w := start(t)
	w.delegate(1, 0, 2, 0, 30)
	w.ok(w.v.Undelegate(1, 0, 50))
	w.prior(1, 0, 0, 0) // a level of 0 locks nothing
	w.delegate(1, 0, 2, 6, 30)
	w.ok(w.v.Undelegate(1, 0, 50))
	w.prior(1, 0, 306, 30)
	w.delegate(1, 0, 2, 1, 40)
	w.ok(w.v.Undelegate(1, 0, 60))
	w.prior(1, 0, 306, 40)
	w.delegate(1, 0, 2, 6, 5)
	w.ok(w.v.Undelegate(1, 0, 61))
	w.prior(1, 0, 317, 40)
}

func TestP114UndelegateErrs(t *testing.T) {
	w := start(t)
	w.delegate(1, 0, 2, 1, 10)
	undelegate := func(who, track int) func() api.Errno {
		return func() api.Errno { return w.v.Undelegate(who, track, 3) }
	}
	for _, who := range []int{-1, api.MaxAcc} {
		w.errs("of no account", api.ErrArg, undelegate(who, 0))
	}
	for _, track := range []int{-1, api.MaxTracks} {
		w.errs("in no track", api.ErrArg, undelegate(1, track))
	}
	w.errs("of none", api.ErrNone, undelegate(2, 0))
	w.errs("of none in that track", api.ErrNone, undelegate(1, 1))
	w.ok(w.v.Undelegate(1, 0, 3))
	w.errs("twice", api.ErrNone, undelegate(1, 0))
}

func TestP115UnlockOfVotes(t *testing.T) {
	w := start(t)
	w.vote(1, 0, aye(1, 60))
	w.vote(1, 1, abstain(10, 20, 50))
	w.vote(1, 2, aye(1, 5))
	w.vote(1, 4, aye(1, 90))
	w.l.Lock(1, 0, 500)
	w.l.Lock(1, 1, 400)
	w.ok(w.v.Unlock(w.l, 1, 0, 5))
	w.lock(1, 0, 80)
	w.lock(1, 1, 400)
	w.ok(w.v.Unvote(1, 1, 5))
	w.lock(1, 0, 80)
	w.ok(w.v.Unlock(w.l, 1, 0, 5))
	w.lock(1, 0, 60)
	w.ok(w.v.Close(0, api.StateTimedOut, 5))
	w.ok(w.v.Unlock(w.l, 1, 0, 5))
	w.lock(1, 0, 60) // the vote is there till it is taken away
	w.ok(w.v.Unvote(1, 0, 5))
	w.ok(w.v.Unlock(w.l, 1, 0, 5))
	w.lock(1, 0, 5)
	w.ok(w.v.Unvote(1, 2, 5))
	w.ok(w.v.Unlock(w.l, 1, 0, 5))
	w.lock(1, 0, 0)
	w.ok(w.v.Unlock(w.l, 1, 1, 5))
	w.lock(1, 1, 90)
	w.l.Lock(1, 1, 0)
	w.ok(w.v.Unlock(w.l, 1, 1, 5))
	w.lock(1, 1, 90) // it becomes that, whatever it was
	w.ok(w.v.Unlock(w.l, 1, 3, 5))
	w.lock(1, 3, 0)
}

func TestP115UnlockOfDelegations(t *testing.T) {
	w := start(t)
	w.delegate(1, 0, 2, 2, 70)
	w.l.Lock(1, 0, 500)
	w.ok(w.v.Unlock(w.l, 1, 0, 5))
	w.lock(1, 0, 70)
	w.ok(w.v.Undelegate(1, 0, 10))
	w.prior(1, 0, 26, 70)
	w.ok(w.v.Unlock(w.l, 1, 0, 25))
	w.lock(1, 0, 70)
	w.prior(1, 0, 26, 70)
	w.vote(1, 0, aye(1, 30))
	w.ok(w.v.Unlock(w.l, 1, 1, 26)) // another track
	w.lock(1, 0, 70)
	w.prior(1, 0, 26, 70)
	w.ok(w.v.Unlock(w.l, 2, 0, 26)) // another account
	w.prior(1, 0, 26, 70)
	w.ok(w.v.Unlock(w.l, 1, 0, 26))
	w.prior(1, 0, 0, 0)
	w.lock(1, 0, 30)
	w.ok(w.v.Unvote(1, 0, 26))
	w.ok(w.v.Unlock(w.l, 1, 0, 26))
	w.lock(1, 0, 0)
}

func TestP115UnlockOfPriors(t *testing.T) {
	w := start(t)
	w.vote(1, 0, aye(1, 70))
	w.vote(1, 1, aye(1, 90))
	w.ok(w.v.Close(0, api.StateApproved, 100))
	w.ok(w.v.Unvote(1, 0, 100))
	w.ok(w.v.Unvote(1, 1, 100))
	w.ok(w.v.Unlock(w.l, 1, 0, 107))
	w.lock(1, 0, 70)
	w.delegate(1, 0, 2, 1, 40)
	w.ok(w.v.Unlock(w.l, 1, 0, 107))
	w.lock(1, 0, 70)
	w.ok(w.v.Unlock(w.l, 1, 0, 108))
	w.lock(1, 0, 40)
	w.prior(1, 0, 0, 0)
}

func TestP115UnlockErrs(t *testing.T) {
	w := start(t)
	w.vote(1, 0, aye(1, 70))
	w.l.Lock(1, 0, 100)
	for _, x := range [][2]int{{-1, 0}, {api.MaxAcc, 0}, {1, -1}, {1, api.MaxTracks}} {
		w.errs("Unlock of none", api.ErrArg, func() api.Errno { return w.v.Unlock(w.l, x[0], x[1], 5) })
	}
	w.errs("with no ledger", api.ErrArg, func() api.Errno { return w.v.Unlock(nil, 1, 0, 5) })
}

func TestP115WhatIsToldOfNone(t *testing.T) {
	w := start(t)
	w.vote(1, 0, aye(1, 70))
	w.delegate(2, 1, 1, 1, 5)
	for _, ref := range []int{-1, 6, api.MaxRefs, -1 << 63, 1<<63 - 1} {
		w.tally(ref, 0, 0, 0)
	}
	for _, x := range [][2]int{{-1, 0}, {api.MaxAcc, 0}, {1, -1}, {1, api.MaxTracks}, {3, 0}, {-1 << 63, 1<<63 - 1}} {
		to, level, n, ok := w.v.Delegating(x[0], x[1])
		until, much := w.v.Prior(x[0], x[1])
		if to != 0 || level != 0 || n != 0 || ok || until != 0 || much != 0 || w.v.Got(x[0], x[1]) != (api.Weight{}) || w.polls(x[0], x[1]) != nil {
			t.Error("something is told of", x)
		}
	}
}

func TestP115VotesAreToldByPolls(t *testing.T) {
	w := start(t)
	for _, ref := range []int{5, 2, 0, 4, 3} {
		w.vote(1, ref, aye(1, ref))
	}
	if l := w.polls(1, 0); !slices.Equal(l, []int{0, 2, 3}) {
		t.Error(l)
	}
	if l := w.polls(1, 1); !slices.Equal(l, []int{4, 5}) {
		t.Error(l)
	}
	n := 0
	for ref, x := range w.v.Votes(1, 0) {
		n++
		if x != aye(1, ref) {
			t.Errorf("%d: %+v", ref, x)
		}
		w.ok(w.v.Unvote(1, ref, 3))
		if ref == 2 {
			break
		}
	}
	if l := w.polls(1, 0); n != 2 || !slices.Equal(l, []int{3}) {
		t.Error("stopped:", n, l)
	}
}

func TestP116NilVoting(t *testing.T) {
	w := start(t)
	w.v = nil
	for i, err := range []api.Errno{
		w.v.Open(0, 0), w.v.Close(0, api.StateApproved, 1), w.v.Vote(w.l, 1, 0, aye(1, 1)), w.v.Unvote(1, 0, 1),
		w.v.Delegate(w.l, 1, 0, 2, 1, 1), w.v.Undelegate(1, 0, 1), w.v.Unlock(w.l, 1, 0, 1),
	} {
		if err != api.ErrArg {
			t.Errorf("call %d: %v", i, err)
		}
	}
	to, level, n, ok := w.v.Delegating(1, 0)
	if to != 0 || level != 0 || n != 0 || ok {
		t.Error("delegating:", to, level, n, ok)
	}
	w.tally(0, 0, 0, 0)
	w.got(1, 0, 0, 0)
	w.prior(1, 0, 0, 0)
	if w.polls(1, 0) != nil {
		t.Error("a nil voting has votes")
	}
}

// recount is what all votes on a poll gain, counted anew.
func (w *world) recount(ref, track int) api.Tally {
	var sum api.Tally
	for who := range api.MaxAcc {
		var lent api.Weight
		for other := range api.MaxAcc {
			if to, level, n, ok := w.v.Delegating(other, track); ok && to == who {
				lent.Votes += conv.Votes(n, level)
				lent.Capital += n
			}
		}
		for r, x := range w.v.Votes(who, track) {
			if r == ref {
				sum = conv.Add(sum, conv.Gain(x, lent))
			}
		}
	}
	return sum
}

// dice is a row of numbers that look like chance.
type dice uint64

// roll is the next number, below n.
func (d *dice) roll(n int) int {
	*d = *d*6364136223846793005 + 1442695040888963407
	return int(*d >> 33 % dice(n))
}

// ballot is some vote.
func (d *dice) ballot() api.Vote {
	switch d.roll(4) {
	case 0:
		return split(d.roll(300), d.roll(300))
	case 1:
		return abstain(d.roll(200), d.roll(200), d.roll(200))
	case 2:
		return nay(d.roll(7), d.roll(600))
	}
	return aye(d.roll(7), d.roll(600))
}

func TestP116TheTallyIsAlwaysWhatAllVotesGain(t *testing.T) {
	w := start(t)
	d := dice(7)
	done := 0
	for range 4000 {
		who, ref, track := d.roll(5), d.roll(6), d.roll(2)
		was := w.state()
		var err api.Errno
		switch d.roll(6) {
		case 0, 1:
			err = w.v.Vote(w.l, who, ref, d.ballot())
		case 2:
			err = w.v.Unvote(who, ref, d.roll(50))
		case 3:
			err = w.v.Delegate(w.l, who, track, d.roll(5), d.roll(7), d.roll(400))
		case 4:
			err = w.v.Undelegate(who, track, d.roll(50))
		default:
			err = w.v.Unlock(w.l, who, track, d.roll(50))
		}
		if err == api.OK {
			done++
		} else if !slices.Equal(w.state(), was) {
			t.Fatal("an error changes something:", err)
		}
		for ref := range 6 {
			if got, want := w.v.Tally(ref), w.recount(ref, ref/4); got != want {
				t.Fatalf("poll %d: %+v, want %+v", ref, got, want)
			}
		}
		for who := range 5 {
			if w.l.Free(who) < w.l.Locked(who) {
				t.Fatalf("account %d: locked %d, free %d", who, w.l.Locked(who), w.l.Free(who))
			}
		}
	}
	if done < 1000 {
		t.Error("too little was done:", done)
	}
}
