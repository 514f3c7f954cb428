package refer_test

import (
	"slices"
	"testing"

	"althing/api"
	"althing/ledger"
	"althing/refer"
	"althing/voting"
)

const (
	bill = api.Bill
	rich = 9 // the account that has most of all there is
)

// flat is a threshold that is always the same.
func flat(part int) api.Curve {
	return api.Curve{Kind: api.CurveLinear, A: part, B: part, C: bill}
}

// tracks is three kinds: approval of half; support from half down to nothing, of a tenth, of nothing.
func tracks() []api.Track {
	falling := api.Curve{Kind: api.CurveLinear, A: bill / 2, B: 0, C: bill}
	return []api.Track{
		{Most: 2, Deposit: 20, Prepare: 3, Decision: 10, Confirm: 4, Enact: 2, Approval: flat(bill / 2), Support: falling, Cap: 100},
		{Most: 1, Deposit: 0, Prepare: 0, Decision: 5, Confirm: 0, Enact: 0, Approval: flat(bill / 2), Support: flat(bill / 10), Rank: 1},
		{Most: 12, Deposit: 7, Prepare: 0, Decision: 5, Confirm: 3, Approval: flat(bill / 2), Support: flat(0), Rank: 2},
	}
}

// world is referenda, their polls, and the balances behind them.
type world struct {
	t *testing.T
	l *ledger.Ledger
	v *voting.Voting
	r *refer.Refer
}

// start is a world in which a hundred thousand are issued.
func start(t *testing.T) *world {
	t.Helper()
	l, err := ledger.New([]int{1000, 1000, 1000, 1000, 1000, 1000, 1000, 1000, 1000, 91000})
	if err != api.OK {
		t.Fatal(err)
	}
	r, err := refer.New(tracks())
	if err != api.OK || r == nil {
		t.Fatal(err)
	}
	return &world{t, l, voting.New(), r}
}

// ok checks that nothing errs.
func (w *world) ok(err api.Errno) {
	w.t.Helper()
	if err != api.OK {
		w.t.Error(err)
	}
}

// submit submits a referendum, of which the next number is known.
func (w *world) submit(who, track, now, ref int) {
	w.t.Helper()
	got, err := w.r.Submit(w.l, w.v, who, track, api.Hash{byte(ref + 1)}, 5, now)
	if err != api.OK || got != ref {
		w.t.Fatalf("Submit: %d, %v, want %d", got, err, ref)
	}
}

// deposit backs a referendum.
func (w *world) deposit(who, ref int) {
	w.t.Helper()
	w.ok(w.r.Deposit(w.l, who, ref))
}

// aye votes for a referendum.
func (w *world) aye(who, ref, n int) {
	w.t.Helper()
	w.ok(w.v.Vote(w.l, who, ref, api.Vote{Kind: api.VoteStandard, Aye: true, Level: 1, A: n}))
}

// nay votes against a referendum.
func (w *world) nay(who, ref, n int) {
	w.t.Helper()
	w.ok(w.v.Vote(w.l, who, ref, api.Vote{Kind: api.VoteStandard, Level: 1, A: n}))
}

// get is a referendum that is there.
func (w *world) get(ref int) api.Referendum {
	w.t.Helper()
	x, ok := w.r.Get(ref)
	if !ok {
		w.t.Fatalf("referendum %d is not there", ref)
	}
	return x
}

// service services and checks the events.
func (w *world) service(now int, want ...api.Event) {
	w.t.Helper()
	if got := w.r.Service(w.l, w.v, now); !slices.Equal(got, want) {
		w.t.Errorf("Service at %d: %v, want %v", now, got, want)
	}
}

// ended is the event of an end.
func ended(ref, state int) api.Event { return api.Event{Kind: api.EventEnded, A: ref, B: state} }

// slashed is the event of a slash.
func slashed(who, n int) api.Event { return api.Event{Kind: api.EventSlash, A: who, B: n} }

// state checks the state of a referendum, and since when and until when it is decided.
func (w *world) state(ref, state, since, until int) {
	w.t.Helper()
	if x := w.get(ref); x.State != state || x.Since != since || x.Until != until {
		w.t.Errorf("referendum %d: state %d since %d until %d, want %d, %d, %d", ref, x.State, x.Since, x.Until, state, since, until)
	}
}

// closed tells whether a poll is.
func (w *world) closed(ref int) bool { return w.v.Close(ref, 0, 0) == api.ErrState }

// all is all that a world tells of balances and referenda.
func (w *world) all() ([]int, []api.Referendum) {
	var n []int
	var l []api.Referendum
	for a := range api.MaxAcc {
		n = append(n, w.l.Free(a), w.l.Held(a))
	}
	for ref := range api.MaxRefs {
		n = append(n, int(w.v.Close(ref, 0, 0)))
	}
	for i, x := range w.r.All() {
		n = append(n, i)
		l = append(l, x)
	}
	return n, l
}

// errs checks that a call errs so and changes nothing.
func (w *world) errs(what string, want api.Errno, do func() api.Errno) {
	w.t.Helper()
	n, l := w.all()
	if err := do(); err != want {
		w.t.Errorf("%s: %v, want %v", what, err, want)
	}
	if m, k := w.all(); !slices.Equal(n, m) || !slices.Equal(l, k) {
		w.t.Errorf("%s changes something", what)
	}
}

func TestP121New(t *testing.T) {
	good := tracks()
	for n := 1; n <= 4; n++ {
		l := append(tracks(), good[0])[:n]
		r, err := refer.New(l)
		if err != api.OK || r == nil {
			t.Fatal(n, "tracks:", err)
		}
		for i := -1; i <= 4; i++ {
			x, ok := r.Track(i)
			if ok != (0 <= i && i < n) || ok && x != l[i] || !ok && x != (api.Track{}) {
				t.Errorf("of %d tracks Track(%d): %+v, %v", n, i, x, ok)
			}
		}
	}
	bad := good[0]
	bad.Most = 0
	for _, l := range [][]api.Track{nil, {}, {bad}, {good[0], good[1], bad}, {good[0], good[0], good[0], good[0], good[0]}} {
		if r, err := refer.New(l); err != api.ErrArg || r != nil {
			t.Errorf("%d tracks: %v, %v", len(l), r, err)
		}
	}
}

func TestP121Submit(t *testing.T) {
	w := start(t)
	for ref, x := range []struct{ who, track, after, now int }{{1, 0, 0, 0}, {2, 2, 1000, 7}, {1, 1, 3, 1 << 30}} {
		sum := api.Hash{byte(ref), 31: 7}
		got, err := w.r.Submit(w.l, w.v, x.who, x.track, sum, x.after, x.now)
		if err != api.OK || got != ref {
			t.Fatal(got, err)
		}
		want := api.Referendum{State: api.StateOngoing, Track: x.track, Sum: sum, After: x.after, Submitted: x.now, By: x.who, Put: true, Backer: -1, Since: -1, Until: -1}
		if y := w.get(ref); y != want {
			t.Errorf("%+v, want %+v", y, want)
		}
	}
	if w.l.Held(1) != 20 || w.l.Free(1) != 980 || w.l.Held(2) != 10 {
		t.Error("deposits:", w.l.Held(1), w.l.Free(1), w.l.Held(2))
	}
	w.aye(3, 1, 10)
	n := 0
	for ref := range w.v.Votes(3, 2) { // its poll is open, and in its track
		n += ref
	}
	if n != 1 {
		t.Error("the poll is of another track")
	}
}

func TestP121SubmitErrsInOrder(t *testing.T) {
	w := start(t)
	submit := func(who, track, after int) func() api.Errno {
		return func() api.Errno {
			ref, err := w.r.Submit(w.l, w.v, who, track, api.Hash{}, after, 0)
			if ref != 0 {
				t.Error("an error answers", ref)
			}
			return err
		}
	}
	w.submit(1, 0, 0, 0)
	w.l.Burn(8, 991)
	arguments := func() {
		for _, who := range []int{-1, api.MaxAcc} {
			w.errs("of no account", api.ErrArg, submit(who, 0, 0))
		}
		for _, track := range []int{-1, 3, 4} {
			w.errs("in no track", api.ErrArg, submit(1, track, 0))
			w.errs("in no track, of too little", api.ErrArg, submit(8, track, 0))
		}
		for _, after := range []int{-1, 1001} {
			w.errs("after no period", api.ErrArg, submit(1, 0, after))
			w.errs("after no period, of too little", api.ErrArg, submit(8, 0, after))
		}
		w.errs("with no ledger", api.ErrArg, func() api.Errno { _, err := w.r.Submit(nil, w.v, 1, 0, api.Hash{}, 0, 0); return err })
		w.errs("with no voting", api.ErrArg, func() api.Errno { _, err := w.r.Submit(w.l, nil, 1, 0, api.Hash{}, 0, 0); return err })
	}
	arguments()
	w.errs("of too little", api.ErrFunds, submit(8, 0, 0))
	w.l.Mint(8, 1)
	w.l.Lock(8, 0, 1)
	w.errs("of what is locked", api.ErrLocked, submit(8, 0, 0))
	w.ok(w.v.Open(1, 2))
	w.errs("with a poll there", api.ErrHas, submit(1, 0, 0))
	w.errs("with a poll there, of what is locked", api.ErrHas, submit(8, 0, 0))
	w.ok(w.v.Close(1, api.StateApproved, 3))
	w.errs("with a closed poll there", api.ErrHas, submit(1, 0, 0))
	w.v = voting.New()
	for ref := 1; ref < api.MaxRefs; ref++ {
		w.submit(ref%3, 0, 0, ref)
	}
	w.errs("full", api.ErrFull, submit(1, 0, 0))
	w.errs("full, of what is locked", api.ErrFull, submit(8, 0, 0))
	arguments()
	w.r.Cancel(w.v, 3, 4)
	w.errs("full, though one has ended", api.ErrFull, submit(1, 0, 0))
}

func TestP122Deposit(t *testing.T) {
	w := start(t)
	w.submit(1, 0, 0, 0)
	w.submit(1, 1, 0, 1)
	deposit := func(who, ref int) func() api.Errno {
		return func() api.Errno { return w.r.Deposit(w.l, who, ref) }
	}
	for _, ref := range []int{-1, 2, 12, 1 << 62} {
		w.errs("of none", api.ErrNone, deposit(2, ref))
		w.errs("of none, by none", api.ErrNone, deposit(-1, ref))
	}
	for _, who := range []int{-1, api.MaxAcc} {
		w.errs("by none", api.ErrArg, deposit(who, 0))
	}
	w.l.Burn(8, 981)
	w.errs("of too little", api.ErrFunds, deposit(8, 0))
	w.l.Mint(8, 1)
	w.l.Lock(8, 0, 1)
	w.errs("of what is locked", api.ErrLocked, deposit(8, 0))
	w.errs("with no ledger", api.ErrArg, func() api.Errno { return w.r.Deposit(nil, 2, 5) })
	want := w.get(0)
	want.Backer = 2
	w.deposit(2, 0)
	if x := w.get(0); x != want || w.l.Held(2) != 20 || w.l.Free(2) != 980 {
		t.Errorf("%+v; held %d", x, w.l.Held(2))
	}
	w.errs("twice", api.ErrHas, deposit(2, 0))
	w.errs("with another Backer", api.ErrHas, deposit(8, 0))
	w.errs("with another Backer, by none", api.ErrHas, deposit(-1, 0))
	w.deposit(0, 1) // by the account 0, of nothing
	w.errs("of nothing, twice", api.ErrHas, deposit(2, 1))
	w.r.Cancel(w.v, 0, 4)
	w.errs("of one that has ended", api.ErrState, deposit(3, 0))
	w.errs("of one that has ended, by none", api.ErrState, deposit(-1, 0))
	w.ok(w.r.Refund(w.l, 2, 0))
	w.errs("of one that has ended and is backed no more", api.ErrState, deposit(3, 0))
}

func TestP122Refund(t *testing.T) {
	w := start(t)
	w.submit(1, 0, 0, 0)
	w.submit(3, 0, 0, 1)
	w.submit(0, 2, 0, 2)
	w.submit(4, 2, 0, 3)
	w.deposit(2, 0)
	w.deposit(3, 1)
	w.deposit(0, 2)
	refund := func(who, ref int) func() api.Errno {
		return func() api.Errno { return w.r.Refund(w.l, who, ref) }
	}
	for _, ref := range []int{-1, 4, 12} {
		w.errs("of none", api.ErrNone, refund(1, ref))
	}
	w.errs("of one that is ongoing", api.ErrState, refund(1, 0))
	w.errs("of one that is ongoing, by none", api.ErrState, refund(-1, 0))
	for ref := range 4 {
		w.r.Cancel(w.v, ref, 5)
	}
	for _, who := range []int{-1, 0, 3, api.MaxAcc} {
		w.errs("by another one", api.ErrOrigin, refund(who, 0))
	}
	w.errs("by none, without a Backer", api.ErrOrigin, refund(-1, 3))
	w.errs("with no ledger", api.ErrArg, func() api.Errno { return w.r.Refund(nil, 1, 9) })
	w.l.Reserve(1, 100)
	w.l.Reserve(2, 100)
	want := w.get(0)
	want.Put = false
	w.ok(w.r.Refund(w.l, 1, 0))
	if x := w.get(0); x != want || w.l.Held(1) != 100 || w.l.Free(1) != 900 || w.l.Held(2) != 120 {
		t.Errorf("%+v; held %d, %d", x, w.l.Held(1), w.l.Held(2))
	}
	w.errs("twice", api.ErrOrigin, refund(1, 0))
	want.Backer = -1
	w.ok(w.r.Refund(w.l, 2, 0))
	if x := w.get(0); x != want || w.l.Held(2) != 100 || w.l.Free(2) != 900 {
		t.Errorf("%+v; held %d", x, w.l.Held(2))
	}
	w.errs("twice", api.ErrOrigin, refund(2, 0))
	w.ok(w.r.Refund(w.l, 3, 1)) // By and Backer at once
	if x := w.get(1); x.Put || x.Backer != -1 || w.l.Held(3) != 0 || w.l.Free(3) != 1000 {
		t.Errorf("%+v; held %d", x, w.l.Held(3))
	}
	w.errs("twice", api.ErrOrigin, refund(3, 1))
	w.ok(w.r.Refund(w.l, 0, 2))
	if w.l.Held(0) != 0 {
		t.Error("the account 0 holds", w.l.Held(0))
	}
	if x := w.get(3); x.State != api.StateCancelled || x.End != 5 || !x.Put {
		t.Errorf("%+v", x)
	}
}

func TestP123Cancel(t *testing.T) {
	w := start(t)
	w.submit(1, 0, 0, 0)
	w.submit(1, 0, 0, 1)
	w.deposit(2, 0)
	w.aye(3, 0, 70)
	cancel := func(v *voting.Voting, ref int) func() api.Errno {
		return func() api.Errno {
			events, err := w.r.Cancel(v, ref, 8)
			if len(events) > 0 {
				t.Error("an error has events")
			}
			return err
		}
	}
	for _, ref := range []int{-1, 2, 12} {
		w.errs("of none", api.ErrNone, cancel(w.v, ref))
	}
	w.errs("with no voting", api.ErrArg, cancel(nil, 9))
	want := w.get(0)
	want.State, want.End, want.Tally = api.StateCancelled, 8, api.Tally{Ayes: 70, Support: 70}
	if events, err := w.r.Cancel(w.v, 0, 8); err != api.OK || !slices.Equal(events, []api.Event{ended(0, api.StateCancelled)}) {
		t.Error(events, err)
	}
	if x := w.get(0); x != want || !w.closed(0) || w.closed(1) {
		t.Errorf("%+v", x)
	}
	if w.l.Held(1) != 20 || w.l.Held(2) != 20 {
		t.Error("deposits:", w.l.Held(1), w.l.Held(2))
	}
	w.errs("twice", api.ErrState, cancel(w.v, 0))
	w.state(1, api.StateOngoing, -1, -1)
	w.service(30, ended(1, api.StateTimedOut))
	w.errs("of one that has ended", api.ErrState, cancel(w.v, 1))
}

func TestP123TheEndOfThePollIsThatOfTheReferendum(t *testing.T) {
	w := start(t)
	w.submit(1, 2, 0, 0)
	w.deposit(2, 0)
	w.aye(3, 0, 70)
	w.service(50)
	w.service(53, ended(0, api.StateApproved))
	w.ok(w.v.Unvote(3, 0, 53))
	if until, n := w.v.Prior(3, 2); until != 53+8 || n != 70 {
		t.Error("the prior:", until, n)
	}
}

func TestP123Kill(t *testing.T) {
	w := start(t)
	w.submit(1, 0, 0, 0)
	w.submit(3, 0, 0, 1)
	w.submit(4, 1, 0, 2)
	w.deposit(2, 0)
	w.deposit(4, 2) // of nothing
	w.nay(3, 0, 70)
	kill := func(l *ledger.Ledger, v *voting.Voting, ref int) func() api.Errno {
		return func() api.Errno {
			events, err := w.r.Kill(l, v, ref, 8)
			if len(events) > 0 {
				t.Error("an error has events")
			}
			return err
		}
	}
	for _, ref := range []int{-1, 3, 12} {
		w.errs("of none", api.ErrNone, kill(w.l, w.v, ref))
	}
	w.errs("with no voting", api.ErrArg, kill(w.l, nil, 9))
	w.errs("with no ledger", api.ErrArg, kill(nil, w.v, 9))
	want := w.get(0)
	want.State, want.End, want.Tally, want.Put, want.Backer = api.StateKilled, 8, api.Tally{Nays: 70}, false, -1
	if events, err := w.r.Kill(w.l, w.v, 0, 8); err != api.OK || !slices.Equal(events, []api.Event{ended(0, api.StateKilled), slashed(1, 10), slashed(2, 20)}) {
		t.Error(events, err)
	}
	if x := w.get(0); x != want || !w.closed(0) || w.closed(1) {
		t.Errorf("%+v", x)
	}
	if w.l.Held(1) != 0 || w.l.Free(1) != 990 || w.l.Held(2) != 0 || w.l.Free(2) != 980 || w.l.Free(api.Treasury) != 1030 {
		t.Error("deposits:", w.l.Held(1), w.l.Free(1), w.l.Held(2), w.l.Free(2), w.l.Free(api.Treasury))
	}
	w.errs("twice", api.ErrState, kill(w.l, w.v, 0))
	for _, who := range []int{-1, 1, 2} {
		w.errs("a refund of one that was killed", api.ErrOrigin, func() api.Errno { return w.r.Refund(w.l, who, 0) })
	}
	if events, err := w.r.Kill(w.l, w.v, 1, 9); err != api.OK || !slices.Equal(events, []api.Event{ended(1, api.StateKilled), slashed(3, 10)}) {
		t.Error("without a Backer:", events, err)
	}
	if events, err := w.r.Kill(w.l, w.v, 2, 9); err != api.OK || !slices.Equal(events, []api.Event{ended(2, api.StateKilled), slashed(4, 10), slashed(4, 0)}) {
		t.Error("with a deposit of nothing:", events, err)
	}
}

func TestP124WhoIsDecided(t *testing.T) {
	w := start(t)
	for ref := range 6 {
		w.submit(1, 0, ref/5, ref) // the last one at 1, the others at 0
	}
	for _, ref := range []int{0, 2, 3, 4, 5} { // 1 has no Backer
		w.deposit(2, ref)
	}
	w.aye(3, 1, 500)
	w.aye(3, 3, 30)
	w.aye(3, 4, 30)
	w.aye(3, 5, 40)
	w.service(2)
	w.state(3, api.StateOngoing, -1, -1)
	w.service(3) // Prepare is over, but for the last one
	for ref, since := range []int{-1, -1, -1, 3, 3, -1} {
		w.state(ref, api.StateOngoing, since, -1)
	}
	w.aye(4, 2, 31)
	w.service(4) // there is no room
	w.state(5, api.StateOngoing, -1, -1)
	w.r.Cancel(w.v, 3, 4)
	w.service(5) // of those that wait 5 has the most ayes
	for ref, since := range []int{-1, -1, -1, 3, 3, 5} {
		if w.get(ref).Since != since {
			t.Errorf("referendum %d: since %d, want %d", ref, w.get(ref).Since, since)
		}
	}
	w.r.Cancel(w.v, 4, 5)
	w.r.Cancel(w.v, 5, 5)
	w.service(6)
	for ref, since := range []int{6, -1, 6} {
		w.state(ref, api.StateOngoing, since, -1)
	}
}

func TestP124TracksHaveTheirOwnRoom(t *testing.T) {
	w := start(t)
	for ref := range 6 {
		w.submit(1, ref%3, 0, ref)
		w.deposit(2, ref)
	}
	w.aye(3, 4, 1)
	w.service(0)
	for ref, since := range []int{-1, -1, 0, -1, 0, 0} { // track 0 is prepared yet; track 1 has room for one; track 2 for all
		if w.get(ref).Since != since {
			t.Errorf("referendum %d: since %d, want %d", ref, w.get(ref).Since, since)
		}
	}
}

func TestP124AyesCountNotNays(t *testing.T) {
	w := start(t)
	for ref := range 3 {
		w.submit(1, 1, 0, ref)
		w.deposit(2, ref)
	}
	w.aye(3, 1, 10)
	w.nay(rich, 1, 900)
	w.aye(3, 2, 11)
	w.nay(rich, 2, 9000)
	w.nay(rich, 0, 90000)
	w.service(0)
	w.state(2, api.StateOngoing, 0, -1)
	w.state(1, api.StateOngoing, -1, -1)
	w.state(0, api.StateOngoing, -1, -1)
}

func TestP124TimeOut(t *testing.T) {
	w := start(t)
	w.submit(1, 0, 5, 0)
	w.submit(1, 0, 6, 1)
	w.submit(1, 1, 0, 2)
	w.deposit(2, 2)
	w.submit(1, 1, 5, 3)
	w.deposit(2, 3)
	w.aye(3, 0, 12)
	w.service(0) // 2 is decided, 3 waits for room
	w.state(2, api.StateOngoing, 0, -1)
	w.service(4)
	w.service(34, ended(2, api.StateRejected))
	w.state(0, api.StateOngoing, -1, -1)
	w.submit(1, 1, 34, 4)
	w.service(35, ended(0, api.StateTimedOut))
	w.state(3, api.StateOngoing, 35, -1) // its turn came just in time
	w.service(36, ended(1, api.StateTimedOut))
	if x := w.get(0); x.End != 35 || x.Tally != (api.Tally{Ayes: 12, Support: 12}) || !w.closed(0) || !x.Put {
		t.Errorf("%+v", x)
	}
	w.service(39)
	w.service(40, ended(3, api.StateRejected))
	w.service(63)
	w.service(64, ended(4, api.StateTimedOut))
	w.service(1000)
}

func TestP124Confirming(t *testing.T) {
	w := start(t)
	w.submit(1, 0, 0, 0)
	w.deposit(2, 0)
	w.aye(rich, 0, 30000)
	w.service(3) // the support must be half
	w.state(0, api.StateOngoing, 3, -1)
	w.service(6) // 35 parts of a hundred
	w.state(0, api.StateOngoing, 3, -1)
	w.service(7) // 30 parts of a hundred
	w.state(0, api.StateOngoing, 3, 11)
	w.service(10)
	w.state(0, api.StateOngoing, 3, 11)
	w.nay(3, 0, 10)
	w.service(11, ended(0, api.StateApproved))
	w.state(0, api.StateApproved, 3, 11)
	if x := w.get(0); x.End != 11 || x.Tally != (api.Tally{Ayes: 30000, Nays: 10, Support: 30000}) || !w.closed(0) {
		t.Errorf("%+v", x)
	}
	w.service(12)
	w.state(0, api.StateApproved, 3, 11)
}

func TestP124WhatDoesNotPassIsConfirmedAnew(t *testing.T) {
	w := start(t)
	w.submit(1, 0, 0, 0)
	w.deposit(2, 0)
	w.aye(rich, 0, 60000)
	w.service(3)
	w.state(0, api.StateOngoing, 3, 7)
	w.ok(w.v.Unvote(rich, 0, 3))
	w.service(4)
	w.state(0, api.StateOngoing, 3, -1)
	w.aye(rich, 0, 60000)
	w.service(5)
	w.state(0, api.StateOngoing, 3, 9)
	w.service(8)
	w.nay(rich, 0, 60000)
	w.service(9)
	w.state(0, api.StateOngoing, 3, -1)
	w.aye(rich, 0, 60000)
	w.service(12) // the last block of the decision
	w.state(0, api.StateOngoing, 3, 16)
	w.service(13) // it goes on as long as it is confirming
	w.service(15)
	w.service(16, ended(0, api.StateApproved))
}

func TestP124Rejected(t *testing.T) {
	w := start(t)
	w.submit(1, 0, 0, 0)
	w.deposit(2, 0)
	w.submit(1, 0, 0, 1)
	w.deposit(2, 1)
	w.nay(3, 0, 5)
	w.aye(rich, 1, 1)
	w.service(3)
	w.service(12)
	w.state(0, api.StateOngoing, 3, -1)
	w.service(13, ended(0, api.StateRejected)) // 1 needs no support any more
	w.state(0, api.StateRejected, 3, -1)
	w.state(1, api.StateOngoing, 3, 17)
	if x := w.get(0); x.End != 13 || x.Tally != (api.Tally{Nays: 5}) || !x.Put || x.Backer != 2 {
		t.Errorf("%+v", x)
	}
	w.nay(3, 1, 5)
	w.service(14, ended(1, api.StateRejected)) // late, and not passing any more
	w.state(1, api.StateRejected, 3, -1)
	if w.l.Held(1) != 20 || w.l.Held(2) != 40 {
		t.Error("deposits:", w.l.Held(1), w.l.Held(2))
	}
}

func TestP124ConfirmedAtOnce(t *testing.T) {
	w := start(t)
	w.submit(1, 1, 2, 0)
	w.deposit(2, 0)
	w.aye(rich, 0, 10000-1)
	w.service(2)
	w.state(0, api.StateOngoing, 2, -1)
	w.l.Burn(rich, 10) // what is issued counts
	w.service(3, ended(0, api.StateApproved))
	w.state(0, api.StateApproved, 2, 3)
	w.submit(1, 1, 3, 1)
	w.deposit(2, 1)
	w.aye(rich, 1, 20000)
	w.service(3, ended(1, api.StateApproved)) // decided, confirmed and ended at one block
	w.state(1, api.StateApproved, 3, 3)
}

func TestP124EventsCameByNumbers(t *testing.T) {
	w := start(t)
	w.submit(1, 0, 0, 0)
	for ref := 1; ref < 4; ref++ {
		w.submit(1, 2, 0, ref)
		w.deposit(2, ref)
	}
	w.aye(rich, 3, 10)
	w.aye(rich, 1, 20)
	w.service(27)
	w.service(30, ended(0, api.StateTimedOut), ended(1, api.StateApproved), ended(3, api.StateApproved))
	w.service(32, ended(2, api.StateRejected))
}

func TestP124SupportOfWhatIsElapsed(t *testing.T) {
	w := start(t)
	w.submit(1, 0, 0, 0)
	w.deposit(2, 0)
	w.aye(rich, 0, 25000)
	w.service(20) // decided from now on: the way begins here
	w.state(0, api.StateOngoing, 20, -1)
	w.service(24)
	w.state(0, api.StateOngoing, 20, -1)
	w.service(25)
	w.state(0, api.StateOngoing, 20, 29)
}

func TestP125AllByNumbers(t *testing.T) {
	w := start(t)
	for ref := range api.MaxRefs {
		w.submit(1, ref%3, ref, ref)
	}
	for range 2 {
		want := 0
		for ref, x := range w.r.All() {
			if ref != want || x != w.get(ref) || x.Submitted != ref {
				t.Errorf("%d: %+v", ref, x)
			}
			want++
		}
		if want != api.MaxRefs {
			t.Error(want, "referenda")
		}
	}
	n := 0
	for ref := range w.r.All() {
		n++
		w.r.Cancel(w.v, ref, 20)
		if n == 3 {
			break
		}
	}
	w.state(2, api.StateCancelled, -1, -1)
	w.state(3, api.StateOngoing, -1, -1)
	for _, ref := range []int{-1, 12, 1 << 62} {
		if x, ok := w.r.Get(ref); ok || x != (api.Referendum{}) {
			t.Errorf("Get(%d): %+v", ref, x)
		}
	}
}

func TestP126PollsThatErrArePassedOver(t *testing.T) {
	w := start(t)
	w.submit(1, 0, 0, 0)
	w.submit(1, 0, 0, 1)
	w.ok(w.v.Close(0, api.StateApproved, 1))
	if events, err := w.r.Cancel(w.v, 0, 5); err != api.OK || !slices.Equal(events, []api.Event{ended(0, api.StateCancelled)}) {
		t.Error(events, err)
	}
	w.v = voting.New() // which has no polls
	w.service(30, ended(1, api.StateTimedOut))
	w.state(1, api.StateTimedOut, -1, -1)
}

func TestP126WhatIsHandedInIsNotKept(t *testing.T) {
	l := tracks()
	r, _ := refer.New(l)
	l[0].Deposit = 999
	if x, _ := r.Track(0); x.Deposit != 20 {
		t.Error("the tracks are kept")
	}
	w := start(t)
	if x, _ := w.r.Track(0); x != tracks()[0] {
		t.Errorf("%+v", x)
	}
	w.submit(1, 2, 0, 0)
	events, _ := w.r.Cancel(w.v, 0, 1)
	events[0] = api.Event{}
	w.state(0, api.StateCancelled, -1, -1)
}

func TestP126NilRefer(t *testing.T) {
	w := start(t)
	var r *refer.Refer
	if ref, err := r.Submit(w.l, w.v, 1, 0, api.Hash{}, 0, 0); ref != 0 || err != api.ErrArg {
		t.Error("Submit:", ref, err)
	}
	if err := r.Deposit(w.l, 1, 0); err != api.ErrArg {
		t.Error("Deposit:", err)
	}
	if err := r.Refund(w.l, 1, 0); err != api.ErrArg {
		t.Error("Refund:", err)
	}
	if events, err := r.Cancel(w.v, 0, 0); len(events) != 0 || err != api.ErrArg {
		t.Error("Cancel:", events, err)
	}
	if events, err := r.Kill(w.l, w.v, 0, 0); len(events) != 0 || err != api.ErrArg {
		t.Error("Kill:", events, err)
	}
	if events := r.Service(w.l, w.v, 0); len(events) != 0 {
		t.Error("Service:", events)
	}
	if x, ok := r.Get(0); ok || x != (api.Referendum{}) {
		t.Error("Get:", x)
	}
	if x, ok := r.Track(0); ok || x != (api.Track{}) {
		t.Error("Track:", x)
	}
	for ref := range r.All() {
		t.Error("All:", ref)
	}
	w.submit(1, 0, 0, 0)
	for _, events := range [][]api.Event{w.r.Service(nil, w.v, 99), w.r.Service(w.l, nil, 99)} {
		if len(events) != 0 {
			t.Error("Service with a nil object:", events)
		}
	}
	w.state(0, api.StateOngoing, -1, -1)
}
