package audit_test

import (
	"slices"
	"testing"

	"althing/api"
	"althing/audit"
	"althing/chain"
	"althing/code"
	"althing/conv"
	"althing/script"
	"althing/track"
)

// dice is a row of numbers that look like chance.
type dice uint64

// roll is the next number, below n.
func (d *dice) roll(n int) int {
	*d = *d*6364136223846793005 + 1442695040888963407
	return int(*d >> 33 % dice(n))
}

// vote is some vote, mostly for it.
func (d *dice) vote() api.Vote {
	switch d.roll(8) {
	case 0:
		return api.Vote{Kind: api.VoteSplit, A: d.roll(200), N: d.roll(100)}
	case 1:
		return api.Vote{Kind: api.VoteAbstain, A: d.roll(100), N: d.roll(100), S: d.roll(100)}
	case 2:
		return nay(d.roll(7), d.roll(300))
	}
	return aye(d.roll(7), d.roll(400))
}

// call is some call about referenda from ref on, with at most so many batches within one another.
func (d *dice) call(deep, ref int) api.Call {
	about := min(ref+d.roll(3), api.MaxRefs-1)
	switch k := d.roll(8); {
	case k == 0:
		return remark(d.roll(3))
	case k < 3:
		return api.Call{Kind: api.CallSpend, To: d.roll(8), N: d.roll(120)}
	case k == 3:
		return api.Call{Kind: api.CallCancel, N: about}
	case k < 7 || deep == 0:
		return api.Call{Kind: api.CallKill, N: about}
	}
	c := api.Call{Kind: api.CallBatch}
	for range 1 + d.roll(api.MaxKids) {
		c.Kids = append(c.Kids, d.call(deep-1, ref))
	}
	return c
}

// world is a chain, what is known of it from outside, and what it did.
type world struct {
	t       *testing.T
	c       *chain.Chain
	d       dice
	calls   map[api.Hash]api.Call // all that were noted
	sums    []api.Hash            // of those
	passing map[int]int           // since when a referendum has been passing
	done    map[int]int           // how often a referendum's call was done or missed
	states  map[int]int           // how many ended so
	errs    map[api.Errno]int     // how often an extrinsic erred so
}

// begin is a world of its own chance.
func begin(t *testing.T, seed int) *world {
	t.Helper()
	return &world{t, start(t), dice(seed), map[api.Hash]api.Call{}, nil, map[int]int{}, map[int]int{}, map[int]int{}, map[api.Errno]int{}}
}

// plan submits three referenda, of which the first one ends the others.
func (w *world) plan() {
	w.t.Helper()
	c := api.Call{Kind: api.CallBatch, Kids: []api.Call{{Kind: api.CallCancel, N: 1}, {Kind: api.CallKill, N: 2}}}
	w.calls[code.Sum(c)] = c
	do(w.t, w.c,
		api.Ext{Kind: api.ExtNote, Who: 1, Call: c},
		api.Ext{Kind: api.ExtSubmit, Who: 1, Track: 2, Sum: code.Sum(c)},
		api.Ext{Kind: api.ExtSubmit, Who: 2, Track: 1},
		api.Ext{Kind: api.ExtSubmit, Who: 3, Track: 0, Sum: code.Sum(c)},
		api.Ext{Kind: api.ExtDeposit, Who: 4, Ref: 0},
		api.Ext{Kind: api.ExtDeposit, Who: 5, Ref: 1},
		api.Ext{Kind: api.ExtVote, Who: 3, Ref: 0, Vote: aye(1, 400)})
}

// ext is some extrinsic.
func (w *world) ext() api.Ext {
	d := &w.d
	n := 0
	for range w.c.Refer().All() {
		n++
	}
	e := api.Ext{Who: d.roll(6)}
	ref, kind := min(d.roll(n+1), api.MaxRefs-1), d.roll(16)
	switch e.Kind = kind; kind {
	case api.ExtTransfer:
		e.To, e.N = d.roll(7), d.roll(900)
	case api.ExtNote:
		e.Call = d.call(api.MaxDeep, n)
		w.calls[code.Sum(e.Call)] = e.Call
		w.sums = append(w.sums, code.Sum(e.Call))
	case api.ExtUnnote:
		e.Sum = w.sum()
	case api.ExtSubmit:
		e.Track, e.Sum, e.N = d.roll(3), w.sum(), d.roll(9)
	case api.ExtDeposit, api.ExtRefund, api.ExtUnvote:
		e.Ref = ref
	case api.ExtDelegate:
		e.Track, e.To, e.Level, e.N = d.roll(3), d.roll(6), d.roll(7), d.roll(400)
	case api.ExtUndelegate, api.ExtUnlock:
		e.Track = d.roll(3)
	case api.ExtVote, 12, 13:
		e.Kind, e.Ref, e.Vote = api.ExtVote, ref, d.vote()
	case 14:
		e.Kind, e.Ref = api.ExtDeposit, ref
	default:
		e.Kind, e.To, e.Level = d.roll(14), d.roll(2), d.roll(2) // mostly one that may not be
	}
	return e
}

// sum is the digest of a call that was noted once, or of none.
func (w *world) sum() api.Hash {
	if len(w.sums) == 0 || w.d.roll(9) == 0 {
		return api.Hash{byte(w.d.roll(3))}
	}
	return w.sums[w.d.roll(len(w.sums))]
}

// state is all that a chain tells, as numbers.
func state(c *chain.Chain) []int {
	out := []int{c.Now(), c.Ledger().Issued(), c.Agenda().Len()}
	for a := range api.MaxAcc {
		out = append(out, c.Ledger().Free(a), c.Ledger().Held(a))
		for id, n := range c.Ledger().Locks(a) {
			out = append(out, id, n)
		}
		for track := range api.MaxTracks {
			for ref, x := range c.Voting().Votes(a, track) {
				out = append(out, ref, x.Kind, x.Level, x.A, x.N, x.S)
			}
			to, level, n, _ := c.Voting().Delegating(a, track)
			until, prior := c.Voting().Prior(a, track)
			got := c.Voting().Got(a, track)
			out = append(out, to, level, n, until, prior, got.Votes, got.Capital)
		}
	}
	for ref, x := range c.Refer().All() {
		tally := c.Voting().Tally(ref)
		out = append(out, x.State, x.Track, x.By, x.Backer, x.Since, x.Until, x.End, x.Tally.Ayes, tally.Ayes, tally.Nays, tally.Support)
		out = append(out, c.Pre().Wanted(x.Sum))
	}
	for sum, who := range c.Pre().All() {
		out = append(out, int(sum[0])<<8+int(sum[1]), who, c.Pre().Wanted(sum))
	}
	for t := range c.Agenda().All() {
		out = append(out, t.Name, t.At, t.Priority, int(t.Sum[0]), t.Track)
	}
	return out
}

// apply runs an extrinsic; what errs changes nothing.
func (w *world) apply(e api.Ext) api.Errno {
	w.t.Helper()
	was := state(w.c)
	b, err := code.EncodeExt(e)
	if err == api.OK {
		r := script.Run(w.c, script.Make(b))
		if len(r) != 1 || len(r[0].Events) != 0 {
			w.t.Fatalf("%+v: %+v", e, r)
		}
		err = r[0].Err
	} else {
		err = w.c.Apply(e)
	}
	if err != api.OK && !slices.Equal(state(w.c), was) {
		w.t.Fatalf("%+v: %v changes something", e, err)
	}
	w.errs[err]++
	if err == api.OK {
		w.sound()
	}
	return err
}

// sound checks what always holds of balances and tallies, by a count of its own, too.
func (w *world) sound() {
	w.t.Helper()
	l, sum := w.c.Ledger(), 0
	for a := range api.MaxAcc {
		sum += l.Free(a) + l.Held(a)
		owed := audit.Duty(w.c.Voting(), a, w.c.Now())
		if l.Free(a) < l.Locked(a) || l.Locked(a) < owed || l.Held(a) != audit.Deposits(w.c, a) {
			w.t.Fatalf("account %d: free %d, locked %d, it owes %d; held %d", a, l.Free(a), l.Locked(a), owed, l.Held(a))
		}
	}
	if sum != 6000 || l.Issued() != 6000 {
		w.t.Fatalf("%d are issued, the accounts have %d", l.Issued(), sum)
	}
	for ref, x := range w.c.Refer().All() {
		if got, want := w.c.Voting().Tally(ref), w.count(ref, x.Track); x.State == api.StateOngoing && got != want {
			w.t.Fatalf("referendum %d: %+v, want %+v", ref, got, want)
		}
	}
	if !audit.Sound(w.c) {
		w.t.Fatal("it is not sound")
	}
}

// count is a tally, counted by who votes and who lends.
func (w *world) count(ref, track int) api.Tally {
	var sum api.Tally
	v := w.c.Voting()
	for who := range api.MaxAcc {
		for r, x := range v.Votes(who, track) {
			if r != ref {
				continue
			}
			sum = conv.Add(sum, conv.Gain(x, api.Weight{}))
			for other := range api.MaxAcc {
				to, level, n, ok := v.Delegating(other, track)
				if !ok || to != who || x.Kind != api.VoteStandard {
					continue
				}
				if x.Aye {
					sum = conv.Add(sum, api.Tally{Ayes: conv.Votes(n, level), Support: n})
				} else {
					sum = conv.Add(sum, api.Tally{Nays: conv.Votes(n, level)})
				}
			}
		}
	}
	return sum
}

// block is one more block, and all that must hold of it.
func (w *world) block() {
	w.t.Helper()
	treasury := w.c.Ledger().Free(api.Treasury) + w.c.Ledger().Held(api.Treasury)
	r := script.Run(w.c, []byte{0})
	if len(r) != 1 || r[0].Err != api.OK {
		w.t.Fatalf("a block: %+v", r)
	}
	var since []api.Event // the events of one task
	for _, e := range r[0].Events {
		switch e.Kind {
		case api.EventSpent:
			if e.A != api.Treasury {
				treasury -= e.B
			}
			since = append(since, e)
		case api.EventSlash:
			if e.A != api.Treasury {
				treasury += e.B
			}
		case api.EventEnded:
			w.states[e.B]++
			w.ended(e.A, e.B)
		case api.EventCalled, api.EventMissed:
			w.called(e, since)
			since = nil
		}
	}
	if len(since) > 0 {
		w.t.Fatal("something is spent behind the tasks:", since)
	}
	if got := w.c.Ledger().Free(api.Treasury) + w.c.Ledger().Held(api.Treasury); got != treasury {
		w.t.Fatalf("the treasury has %d, want %d", got, treasury)
	}
	w.watch()
	if len(r[0].Events) > 0 {
		w.sound()
	}
}

// share tells whether a referendum that is or was decided is passing at this block.
func (w *world) share(x api.Referendum, tally api.Tally) bool {
	t, _ := w.c.Refer().Track(x.Track)
	return x.Since >= 0 && track.Passing(t, tally, w.c.Ledger().Issued(), w.c.Now()-x.Since)
}

// watch notes since when each ongoing referendum has been passing.
func (w *world) watch() {
	for ref, x := range w.c.Refer().All() {
		if x.State != api.StateOngoing || !w.share(x, w.c.Voting().Tally(ref)) {
			delete(w.passing, ref)
		} else if _, ok := w.passing[ref]; !ok {
			w.passing[ref] = w.c.Now()
		}
	}
}

// ended checks that a referendum may end so at this block.
func (w *world) ended(ref, as int) {
	w.t.Helper()
	x, _ := w.c.Refer().Get(ref)
	t, _ := w.c.Refer().Track(x.Track)
	now, ok := w.c.Now(), x.State == as
	switch as {
	case api.StateApproved:
		since, was := w.passing[ref]
		if !was {
			since = now
		}
		ok = ok && w.share(x, x.Tally) && now-since >= t.Confirm
	case api.StateRejected:
		ok = ok && !w.share(x, x.Tally) && x.Since >= 0 && now-x.Since >= t.Decision
	case api.StateTimedOut:
		ok = ok && x.Since == -1 && now-x.Submitted >= api.Timeout
	}
	if !ok || x.End != now {
		w.t.Fatalf("referendum %d has ended as %d at %d: %+v", ref, as, now, x)
	}
}

// called checks that a referendum's call may be done, or missed, at this block, and that it spent what it says.
func (w *world) called(e api.Event, spent []api.Event) {
	w.t.Helper()
	w.done[e.A]++
	x, _ := w.c.Refer().Get(e.A)
	t, _ := w.c.Refer().Track(x.Track)
	if x.State != api.StateApproved || w.done[e.A] != 1 || w.c.Now() < x.End+max(t.Enact, x.After, 1) {
		w.t.Fatalf("referendum %d is called at %d, for the %dth time: %+v", e.A, w.c.Now(), w.done[e.A], x)
	}
	says := spends(w.calls[x.Sum])
	if e.Kind == api.EventMissed {
		says = nil
	}
	if len(spent) > len(says) || !slices.Equal(spent, says[:len(spent)]) || e.Kind == api.EventCalled && e.B == 0 && len(spent) != len(says) {
		w.t.Fatalf("referendum %d spent %v, its call says %v", e.A, spent, says)
	}
}

// spends is what a call says that is to be spent.
func spends(c api.Call) []api.Event {
	if c.Kind == api.CallSpend {
		return []api.Event{{Kind: api.EventSpent, A: c.To, B: c.N}}
	}
	var l []api.Event
	for _, kid := range c.Kids {
		l = append(l, spends(kid)...)
	}
	return l
}

// finish lets all run out, and gives back all that may be.
func (w *world) finish() {
	w.t.Helper()
	for range 120 {
		w.block()
	}
	for ref, x := range w.c.Refer().All() {
		if x.State == api.StateOngoing {
			w.t.Fatalf("referendum %d does not end: %+v", ref, x)
		}
		if x.State == api.StateApproved && w.done[ref] != 1 {
			w.t.Fatalf("referendum %d was called %d times", ref, w.done[ref])
		}
	}
	if w.c.Agenda().Len() != 0 {
		w.t.Fatal("there are tasks still:", w.c.Agenda().Len())
	}
	w.giveBack()
	for range 300 {
		w.c.Block()
	}
	for a := range 6 {
		for track := range 3 {
			w.apply(api.Ext{Kind: api.ExtUnlock, Who: a, Track: track})
		}
		if w.c.Ledger().Locked(a) != 0 || w.c.Ledger().Held(a) != 0 {
			w.t.Fatalf("account %d: locked %d, held %d, though all has run out", a, w.c.Ledger().Locked(a), w.c.Ledger().Held(a))
		}
		if err := w.apply(api.Ext{Kind: api.ExtTransfer, Who: a, To: 9, N: w.c.Ledger().Free(a)}); err != api.OK {
			w.t.Fatal("not all is free:", err)
		}
	}
}

// giveBack takes back all votes, delegations, deposits and notes.
func (w *world) giveBack() {
	w.t.Helper()
	for a := range 6 {
		for track := range 3 {
			for ref := range w.c.Voting().Votes(a, track) {
				w.apply(api.Ext{Kind: api.ExtUnvote, Who: a, Ref: ref})
			}
			w.apply(api.Ext{Kind: api.ExtUndelegate, Who: a, Track: track})
		}
	}
	for ref, x := range w.c.Refer().All() {
		w.apply(api.Ext{Kind: api.ExtRefund, Who: x.By, Ref: ref})
		w.apply(api.Ext{Kind: api.ExtRefund, Who: max(x.Backer, 0), Ref: ref})
	}
	for sum, who := range w.c.Pre().All() {
		if err := w.apply(api.Ext{Kind: api.ExtUnnote, Who: who, Sum: sum}); err != api.OK {
			w.t.Fatalf("a note of %d can't be taken back: %v, it is wanted %d times", who, err, w.c.Pre().Wanted(sum))
		}
	}
}

// TestP02ToP05TheWhole holds P0.2 to P0.5 and P16.3 while much is done to many chains.
func TestP02ToP05TheWhole(t *testing.T) {
	states, errs, called, spent := map[int]int{}, map[api.Errno]int{}, 0, 0
	for seed := range 30 {
		w := begin(t, seed)
		if seed%3 == 0 {
			w.plan()
		}
		for range 250 {
			if w.d.roll(5) == 0 {
				w.block()
			} else {
				w.apply(w.ext())
			}
		}
		w.finish()
		for s, n := range w.states {
			states[s] += n
		}
		for e, n := range w.errs {
			errs[e] += n
		}
		called += len(w.done)
		spent += w.c.Ledger().Free(6) + w.c.Ledger().Free(7)
	}
	for s := api.StateApproved; s <= api.StateKilled; s++ {
		if states[s] < 3 {
			t.Errorf("only %d ended with the state %d", states[s], s)
		}
	}
	for _, e := range []api.Errno{api.ErrArg, api.ErrFull, api.ErrNone, api.ErrHas, api.ErrFunds, api.ErrLocked, api.ErrOrigin, api.ErrState} {
		if errs[e] < 3 {
			t.Errorf("only %d erred with %v", errs[e], e)
		}
	}
	t.Log("states:", states, "errors:", errs, "called:", called, "spent:", spent)
	if called < 50 || spent == 0 {
		t.Errorf("%d were called, %d was spent", called, spent)
	}
}

// TestP01AnyBytes runs bytes of all kinds over two chains at once: nothing panics, and the same rows do the same.
func TestP01AnyBytes(t *testing.T) {
	for seed := range 150 {
		w := begin(t, seed)
		d := &w.d
		var b []byte
		for range 40 {
			switch d.roll(4) {
			case 0:
				b = append(b, script.Make(nil)...)
			case 1:
				p := make([]byte, d.roll(70))
				for i := range p {
					p[i] = byte(d.roll(256))
				}
				b = append(b, script.Make(p)...)
			default:
				p, err := code.EncodeExt(w.ext())
				if err == api.OK && d.roll(6) == 0 {
					p[d.roll(len(p))] ^= byte(1 << d.roll(8))
				}
				b = append(b, script.Make(p)...)
			}
		}
		for range d.roll(9) { // some bytes are others
			b[d.roll(len(b))] = byte(d.roll(256))
		}
		w.same(b)
	}
}

// same runs rows over two new chains: at once, and one by one.
func (w *world) same(b []byte) {
	w.t.Helper()
	one, two := start(w.t), start(w.t)
	all := script.Run(one, b)
	var each []script.Result
	size := 0
	for _, p := range script.Rows(b) {
		was := state(two)
		row := script.Make(p)
		r := script.Run(two, row)
		if len(r) == 1 && r[0].Err != api.OK && !slices.Equal(state(two), was) {
			w.t.Fatalf("%x errs and changes something", p)
		}
		each = append(each, r...)
		size += len(row)
	}
	if size < len(b) {
		each = append(each, script.Result{Err: api.ErrForm})
	}
	if !slices.EqualFunc(all, each, func(a, b script.Result) bool { return a.Err == b.Err && slices.Equal(a.Events, b.Events) }) {
		w.t.Fatalf("%+v, one by one %+v", all, each)
	}
	if !slices.Equal(state(one), state(two)) || !audit.Sound(one) {
		w.t.Fatal("the same rows do not do the same, or what they do is not sound")
	}
}
