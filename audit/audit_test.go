package audit_test

import (
	"testing"

	"althing/api"
	"althing/audit"
	"althing/chain"
	"althing/code"
	"althing/ledger"
	"althing/voting"
)

const bill = api.Bill

// tracks is a quick kind, a slow one that may cancel, and one that may kill.
func tracks() []api.Track {
	half := api.Curve{Kind: api.CurveLinear, A: bill / 2, B: bill / 2, C: bill}
	falling := api.Curve{Kind: api.CurveLinear, A: bill / 20, B: 0, C: bill}
	steps := api.Curve{Kind: api.CurveStepped, A: bill, B: bill / 2, C: bill / 8, D: bill / 5}
	recip := api.Curve{Kind: api.CurveRecip, A: bill / 200, B: bill / 9, C: bill / 200}
	return []api.Track{
		{Most: 3, Deposit: 3, Decision: 4, Confirm: 1, Approval: half, Support: falling, Cap: 100},
		{Most: 1, Deposit: 20, Prepare: 2, Decision: 9, Confirm: 3, Enact: 4, Approval: steps, Support: recip, Cap: 50, Rank: 1},
		{Most: 2, Deposit: 0, Prepare: 1, Decision: 3, Enact: 1, Approval: half, Support: falling, Rank: 2},
	}
}

// start is a chain whose accounts 0 to 5 have a thousand each.
func start(t *testing.T) *chain.Chain {
	t.Helper()
	c, err := chain.New([]int{1000, 1000, 1000, 1000, 1000, 1000}, tracks())
	if err != api.OK {
		t.Fatal(err)
	}
	return c
}

// do applies extrinsics that may not err.
func do(t *testing.T, c *chain.Chain, l ...api.Ext) {
	t.Helper()
	for _, e := range l {
		if err := c.Apply(e); err != api.OK {
			t.Fatalf("%+v: %v", e, err)
		}
	}
}

// aye and nay are votes; remark is a call.
func aye(level, n int) api.Vote {
	return api.Vote{Kind: api.VoteStandard, Aye: true, Level: level, A: n}
}
func nay(level, n int) api.Vote { return api.Vote{Kind: api.VoteStandard, Level: level, A: n} }
func remark(n int) api.Call     { return api.Call{Kind: api.CallRemark, N: n} }

// voted is a voting with votes and delegations in two tracks.
func voted(t *testing.T) (*ledger.Ledger, *voting.Voting) {
	t.Helper()
	l, err := ledger.New([]int{1000, 1000, 1000, 1000, 1000, 1000})
	if err != api.OK {
		t.Fatal(err)
	}
	v := voting.New()
	for _, err := range []api.Errno{
		v.Open(0, 0), v.Open(1, 0), v.Open(2, 1),
		v.Vote(l, 1, 0, aye(2, 10)), v.Vote(l, 2, 0, nay(1, 30)), v.Vote(l, 3, 0, api.Vote{Kind: api.VoteSplit, A: 50, N: 70}),
		v.Vote(l, 1, 1, nay(1, 4)), v.Vote(l, 1, 2, aye(1, 500)),
		v.Delegate(l, 4, 0, 1, 3, 100), v.Delegate(l, 0, 0, 1, 0, 55), v.Delegate(l, 5, 0, 2, 1, 7), v.Delegate(l, 4, 1, 2, 1, 900),
	} {
		if err != api.OK {
			t.Fatal(err)
		}
	}
	return l, v
}

func TestP161Recount(t *testing.T) {
	l, v := voted(t)
	for _, x := range []struct {
		ref, track int
		want       api.Tally
	}{
		{0, 0, api.Tally{Ayes: 20 + 305 + 5, Nays: 30 + 7 + 7, Support: 10 + 155 + 50}},
		{1, 0, api.Tally{Nays: 4 + 305}},
		{2, 1, api.Tally{Ayes: 500, Support: 500}},
		{0, 1, api.Tally{}}, {2, 0, api.Tally{}}, {3, 0, api.Tally{}}, {-1, 0, api.Tally{}}, {0, -1, api.Tally{}}, {0, 4, api.Tally{}},
	} {
		if got := audit.Recount(v, x.ref, x.track); got != x.want {
			t.Errorf("Recount(%d, %d) = %+v, want %+v", x.ref, x.track, got, x.want)
		}
	}
	if got, want := audit.Recount(v, 0, 0), v.Tally(0); got != want {
		t.Errorf("%+v, the tally is %+v", got, want)
	}
	v.Close(1, api.StateApproved, 1)
	v.Undelegate(4, 0, 1)
	if got := audit.Recount(v, 1, 0); got != (api.Tally{Nays: 9}) {
		t.Errorf("counted anew: %+v", got)
	}
	v.Vote(l, 9, 0, aye(1, 0)) // the last account counts, too
	v.Delegate(l, 3, 1, 9, 1, 8)
	v.Vote(l, 9, 2, aye(1, 0))
	if got := audit.Recount(v, 2, 1); got != (api.Tally{Ayes: 508, Support: 508}) {
		t.Errorf("%+v", got)
	}
	if got := audit.Recount(nil, 0, 0); got != (api.Tally{}) {
		t.Errorf("of nothing: %+v", got)
	}
}

func TestP161Deposits(t *testing.T) {
	c := start(t)
	check := func(want ...int) {
		t.Helper()
		for who := -1; who <= api.MaxAcc; who++ {
			n := 0
			if who >= 0 && who < len(want) {
				n = want[who]
			}
			if got := audit.Deposits(c, who); got != n {
				t.Errorf("Deposits(%d) = %d, want %d", who, got, n)
			}
		}
	}
	check()
	do(t, c,
		api.Ext{Kind: api.ExtNote, Who: 1, Call: remark(1)},
		api.Ext{Kind: api.ExtNote, Who: 1, Call: remark(2)},
		api.Ext{Kind: api.ExtNote, Who: 0, Call: remark(3)})
	check(5, 10)
	do(t, c,
		api.Ext{Kind: api.ExtSubmit, Who: 1},
		api.Ext{Kind: api.ExtSubmit, Who: 2, Track: 1},
		api.Ext{Kind: api.ExtSubmit, Who: 2, Track: 1})
	check(5, 20, 20)
	do(t, c,
		api.Ext{Kind: api.ExtDeposit, Who: 1, Ref: 0},
		api.Ext{Kind: api.ExtDeposit, Who: 0, Ref: 1})
	check(25, 23, 20)
	c.Refer().Cancel(c.Voting(), 0, 1)
	c.Refer().Cancel(c.Voting(), 1, 1)
	check(25, 23, 20)
	do(t, c,
		api.Ext{Kind: api.ExtRefund, Who: 1, Ref: 0},
		api.Ext{Kind: api.ExtRefund, Who: 2, Ref: 1},
		api.Ext{Kind: api.ExtUnnote, Who: 0, Sum: code.Sum(remark(3))})
	check(20, 10, 10)
	for _, who := range []int{-1 << 63, 1<<63 - 1} {
		if got := audit.Deposits(c, who); got != 0 {
			t.Errorf("Deposits(%d) = %d", who, got)
		}
	}
	if audit.Deposits(nil, 1) != 0 {
		t.Error("deposits of nothing")
	}
}

func TestP161Duty(t *testing.T) {
	l, v := voted(t)
	for who, want := range []int{55, 500, 30, 120, 900, 7, 0, 0, 0, 0} {
		if got := audit.Duty(v, who, 5); got != want {
			t.Errorf("Duty(%d) = %d, want %d", who, got, want)
		}
	}
	v.Vote(l, 1, 2, api.Vote{Kind: api.VoteAbstain, A: 3, N: 3, S: 3})
	if got := audit.Duty(v, 1, 5); got != 10 {
		t.Error("the greatest of votes:", got)
	}
	v.Undelegate(4, 1, 20) // the prior of 900 runs until 28
	for now, want := range map[int]int{20: 900, 27: 900, 28: 100, 29: 100} {
		if got := audit.Duty(v, 4, now); got != want {
			t.Errorf("at %d: %d, want %d", now, got, want)
		}
	}
	v.Delegate(l, 5, 1, 2, 1, 3)
	v.Undelegate(5, 1, 20)
	if got := audit.Duty(v, 5, 20); got != 7 {
		t.Error("a prior that is less than a delegation:", got)
	}
	v.Open(11, 3)
	v.Delegate(l, 4, 3, 1, 1, 101)
	if got := audit.Duty(v, 4, 28); got != 101 {
		t.Error("the last track counts:", got)
	}
	for _, who := range []int{-1, api.MaxAcc} {
		if got := audit.Duty(v, who, 5); got != 0 {
			t.Errorf("Duty(%d) = %d", who, got)
		}
	}
	if audit.Duty(nil, 1, 5) != 0 {
		t.Error("nothing has a duty")
	}
}

// busy is a chain with notes, referenda, votes and delegations.
func busy(t *testing.T) *chain.Chain {
	t.Helper()
	c := start(t)
	do(t, c,
		api.Ext{Kind: api.ExtNote, Who: 1, Call: remark(1)},
		api.Ext{Kind: api.ExtSubmit, Who: 1, Sum: code.Sum(remark(1))},
		api.Ext{Kind: api.ExtSubmit, Who: 2, Track: 1},
		api.Ext{Kind: api.ExtDeposit, Who: 1, Ref: 0},
		api.Ext{Kind: api.ExtVote, Who: 3, Ref: 0, Vote: aye(2, 100)},
		api.Ext{Kind: api.ExtDelegate, Who: 4, To: 3, Level: 1, N: 40},
		api.Ext{Kind: api.ExtDelegate, Who: 5, Track: 1, To: 3, Level: 1, N: 80},
		api.Ext{Kind: api.ExtUndelegate, Who: 5, Track: 1})
	return c
}

func TestP162Sound(t *testing.T) {
	if audit.Sound(nil) {
		t.Error("a nil chain is sound")
	}
	if !audit.Sound(start(t)) || !audit.Sound(busy(t)) {
		t.Error("a chain is not sound")
	}
	for _, x := range []struct {
		name  string
		sound bool
		spoil func(c *chain.Chain)
	}{
		{"more is held", false, func(c *chain.Chain) { c.Ledger().Reserve(0, 1) }},
		{"more is held of the last account", false, func(c *chain.Chain) { c.Ledger().Mint(9, 1); c.Ledger().Reserve(9, 1) }},
		{"less is held", false, func(c *chain.Chain) { c.Ledger().Release(1, 1) }},
		{"what is held was slashed", false, func(c *chain.Chain) { c.Ledger().Slash(2, 1) }},
		{"more is issued", true, func(c *chain.Chain) { c.Ledger().Mint(0, 7) }},
		{"less is issued", true, func(c *chain.Chain) { c.Ledger().Burn(0, 7) }},
		{"all that is free is locked", true, func(c *chain.Chain) { c.Ledger().Lock(0, 9, 1000) }},
		{"more than what is free is locked", false, func(c *chain.Chain) { c.Ledger().Lock(0, 9, 1001) }},
		{"the lock of a vote is less", false, func(c *chain.Chain) { c.Ledger().Lock(3, 0, 99) }},
		{"the lock of a vote is just so", true, func(c *chain.Chain) { c.Ledger().Lock(3, 0, 0); c.Ledger().Lock(3, 7, 100) }},
		{"the lock of a delegation is less", false, func(c *chain.Chain) { c.Ledger().Lock(4, 0, 39) }},
		{"the lock of a prior is less", false, func(c *chain.Chain) { c.Ledger().Lock(5, 1, 79) }},
		{"the lock of a prior is less, one block ahead of its end", false, func(c *chain.Chain) { later(c, 7); c.Ledger().Lock(5, 1, 79) }},
		{"the lock of a prior that has run out is less", true, func(c *chain.Chain) { later(c, 8); c.Ledger().Lock(5, 1, 79) }},
		{"a poll is of another track", false, func(c *chain.Chain) { otherPoll(c) }},
		{"a poll is of another track, of one that has ended", true, func(c *chain.Chain) {
			otherPoll(c)
			c.Refer().Cancel(c.Voting(), 2, 1)
		}},
	} {
		c := busy(t)
		x.spoil(c)
		if got := audit.Sound(c); got != x.sound {
			t.Errorf("%s: %v", x.name, got)
		}
	}
}

// later is so many blocks.
func later(c *chain.Chain, n int) {
	for range n {
		c.Block()
	}
}

// otherPoll makes a referendum whose poll is of another track, and has a vote.
func otherPoll(c *chain.Chain) {
	c.Refer().Submit(c.Ledger(), voting.New(), 1, 0, api.Hash{}, 0, 0)
	c.Voting().Open(2, 1)
	c.Voting().Vote(c.Ledger(), 3, 2, aye(1, 5))
}
