package script_test

import (
	"bytes"
	"slices"
	"testing"

	"althing/api"
	"althing/chain"
	"althing/code"
	"althing/script"
)

// start is a chain of one quick track.
func start(t *testing.T) *chain.Chain {
	t.Helper()
	half := api.Curve{Kind: api.CurveLinear, A: api.Bill / 2, B: api.Bill / 2, C: api.Bill}
	none := api.Curve{Kind: api.CurveLinear, C: 1}
	c, err := chain.New([]int{1000, 1000, 1000}, []api.Track{{Most: 12, Deposit: 3, Decision: 2, Approval: half, Support: none, Cap: 100}})
	if err != api.OK {
		t.Fatal(err)
	}
	return c
}

// row is the bytes of an extrinsic that may be.
func row(t *testing.T, e api.Ext) []byte {
	t.Helper()
	b, err := code.EncodeExt(e)
	if err != api.OK {
		t.Fatalf("%+v: %v", e, err)
	}
	return b
}

// transfer is a transfer as bytes.
func transfer(t *testing.T, from, to, n int) []byte {
	return row(t, api.Ext{Kind: api.ExtTransfer, Who: from, To: to, N: n})
}

// same checks results.
func same(t *testing.T, got []script.Result, want ...script.Result) {
	t.Helper()
	if !slices.EqualFunc(got, want, func(a, b script.Result) bool { return a.Err == b.Err && slices.Equal(a.Events, b.Events) }) {
		t.Errorf("%+v, want %+v", got, want)
	}
}

// err is a result without events; events is one without an error.
func err(e api.Errno) script.Result       { return script.Result{Err: e} }
func events(l ...api.Event) script.Result { return script.Result{Events: l} }
func event(kind, a, b int) api.Event      { return api.Event{Kind: kind, A: a, B: b} }
func balances(c *chain.Chain) (out []int) {
	for a := range 3 {
		out = append(out, c.Ledger().Free(a))
	}
	return out
}

func TestP151MakeAndRows(t *testing.T) {
	long := bytes.Repeat([]byte{7}, 64)
	b := script.Make([]byte("ab"), nil, []byte("c"), long)
	if !bytes.Equal(b, append([]byte{8, 'a', 'b', 0, 4, 'c', 1, 1}, long...)) {
		t.Errorf("%x", b)
	}
	if b := script.Make(); len(b) != 0 {
		t.Errorf("of nothing: %x", b)
	}
	for _, behind := range [][]byte{nil, {4}, {1, 0}} {
		var got []string
		for i, p := range script.Rows(slices.Concat(b, behind)) {
			if i != len(got) {
				t.Errorf("number %d, want %d", i, len(got))
			}
			got = append(got, string(p))
		}
		if !slices.Equal(got, []string{"ab", "", "c", string(long)}) {
			t.Errorf("then %x: %q", behind, got)
		}
	}
	for range script.Rows(nil) {
		t.Error("nothing has rows")
	}
}

func TestP152RunDoesRowByRow(t *testing.T) {
	c := start(t)
	b := script.Make(transfer(t, 1, 2, 30), nil, transfer(t, 1, 2, 971), []byte("no extrinsic"), transfer(t, 2, 0, 1030), nil, nil)
	same(t, script.Run(c, b), err(api.OK), events(), err(api.ErrFunds), err(api.ErrForm), err(api.OK), events(), events())
	if c.Now() != 3 || !slices.Equal(balances(c), []int{2030, 970, 0}) {
		t.Error(c.Now(), balances(c))
	}
	same(t, script.Run(c, nil))
	same(t, script.Run(c, []byte{}))
	same(t, script.Run(c, []byte{0}), events())
	if c.Now() != 4 {
		t.Error("a row of nothing is a block:", c.Now())
	}
}

func TestP152RunTellsTheEvents(t *testing.T) {
	c := start(t)
	call := api.Call{Kind: api.CallSpend, To: 2, N: 40}
	vote := api.Vote{Kind: api.VoteStandard, Aye: true, Level: 1, A: 10}
	b := script.Make(
		row(t, api.Ext{Kind: api.ExtNote, Who: 1, Call: call}),
		row(t, api.Ext{Kind: api.ExtSubmit, Who: 1, Sum: code.Sum(call)}),
		row(t, api.Ext{Kind: api.ExtDeposit, Who: 1}),
		row(t, api.Ext{Kind: api.ExtDeposit, Who: 2}),
		row(t, api.Ext{Kind: api.ExtVote, Who: 2, Vote: vote}),
		nil, nil, nil,
		row(t, api.Ext{Kind: api.ExtRefund, Who: 1}))
	ok := err(api.OK)
	same(t, script.Run(c, b), ok, ok, ok, err(api.ErrHas), ok,
		events(event(api.EventEnded, 0, api.StateApproved)),
		events(event(api.EventSpent, 2, 40), event(api.EventCalled, 0, 0)),
		events(), ok)
	if !slices.Equal(balances(c), []int{960, 995, 1040}) {
		t.Error(balances(c))
	}
}

func TestP152WhatIsNoRowIsOneResult(t *testing.T) {
	whole := script.Make(transfer(t, 1, 2, 30), nil)
	for _, behind := range [][]byte{{4}, {1}, {1, 0}, {1, 0, 0, 0, 0}, {200, 1, 2}, {0xff, 0, 0, 0}} {
		c := start(t)
		same(t, script.Run(c, slices.Concat(whole, behind)), err(api.OK), events(), err(api.ErrForm))
		if c.Now() != 1 || c.Ledger().Free(2) != 1030 {
			t.Errorf("then %x: %d, %v", behind, c.Now(), balances(c))
		}
		c = start(t)
		same(t, script.Run(c, behind), err(api.ErrForm))
		if c.Now() != 0 {
			t.Errorf("%x: block %d", behind, c.Now())
		}
	}
}

func TestP152RowsThatAreNoExtrinsics(t *testing.T) {
	c := start(t)
	good := transfer(t, 1, 2, 30)
	for _, p := range [][]byte{{0}, {1}, good[:len(good)-1], append(bytes.Clone(good), 0), append([]byte{0}, good[1:]...), bytes.Repeat([]byte{0xff}, 100)} {
		same(t, script.Run(c, script.Make(p)), err(api.ErrForm))
	}
	if c.Now() != 0 || !slices.Equal(balances(c), []int{1000, 1000, 1000}) {
		t.Error("what errs changes something:", c.Now(), balances(c))
	}
	long := row(t, api.Ext{Kind: api.ExtNote, Who: 1, Call: api.Call{Kind: api.CallBatch, Kids: []api.Call{
		{Kind: api.CallSpend, To: 2, N: 1 << 30}, {Kind: api.CallSpend, To: 2, N: 1 << 30}, {Kind: api.CallSpend, To: 2, N: 1 << 30}, {Kind: api.CallSpend, To: 2, N: 1 << 30},
	}}})
	if len(long) < 64 {
		t.Fatal("a row whose number has two bytes:", len(long))
	}
	same(t, script.Run(c, script.Make(long, nil)), err(api.OK), events())
	same(t, script.Run(c, append(script.Make(long), 1)), err(api.ErrHas), err(api.ErrForm))
}

func TestP153RangingEndsWhereItIsStopped(t *testing.T) {
	rows := script.Rows(script.Make([]byte("a"), []byte("b"), []byte("c")))
	for range 2 {
		last := ""
		for i, p := range rows {
			last = string(p)
			if i == 1 {
				break
			}
		}
		if last != "b" {
			t.Error(last)
		}
	}
}

func TestP153WhatIsHandedInIsNeitherChangedNorKept(t *testing.T) {
	c := start(t)
	call := api.Call{Kind: api.CallBatch, Kids: []api.Call{{Kind: api.CallRemark, N: 1}}}
	b := script.Make(row(t, api.Ext{Kind: api.ExtNote, Who: 1, Call: call}), nil, []byte("no extrinsic"))
	was := bytes.Clone(b)
	rows := script.Rows(b)
	script.Run(c, b)
	if !bytes.Equal(b, was) {
		t.Error("what was handed in is changed")
	}
	clear(b)
	if got, ok := c.Pre().Get(code.Sum(call)); !ok || !code.SameCall(got, call) {
		t.Errorf("%+v, %v", got, ok)
	}
	for i, p := range rows {
		if i == 2 && string(p) != "no extrinsic" {
			t.Errorf("Rows keeps the bytes: %q", p)
		}
		clear(p)
	}
	one := []byte("ab")
	made := script.Make(one)
	one[0] = 'z'
	if !bytes.Equal(made, []byte{8, 'a', 'b'}) {
		t.Errorf("%x", made)
	}
}

func TestP153NilChain(t *testing.T) {
	if got := script.Run(nil, []byte{0, 0, 4}); len(got) != 0 {
		t.Errorf("%+v", got)
	}
}
