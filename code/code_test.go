package code_test

import (
	"bytes"
	"encoding/hex"
	"slices"
	"testing"

	"althing/api"
	"althing/blake"
	"althing/code"
	"althing/compact"
)

const top = api.MaxBal

// batch is a batch of some calls.
func batch(kids ...api.Call) api.Call { return api.Call{Kind: api.CallBatch, Kids: kids} }

// remark is a remark of n.
func remark(n int) api.Call { return api.Call{Kind: api.CallRemark, N: n} }

// calls is calls that may be, and their bytes.
func calls() []struct {
	c   api.Call
	hex string
} {
	r := remark(3)
	return []struct {
		c   api.Call
		hex string
	}{
		{r, "04000c00"},
		{remark(0), "04000000"},
		{remark(top), "0400" + "0300000040" + "00"},
		{api.Call{Kind: api.CallSpend, To: 9, N: 69}, "0824" + "1501" + "00"},
		{api.Call{Kind: api.CallSpend, To: 0, N: 0}, "08000000"},
		{api.Call{Kind: api.CallSpend, To: 1, N: top}, "0804" + "0300000040" + "00"},
		{api.Call{Kind: api.CallCancel, N: 0}, "0c000000"},
		{api.Call{Kind: api.CallCancel, N: 11}, "0c002c00"},
		{api.Call{Kind: api.CallKill, N: 11}, "10002c00"},
		{batch(r), "14000004" + "1004000c00"},
		{batch(r, r, r, remark(1)), "14000010" + "1004000c00" + "1004000c00" + "1004000c00" + "1004000400"},
		{batch(batch(r), r), "14000008" + "24" + "14000004" + "1004000c00" + "1004000c00"},
		{batch(batch(batch(r))), "14000004" + "38" + "14000004" + "24" + "14000004" + "1004000c00"},
	}
}

// noCalls is calls that may not be.
func noCalls() []api.Call {
	r := remark(3)
	spend := api.Call{Kind: api.CallSpend, To: 1, N: 1}
	loop := make([]api.Call, 1)
	loop[0] = batch(loop...)
	return []api.Call{
		{}, {N: 1}, {Kids: []api.Call{r}}, {Kind: -1}, {Kind: 6}, {Kind: 1 << 62},
		remark(-1), remark(top + 1),
		{Kind: api.CallRemark, To: 1}, {Kind: api.CallRemark, To: -1}, {Kind: api.CallRemark, Kids: []api.Call{r}},
		{Kind: api.CallSpend, To: -1}, {Kind: api.CallSpend, To: 10}, {Kind: api.CallSpend, N: -1}, {Kind: api.CallSpend, N: top + 1}, {Kind: api.CallSpend, Kids: []api.Call{r}},
		{Kind: api.CallCancel, N: -1}, {Kind: api.CallCancel, N: 12}, {Kind: api.CallCancel, To: 1}, {Kind: api.CallCancel, Kids: []api.Call{r}},
		{Kind: api.CallKill, N: -1}, {Kind: api.CallKill, N: 12}, {Kind: api.CallKill, To: 1}, {Kind: api.CallKill, Kids: []api.Call{r}},
		batch(), batch(r, r, r, r, r), batch(r, remark(-1)), batch(api.Call{}), batch(r, api.Call{}, r),
		{Kind: api.CallBatch, To: 1, Kids: []api.Call{r}}, {Kind: api.CallBatch, N: 1, Kids: []api.Call{r}},
		batch(batch(batch(batch(r)))), batch(r, batch(spend, batch(batch(spend)))), batch(batch()), batch(batch(batch(remark(-1)))),
		batch(loop...),
	}
}

// exts is extrinsics that may be, of all kinds, at the edges of what they name.
func exts() []api.Ext {
	sum := api.Hash{1, 2, 3, 31: 9}
	aye := api.Vote{Kind: api.VoteStandard, Aye: true, Level: 6, A: 69}
	return []api.Ext{
		{Kind: api.ExtTransfer},
		{Kind: api.ExtTransfer, Who: 9, To: 9, N: top},
		{Kind: api.ExtNote, Call: remark(3)},
		{Kind: api.ExtNote, Who: 1, Call: batch(batch(batch(remark(3))), remark(1))},
		{Kind: api.ExtUnnote},
		{Kind: api.ExtUnnote, Who: 2, Sum: sum},
		{Kind: api.ExtSubmit},
		{Kind: api.ExtSubmit, Who: 3, Track: 3, Sum: sum, N: 1000},
		{Kind: api.ExtDeposit, Who: 4, Ref: 11},
		{Kind: api.ExtRefund, Who: 4, Ref: 11},
		{Kind: api.ExtVote, Who: 5, Ref: 11, Vote: aye},
		{Kind: api.ExtVote, Vote: api.Vote{Kind: api.VoteStandard}},
		{Kind: api.ExtVote, Vote: api.Vote{Kind: api.VoteSplit, A: 1, N: 2}},
		{Kind: api.ExtVote, Vote: api.Vote{Kind: api.VoteAbstain, A: 1, N: 2, S: 3}},
		{Kind: api.ExtUnvote, Who: 6, Ref: 11},
		{Kind: api.ExtDelegate, Who: 7, Track: 3, To: 9, Level: 6, N: top},
		{Kind: api.ExtDelegate},
		{Kind: api.ExtUndelegate, Who: 8, Track: 3},
		{Kind: api.ExtUnlock, Who: 9, Track: 3},
	}
}

// names is, by kinds, which fields an extrinsic names: T To, N, R Ref, K Track, L Level, V Vote, C Call.
var names = []string{1: "TN", 2: "C", 3: "", 4: "KN", 5: "R", 6: "R", 7: "RV", 8: "R", 9: "KTLN", 10: "K", 11: "K"}

// bad is extrinsics that have in one field what it may not have.
func bad(e api.Ext) []api.Ext {
	ends := map[rune]int{'T': api.MaxAcc, 'N': top + 1, 'R': api.MaxRefs, 'K': api.MaxTracks, 'L': api.MaxLevel + 1}
	if e.Kind == api.ExtSubmit {
		ends['N'] = api.MaxPeriod + 1
	}
	set := func(field rune, n int) api.Ext {
		f := e
		*map[rune]*int{'T': &f.To, 'N': &f.N, 'R': &f.Ref, 'K': &f.Track, 'L': &f.Level}[field] = n
		return f
	}
	var l []api.Ext
	for field, end := range ends {
		if !slices.Contains([]rune(names[e.Kind]), field) {
			end = 1 // it is zero
		}
		l = append(l, set(field, -1), set(field, end), set(field, 1<<62))
	}
	for _, who := range []int{-1, api.MaxAcc} {
		f := e
		f.Who = who
		l = append(l, f)
	}
	for _, kind := range []int{0, -1, 12, 1 << 62} {
		f := e
		f.Kind = kind
		l = append(l, f)
	}
	return append(l, badParts(e)...)
}

// badParts is extrinsics that have a vote or a call that they may not have.
func badParts(e api.Ext) []api.Ext {
	votes := []api.Vote{{Kind: api.VoteStandard}, {Aye: true}, {Level: 1}, {A: 1}, {N: 1}, {S: 1}}
	if e.Kind == api.ExtVote {
		votes = []api.Vote{{}, {A: 1}, {Kind: api.VoteStandard, A: -1}, {Kind: api.VoteSplit, S: 1}, {Kind: api.VoteAbstain, Level: 1}, {Kind: 4}}
	}
	cs := []api.Call{remark(0), {To: 1}, {N: 1}, {Kids: []api.Call{{}}}}
	if e.Kind == api.ExtNote {
		cs = noCalls()
	}
	var l []api.Ext
	for _, v := range votes {
		f := e
		f.Vote = v
		l = append(l, f)
	}
	for _, c := range cs {
		f := e
		f.Call = c
		l = append(l, f)
	}
	return l
}

func TestP71WhichCallsMayBe(t *testing.T) {
	for _, x := range calls() {
		if !code.IsCall(x.c) {
			t.Errorf("%+v may be", x.c)
		}
	}
	for i, c := range noCalls() {
		if code.IsCall(c) {
			t.Errorf("call %d may not be", i)
		}
		if b, err := code.EncodeCall(c); err != api.ErrArg || len(b) != 0 {
			t.Errorf("call %d is encoded: %x, %v", i, b, err)
		}
	}
}

func TestP71CallsAsBytes(t *testing.T) {
	for _, x := range calls() {
		b, err := code.EncodeCall(x.c)
		if err != api.OK || hex.EncodeToString(b) != x.hex {
			t.Errorf("%+v: %x, %v, want %s", x.c, b, err, x.hex)
		}
		if c, err := code.DecodeCall(b); err != api.OK || !code.SameCall(c, x.c) {
			t.Errorf("%x: %+v, %v, want %+v", b, c, err, x.c)
		}
	}
}

func TestP71WhichExtrinsicsMayBe(t *testing.T) {
	for _, e := range exts() {
		if !code.IsExt(e) {
			t.Errorf("%+v may be", e)
		}
		for _, f := range bad(e) {
			if code.IsExt(f) {
				t.Errorf("%+v may not be", f)
			}
			if b, err := code.EncodeExt(f); err != api.ErrArg || len(b) != 0 {
				t.Errorf("%+v is encoded: %x, %v", f, b, err)
			}
		}
	}
	for _, e := range []api.Ext{
		{Kind: api.ExtUndelegate, To: 1},
		{Kind: api.ExtUnlock, N: 1},
		{Kind: api.ExtDeposit, Track: 1},
		{Kind: api.ExtVote, Level: 1, Vote: api.Vote{Kind: api.VoteStandard}},
	} {
		if code.IsExt(e) {
			t.Errorf("%+v may not be", e)
		}
	}
}

// nought is so many bytes of 0, as hexadecimal digits.
func nought(n int) string { return hex.EncodeToString(make([]byte, n)) }

func TestP71ExtrinsicsAsBytes(t *testing.T) {
	var all api.Hash
	for i := range all {
		all[i] = byte(i + 1)
	}
	for _, x := range []struct {
		e   api.Ext
		hex string
	}{
		{api.Ext{Kind: api.ExtTransfer, Who: 2, To: 3, N: 69}, "04080c1501" + "000000" + nought(32) + nought(6) + "00"},
		{api.Ext{Kind: api.ExtNote, Who: 1, Call: remark(3)}, "0804" + nought(5) + nought(32) + nought(6) + "1004000c00"},
		{api.Ext{Kind: api.ExtUnnote, Who: 1, Sum: all}, "0c04" + nought(5) + hex.EncodeToString(all[:]) + nought(6) + "00"},
		{api.Ext{Kind: api.ExtSubmit, Track: 1, Sum: all, N: 2}, "100000080004" + "00" + hex.EncodeToString(all[:]) + nought(6) + "00"},
		{api.Ext{Kind: api.ExtVote, Who: 1, Ref: 5, Vote: api.Vote{Kind: api.VoteStandard, Aye: true, Level: 3, A: 2}}, "1c040000140000" + nought(32) + "040800000c04" + "00"},
		{api.Ext{Kind: api.ExtVote, Who: 1, Ref: 5, Vote: api.Vote{Kind: api.VoteAbstain, A: 1, N: 2, S: 4}}, "1c040000140000" + nought(32) + "0c0408100000" + "00"},
		{api.Ext{Kind: api.ExtDelegate, Who: 1, Track: 2, To: 3, Level: 4, N: 5}, "24040c14000810" + nought(32) + nought(6) + "00"},
	} {
		if b, err := code.EncodeExt(x.e); err != api.OK || hex.EncodeToString(b) != x.hex {
			t.Errorf("%+v: %x, %v, want %s", x.e, b, err, x.hex)
		}
	}
}

func TestP73DecodeOfEncodeIsIt(t *testing.T) {
	for _, e := range exts() {
		b, err := code.EncodeExt(e)
		if err != api.OK {
			t.Fatalf("%+v: %v", e, err)
		}
		f, err := code.DecodeExt(b)
		if err != api.OK || !code.SameExt(e, f) || f.Sum != e.Sum || f.Vote != e.Vote || f.Kind != e.Kind || f.Who != e.Who || f.N != e.N {
			t.Errorf("%x: %+v, %v, want %+v", b, f, err, e)
		}
	}
}

func TestP71DecodeCallRefusesAllElse(t *testing.T) {
	for _, h := range []string{
		"", "04", "04000c", "04000c0000", "04000d0000", "0000", "00000000", "18000000", "04040000", "0400" + "0700000040" + "00",
		"0400" + "0700000000" + "01" + "00", "0800" + "0304000040" + "00" + "00", "08280000", "0c003000", "10003000", "0c040000",
		"14000000", "14000014" + "1004000c00" + "1004000c00" + "1004000c00" + "1004000c00" + "1004000c00", "04000c04" + "1004000c00",
		"14000004" + "1404000c0000", "14000004" + "0c04000c", "14000008" + "1004000c00", "14000004" + "00", "14000004" + "1004000c00" + "1004000c00",
		"14040004" + "1004000c00", "14000404" + "1004000c00", "14000004" + "10" + "04040c00",
		"14000004" + "4c" + "14000004" + "38" + "14000004" + "24" + "14000004" + "1004000c00", "ffffffffffffffffffff", "14000003000000004004000c00",
	} {
		b, _ := hex.DecodeString(h)
		if c, err := code.DecodeCall(b); err != api.ErrForm || !code.SameCall(c, api.Call{}) {
			t.Errorf("%s: %+v, %v", h, c, err)
		}
	}
}

// tampered calls try with whatever is one byte apart from b: changed, cut off, put in, left out.
func tampered(b []byte, try func([]byte)) {
	for i := range b {
		for _, c := range []byte{0, 1, 2, 3, 4, 7, 8, 12, 0x10, 0x14, 0x28, 0x40, 0xfc, 0xff, b[i] + 1, b[i] + 4, b[i] ^ 1} {
			x := bytes.Clone(b)
			x[i] = c
			try(x)
			try(slices.Insert(bytes.Clone(b), i, c))
			try(append(bytes.Clone(b), c))
		}
		try(b[:i])
		try(b[i:])
		try(slices.Delete(bytes.Clone(b), i, i+1))
	}
}

func TestP71DecodeTakesJustWhatIsEncoded(t *testing.T) {
	for _, x := range calls() {
		b, _ := hex.DecodeString(x.hex)
		tampered(b, func(p []byte) {
			c, err := code.DecodeCall(p)
			if err == api.OK {
				if again, err := code.EncodeCall(c); err != api.OK || !bytes.Equal(again, p) {
					t.Errorf("%x is taken as %+v, which is %x, %v", p, c, again, err)
				}
			} else if err != api.ErrForm || !code.SameCall(c, api.Call{}) {
				t.Errorf("%x: %+v, %v", p, c, err)
			}
		})
	}
	for _, e := range exts() {
		b, _ := code.EncodeExt(e)
		tampered(b, func(p []byte) {
			e, err := code.DecodeExt(p)
			if err == api.OK {
				if again, err := code.EncodeExt(e); err != api.OK || !bytes.Equal(again, p) {
					t.Errorf("%x is taken as %+v, which is %x, %v", p, e, again, err)
				}
			} else if err != api.ErrForm || !code.SameExt(e, api.Ext{}) {
				t.Errorf("%x: %+v, %v", p, e, err)
			}
		})
	}
}

func TestP71DecodeExtRefusesAllElse(t *testing.T) {
	head, tail := "04080c1501"+"000000", nought(32)+nought(6)+"00" // a transfer
	for _, h := range []string{
		"", "04", head, head + nought(32), head + nought(37) + "0400", head + nought(31), head + tail + "00",
		head + nought(32) + "00000000000000" + "00", head + nought(32) + nought(5) + "04" + "00", head + nought(32) + nought(5) + "08" + "00",
		head + nought(32) + nought(6) + "1004000c00", head + nought(32) + "040000000000" + "00",
		"00080c1501" + "000000" + tail, "30080c1501" + "000000" + tail, "04280c1501" + "000000" + tail, "0408281501" + "000000" + tail,
		"0804" + nought(5) + nought(32) + nought(6) + "00", // a note of no call
		"0804" + nought(5) + nought(32) + nought(6) + "0c04000c",
		"0804" + nought(5) + nought(32) + nought(6) + "1000000000",
		"1c040000140000" + nought(32) + "040800000c08" + "00", // a vote of an aye of 2
		"1c040000140000" + nought(32) + "000000000000" + "00",
		"1c040000140000" + nought(32) + "080800000004" + "00",
	} {
		b, err := hex.DecodeString(h)
		if err != nil {
			t.Fatal(h, err)
		}
		if e, err := code.DecodeExt(b); err != api.ErrForm || !code.SameExt(e, api.Ext{}) {
			t.Errorf("%s: %+v, %v", h, e, err)
		}
	}
}

func TestP72SumIsThatOfTheBytes(t *testing.T) {
	for _, x := range calls() {
		b, _ := hex.DecodeString(x.hex)
		if got := code.Sum(x.c); got != blake.Sum(b) {
			t.Errorf("%+v: %x", x.c, got)
		}
	}
	for i, c := range noCalls() {
		if got := code.Sum(c); got != blake.Sum() {
			t.Errorf("call %d, which may not be: %x", i, got)
		}
	}
}

func TestP72SameCallGoesFieldByField(t *testing.T) {
	a := api.Call{Kind: 5, To: 7, N: 8, Kids: []api.Call{remark(1), batch(remark(2))}}
	same := api.Call{Kind: 5, To: 7, N: 8, Kids: []api.Call{remark(1), batch(remark(2))}}
	if !code.SameCall(a, same) || !code.SameCall(api.Call{}, api.Call{Kids: []api.Call{}}) {
		t.Error("two that are one are not the same")
	}
	for _, b := range []api.Call{
		{Kind: 4, To: 7, N: 8, Kids: a.Kids},
		{Kind: 5, To: 6, N: 8, Kids: a.Kids},
		{Kind: 5, To: 7, N: 9, Kids: a.Kids},
		{Kind: 5, To: 7, N: 8},
		{Kind: 5, To: 7, N: 8, Kids: a.Kids[:1]},
		{Kind: 5, To: 7, N: 8, Kids: []api.Call{remark(1), batch(remark(3))}},
		{Kind: 5, To: 7, N: 8, Kids: []api.Call{remark(1), batch(remark(2)), remark(1)}},
		{Kind: 5, To: 7, N: 8, Kids: []api.Call{batch(remark(2)), remark(1)}},
	} {
		if code.SameCall(a, b) || code.SameCall(b, a) {
			t.Errorf("%+v and %+v are the same", a, b)
		}
	}
}

func TestP72SameExtGoesFieldByField(t *testing.T) {
	a := api.Ext{Kind: 1, Who: 2, To: 3, N: 4, Ref: 5, Track: 6, Level: 7, Sum: api.Hash{8}, Vote: api.Vote{Kind: 1, Aye: true, Level: 2, A: 3, N: 4, S: 5}, Call: batch(remark(1))}
	same := a
	same.Call = batch(remark(1))
	if !code.SameExt(a, same) || !code.SameExt(api.Ext{}, api.Ext{Call: api.Call{Kids: []api.Call{}}}) {
		t.Error("two that are one are not the same")
	}
	for i, change := range []func(e *api.Ext){
		func(e *api.Ext) { e.Kind++ }, func(e *api.Ext) { e.Who++ }, func(e *api.Ext) { e.To++ }, func(e *api.Ext) { e.N++ },
		func(e *api.Ext) { e.Ref++ }, func(e *api.Ext) { e.Track++ }, func(e *api.Ext) { e.Level++ }, func(e *api.Ext) { e.Sum[31]++ },
		func(e *api.Ext) { e.Vote.Kind++ }, func(e *api.Ext) { e.Vote.Aye = false }, func(e *api.Ext) { e.Vote.Level++ },
		func(e *api.Ext) { e.Vote.A++ }, func(e *api.Ext) { e.Vote.N++ }, func(e *api.Ext) { e.Vote.S++ },
		func(e *api.Ext) { e.Call.N++ }, func(e *api.Ext) { e.Call.Kids = []api.Call{remark(2)} }, func(e *api.Ext) { e.Call.Kids = nil },
	} {
		b := a
		change(&b)
		if code.SameExt(a, b) || code.SameExt(b, a) {
			t.Errorf("change %d makes no difference", i)
		}
	}
}

func TestP73MemoryIsNotShared(t *testing.T) {
	c := batch(remark(1), batch(remark(2)))
	b, _ := code.EncodeCall(c)
	was := bytes.Clone(b)
	d, _ := code.DecodeCall(b)
	clear(b)
	if !code.SameCall(c, d) {
		t.Error("a call keeps the bytes that it was made of")
	}
	d.Kids[0].N, d.Kids[1].Kids[0].N = 9, 9
	d.Kids = append(d.Kids[:1:1], remark(7))
	if again, _ := code.EncodeCall(c); !bytes.Equal(again, was) {
		t.Error("a call is changed through another one")
	}
	e := api.Ext{Kind: api.ExtNote, Call: c}
	b, _ = code.EncodeExt(e)
	f, _ := code.DecodeExt(b)
	clear(b)
	if !code.SameExt(e, f) {
		t.Error("an extrinsic keeps the bytes that it was made of")
	}
	b, _ = code.EncodeExt(e)
	room := append(bytes.Clone(b), 1, 2, 3)
	code.DecodeExt(room[:len(b)])
	if !bytes.Equal(room[:len(b)], b) || !bytes.Equal(room[len(b):], []byte{1, 2, 3}) {
		t.Error("what was handed in is written")
	}
}

func TestP71LongKidsEndAtOnce(t *testing.T) {
	b := compact.Put(nil, api.CallBatch, 0, 0, 1<<62)
	if _, err := code.DecodeCall(b); err != api.ErrForm {
		t.Error(err)
	}
	deep := []byte{4, 0, 12, 0}
	for range 1000 {
		deep = compact.Row([]byte{20, 0, 0, 4}, deep)
	}
	if _, err := code.DecodeCall(deep); err != api.ErrForm {
		t.Error(err)
	}
}
