package conv_test

import (
	"testing"

	"althing/api"
	"althing/conv"
)

func TestP51Votes(t *testing.T) {
	for _, x := range []struct{ n, level, want int }{
		{0, 0, 0}, {9, 0, 0}, {10, 0, 1}, {19, 0, 1}, {25, 0, 2}, {1 << 33, 0, 858993459},
		{0, 1, 0}, {9, 1, 9}, {9, 2, 18}, {9, 3, 27}, {9, 6, 54}, {1 << 33, 1, 1 << 33}, {1 << 33, 6, 6 << 33},
	} {
		if got := conv.Votes(x.n, x.level); got != x.want {
			t.Errorf("Votes(%d, %d) = %d, want %d", x.n, x.level, got, x.want)
		}
	}
}

func TestP51Period(t *testing.T) {
	for level, want := range []int{0, 8, 16, 32, 64, 128, 256} {
		if got := conv.Period(level, 8); got != want {
			t.Errorf("Period(%d, 8) = %d, want %d", level, got, want)
		}
		if got := conv.Period(level, 0); got != 0 {
			t.Errorf("Period(%d, 0) = %d", level, got)
		}
	}
	if got := conv.Period(6, 1<<30); got != 1<<35 {
		t.Error("the longest:", got)
	}
	if got := conv.Period(3, 5); got != 20 {
		t.Error("Period(3, 5):", got)
	}
}

func TestP52WhichVotesMayBe(t *testing.T) {
	const top = api.MaxBal
	for _, v := range []api.Vote{
		{Kind: api.VoteStandard},
		{Kind: api.VoteStandard, Aye: true, Level: 6, A: top},
		{Kind: api.VoteStandard, Level: 3, A: 5},
		{Kind: api.VoteSplit},
		{Kind: api.VoteSplit, A: top},
		{Kind: api.VoteSplit, N: top},
		{Kind: api.VoteSplit, A: 1, N: top - 1},
		{Kind: api.VoteAbstain},
		{Kind: api.VoteAbstain, S: top},
		{Kind: api.VoteAbstain, A: 1, N: 2, S: top - 3},
	} {
		if !conv.Is(v) {
			t.Errorf("%+v may be", v)
		}
	}
	for _, v := range []api.Vote{
		{},
		{A: 1},
		{Kind: 4},
		{Kind: -1},
		{Kind: api.VoteStandard, Level: -1},
		{Kind: api.VoteStandard, Level: 7},
		{Kind: api.VoteStandard, N: 1},
		{Kind: api.VoteStandard, S: 1},
		{Kind: api.VoteStandard, A: 5, N: -1},
		{Kind: api.VoteStandard, A: -1},
		{Kind: api.VoteStandard, A: top + 1},
		{Kind: api.VoteSplit, Aye: true},
		{Kind: api.VoteSplit, Level: 1},
		{Kind: api.VoteSplit, Level: -1},
		{Kind: api.VoteSplit, S: 1},
		{Kind: api.VoteSplit, A: -1},
		{Kind: api.VoteSplit, N: -1},
		{Kind: api.VoteSplit, A: -1, N: 5},
		{Kind: api.VoteSplit, A: 5, N: -1},
		{Kind: api.VoteAbstain, A: -1, N: 5, S: 5},
		{Kind: api.VoteAbstain, A: 5, N: -1, S: 5},
		{Kind: api.VoteAbstain, A: 5, N: 5, S: -1},
		{Kind: api.VoteSplit, A: top + 1},
		{Kind: api.VoteSplit, N: top + 1},
		{Kind: api.VoteSplit, A: 2, N: top - 1},
		{Kind: api.VoteSplit, A: top, N: top},
		{Kind: api.VoteAbstain, Aye: true},
		{Kind: api.VoteAbstain, Level: 1},
		{Kind: api.VoteAbstain, A: -1},
		{Kind: api.VoteAbstain, N: -1},
		{Kind: api.VoteAbstain, S: -1},
		{Kind: api.VoteAbstain, S: top + 1},
		{Kind: api.VoteAbstain, A: 1, N: 1, S: top - 1},
		{Kind: api.VoteAbstain, A: 1<<63 - 1, N: 1<<63 - 1, S: 2},
	} {
		if conv.Is(v) {
			t.Errorf("%+v may not be", v)
		}
	}
}

func TestP52Capital(t *testing.T) {
	for _, x := range []struct {
		v    api.Vote
		want int
	}{
		{api.Vote{Kind: api.VoteStandard, Aye: true, Level: 6, A: 7}, 7},
		{api.Vote{Kind: api.VoteSplit, A: 7, N: 20}, 27},
		{api.Vote{Kind: api.VoteAbstain, A: 7, N: 20, S: 300}, 327},
		{api.Vote{Kind: api.VoteAbstain}, 0},
	} {
		if got := conv.Capital(x.v); got != x.want {
			t.Errorf("Capital(%+v) = %d, want %d", x.v, got, x.want)
		}
	}
}

func TestP53Gain(t *testing.T) {
	lent := api.Weight{Votes: 1000, Capital: 400}
	for _, x := range []struct {
		v    api.Vote
		w    api.Weight
		want api.Tally
	}{
		{api.Vote{Kind: api.VoteStandard, Aye: true, Level: 2, A: 25}, api.Weight{}, api.Tally{Ayes: 50, Support: 25}},
		{api.Vote{Kind: api.VoteStandard, Aye: true, Level: 2, A: 25}, lent, api.Tally{Ayes: 1050, Support: 425}},
		{api.Vote{Kind: api.VoteStandard, Aye: true, Level: 0, A: 25}, lent, api.Tally{Ayes: 1002, Support: 425}},
		{api.Vote{Kind: api.VoteStandard, Level: 2, A: 25}, api.Weight{}, api.Tally{Nays: 50}},
		{api.Vote{Kind: api.VoteStandard, Level: 2, A: 25}, lent, api.Tally{Nays: 1050}},
		{api.Vote{Kind: api.VoteStandard, Level: 0, A: 9}, lent, api.Tally{Nays: 1000}},
		{api.Vote{Kind: api.VoteStandard, Aye: true}, lent, api.Tally{Ayes: 1000, Support: 400}},
		{api.Vote{Kind: api.VoteSplit, A: 25, N: 39}, api.Weight{}, api.Tally{Ayes: 2, Nays: 3, Support: 25}},
		{api.Vote{Kind: api.VoteSplit, A: 25, N: 39}, lent, api.Tally{Ayes: 2, Nays: 3, Support: 25}},
		{api.Vote{Kind: api.VoteAbstain, A: 25, N: 39, S: 7}, api.Weight{}, api.Tally{Ayes: 2, Nays: 3, Support: 32}},
		{api.Vote{Kind: api.VoteAbstain, A: 25, N: 39, S: 7}, lent, api.Tally{Ayes: 2, Nays: 3, Support: 32}},
	} {
		if got := conv.Gain(x.v, x.w); got != x.want {
			t.Errorf("Gain(%+v, %+v) = %+v, want %+v", x.v, x.w, got, x.want)
		}
	}
}

func TestP53AddAndSub(t *testing.T) {
	a, b, c := api.Tally{Ayes: 1, Nays: 20, Support: 300}, api.Tally{Ayes: 4, Nays: 50, Support: 600}, api.Tally{Ayes: 7, Nays: 80, Support: 900}
	if got := conv.Add(a); got != a {
		t.Error("of one:", got)
	}
	if got := conv.Add(a, b); got != (api.Tally{Ayes: 5, Nays: 70, Support: 900}) {
		t.Error("of two:", got)
	}
	l := []api.Tally{b, c}
	if got := conv.Add(a, l...); got != (api.Tally{Ayes: 12, Nays: 150, Support: 1800}) {
		t.Error("of three:", got)
	}
	if l[0] != b || l[1] != c {
		t.Error("what was handed in is changed")
	}
	if got := conv.Sub(c, a); got != (api.Tally{Ayes: 6, Nays: 60, Support: 600}) {
		t.Error("less:", got)
	}
	if got := conv.Sub(a, c); got != (api.Tally{Ayes: -6, Nays: -60, Support: -600}) {
		t.Error("below nought:", got)
	}
}

func TestP54SubOfWhatWasAddedIsIt(t *testing.T) {
	for a := range 4 {
		t0 := api.Tally{Ayes: a, Nays: 1 << 33, Support: 7 * a}
		g := api.Tally{Ayes: 1 << 33, Nays: a * a, Support: 5}
		if got := conv.Sub(conv.Add(t0, g), g); got != t0 {
			t.Errorf("%+v and %+v less the latter: %+v", t0, g, got)
		}
		if got := conv.Sub(conv.Add(t0, g, g, t0), conv.Add(g, g, t0)); got != t0 {
			t.Errorf("%+v: %+v", t0, got)
		}
	}
}

func TestNothingPanics(t *testing.T) {
	wide := []int{-1 << 63, -64, -1, 0, 1, 64, 1<<63 - 1}
	for _, a := range wide {
		for _, b := range wide {
			conv.Votes(a, b)
			conv.Period(a, b)
			for kind := -1; kind < 5; kind++ {
				v := api.Vote{Kind: kind, Aye: a > b, Level: a, A: b, N: a, S: b}
				conv.Is(v)
				conv.Capital(v)
				conv.Gain(v, api.Weight{Votes: a, Capital: b})
			}
		}
	}
}
