package track_test

import (
	"testing"

	"althing/api"
	"althing/track"
)

const (
	bill = api.Bill
	top  = api.MaxBal
	most = 1 << 33 // of what tallies are asked
)

// falling is a track whose approval falls from all to half, and whose support falls from half to nothing, in ten blocks.
func falling() api.Track {
	return api.Track{
		Most: 1, Decision: 10,
		Approval: api.Curve{Kind: api.CurveLinear, A: bill, B: bill / 2, C: bill},
		Support:  api.Curve{Kind: api.CurveLinear, A: bill / 2, B: 0, C: bill},
	}
}

// change is a track that is falling but for one thing.
func change(f func(t *api.Track)) api.Track {
	t := falling()
	f(&t)
	return t
}

func TestP101WhichTracksMayBe(t *testing.T) {
	for i, x := range []api.Track{
		falling(),
		change(func(t *api.Track) { t.Most = api.MaxRefs }),
		change(func(t *api.Track) { t.Deposit = top }),
		change(func(t *api.Track) { t.Cap = top }),
		change(func(t *api.Track) { t.Prepare = 1000 }),
		change(func(t *api.Track) { t.Confirm = 1000 }),
		change(func(t *api.Track) { t.Enact = 1000 }),
		change(func(t *api.Track) { t.Decision = 1 }),
		change(func(t *api.Track) { t.Decision = 1000 }),
		change(func(t *api.Track) { t.Rank = 2 }),
		change(func(t *api.Track) { t.Approval = api.Curve{Kind: api.CurveRecip, B: 1} }),
		change(func(t *api.Track) { t.Support = api.Curve{Kind: api.CurveStepped, A: 5, B: 5, C: 1, D: 1} }),
	} {
		if !track.Is(x) {
			t.Errorf("track %d may be: %+v", i, x)
		}
	}
	for i, x := range []api.Track{
		{},
		change(func(t *api.Track) { t.Most = 0 }),
		change(func(t *api.Track) { t.Most = -1 }),
		change(func(t *api.Track) { t.Most = api.MaxRefs + 1 }),
		change(func(t *api.Track) { t.Deposit = -1 }),
		change(func(t *api.Track) { t.Deposit = top + 1 }),
		change(func(t *api.Track) { t.Cap = -1 }),
		change(func(t *api.Track) { t.Cap = top + 1 }),
		change(func(t *api.Track) { t.Prepare = -1 }),
		change(func(t *api.Track) { t.Prepare = 1001 }),
		change(func(t *api.Track) { t.Confirm = -1 }),
		change(func(t *api.Track) { t.Confirm = 1001 }),
		change(func(t *api.Track) { t.Enact = -1 }),
		change(func(t *api.Track) { t.Enact = 1001 }),
		change(func(t *api.Track) { t.Decision = 0 }),
		change(func(t *api.Track) { t.Decision = -1 }),
		change(func(t *api.Track) { t.Decision = 1001 }),
		change(func(t *api.Track) { t.Rank = -1 }),
		change(func(t *api.Track) { t.Rank = 3 }),
		change(func(t *api.Track) { t.Approval = api.Curve{} }),
		change(func(t *api.Track) { t.Support = api.Curve{} }),
		change(func(t *api.Track) { t.Approval.D = 1 }),
		change(func(t *api.Track) { t.Support.B = bill }),
	} {
		if track.Is(x) {
			t.Errorf("track %d may not be: %+v", i, x)
		}
	}
}

func TestP102Shares(t *testing.T) {
	for _, x := range []struct {
		tally             api.Tally
		issued            int
		approval, support int
	}{
		{api.Tally{}, 0, 0, 0},
		{api.Tally{}, 100, 0, 0},
		{api.Tally{Ayes: 3, Nays: 1, Support: 10}, 40, 750_000_000, 250_000_000},
		{api.Tally{Ayes: 1, Nays: 2, Support: 2}, 3, 333_333_333, 666_666_666},
		{api.Tally{Ayes: 7}, 5, bill, 0},
		{api.Tally{Nays: 7, Support: 5}, 5, 0, bill},
		{api.Tally{Ayes: 1, Support: 5}, 0, bill, 0},
		{api.Tally{Support: 6}, 5, 0, bill},
		{api.Tally{Ayes: most / 2, Nays: most / 2, Support: most}, most, bill / 2, bill},
		{api.Tally{Ayes: most, Support: 1}, most, bill, 0},
		{api.Tally{Ayes: 1, Nays: 1, Support: most}, 1, bill / 2, bill},
	} {
		if a, s := track.Shares(x.tally, x.issued); a != x.approval || s != x.support {
			t.Errorf("Shares(%+v, %d) = %d, %d; want %d, %d", x.tally, x.issued, a, s, x.approval, x.support)
		}
	}
}

// passing is cases of a falling track, of a hundred that are issued.
var passing = []struct {
	tally   api.Tally
	elapsed int
	want    bool
}{
	{api.Tally{Ayes: 10, Support: 50}, 0, true}, // approval of all, support of half
	{api.Tally{Ayes: 10, Support: 49}, 0, false},
	{api.Tally{Ayes: 999, Nays: 1, Support: 50}, 0, false},
	{api.Tally{Ayes: 95, Nays: 5, Support: 45}, 1, true}, // a tenth of the way
	{api.Tally{Ayes: 95, Nays: 5, Support: 44}, 1, false},
	{api.Tally{Ayes: 94, Nays: 6, Support: 45}, 1, false},
	{api.Tally{Ayes: 75, Nays: 25, Support: 25}, 5, true}, // half of the way
	{api.Tally{Ayes: 75, Nays: 25, Support: 24}, 5, false},
	{api.Tally{Ayes: 74, Nays: 26, Support: 25}, 5, false},
	{api.Tally{Ayes: 75, Nays: 25, Support: 25}, 4, false},
	{api.Tally{Ayes: 55, Nays: 45, Support: 5}, 9, true},
	{api.Tally{Ayes: 54, Nays: 46, Support: 5}, 9, false},
	{api.Tally{Ayes: 1, Nays: 1}, 9, false},
	{api.Tally{Ayes: 1, Nays: 1}, 10, true}, // the end of the way
	{api.Tally{Ayes: 49, Nays: 51}, 10, false},
	{api.Tally{Ayes: 1, Nays: 1}, 11, true},
	{api.Tally{Ayes: 1, Nays: 1}, api.MaxBlock, true},
	{api.Tally{Ayes: 49, Nays: 51, Support: 100}, api.MaxBlock, false},
	{api.Tally{}, api.MaxBlock, false}, // of no votes the approval is none
	{api.Tally{Support: 100}, api.MaxBlock, false},
}

func TestP102Passing(t *testing.T) {
	for _, x := range passing {
		if got := track.Passing(falling(), x.tally, 100, x.elapsed); got != x.want {
			t.Errorf("%+v at %d: %v", x.tally, x.elapsed, got)
		}
	}
	third := change(func(t *api.Track) { t.Decision = 3 }) // a third is rounded down
	if track.Passing(third, api.Tally{Ayes: 833_333_333, Nays: 166_666_667, Support: 100}, 100, 1) {
		t.Error("a third of the way: the approval is 833333334")
	}
	if !track.Passing(third, api.Tally{Ayes: 833_333_334, Nays: 166_666_666, Support: 100}, 100, 1) {
		t.Error("a third of the way: the approval is as high as it must be")
	}
	none := change(func(t *api.Track) { t.Approval = api.Curve{Kind: api.CurveLinear, C: 1} })
	if !track.Passing(none, api.Tally{}, 0, 10) || track.Passing(none, api.Tally{Support: 100}, 0, 9) {
		t.Error("of nothing issued the support is none")
	}
}

func TestP102BothCurvesCount(t *testing.T) {
	x := falling()
	x.Approval, x.Support = x.Support, x.Approval
	if !track.Passing(x, api.Tally{Ayes: 50, Nays: 50, Support: 100}, 100, 0) || track.Passing(x, api.Tally{Ayes: 100, Support: 50}, 100, 0) {
		t.Error("the curves stand for one another")
	}
}

func TestP103WhatPassesPassesLaterAndWithMore(t *testing.T) {
	tracks := []api.Track{
		falling(),
		change(func(t *api.Track) {
			t.Approval = api.Curve{Kind: api.CurveRecip, A: bill / 5, B: bill / 3, C: bill / 9}
			t.Support = api.Curve{Kind: api.CurveStepped, A: bill / 2, B: bill / 10, C: bill / 7, D: bill / 4}
			t.Decision = 7
		}),
	}
	for _, x := range tracks {
		seen := 0
		for elapsed := range 13 {
			for ayes := 0; ayes < 100; ayes += 9 {
				for support := 0; support < 60; support += 5 {
					tally := api.Tally{Ayes: ayes, Nays: 40, Support: support}
					if !track.Passing(x, tally, 100, elapsed) {
						continue
					}
					seen++
					more := api.Tally{Ayes: ayes + 1, Nays: 40, Support: support}
					fewer := api.Tally{Ayes: ayes, Nays: 39, Support: support}
					wider := api.Tally{Ayes: ayes, Nays: 40, Support: support + 1}
					if !track.Passing(x, tally, 100, elapsed+1) || !track.Passing(x, more, 100, elapsed) || !track.Passing(x, fewer, 100, elapsed) || !track.Passing(x, wider, 100, elapsed) {
						t.Errorf("%+v passes at %d, but not later or with more", tally, elapsed)
					}
				}
			}
		}
		if seen == 0 {
			t.Error("nothing passes")
		}
	}
}

func TestNothingPanics(t *testing.T) {
	wide := []int{-1 << 63, -1, 0, 1, 1<<63 - 1}
	for _, a := range wide {
		for _, b := range wide {
			tally := api.Tally{Ayes: a, Nays: b, Support: a}
			track.Shares(tally, b)
			track.Passing(api.Track{Decision: b}, tally, a, b)
			track.Passing(falling(), tally, a, b)
			track.Is(api.Track{Most: a, Decision: b})
		}
	}
}
