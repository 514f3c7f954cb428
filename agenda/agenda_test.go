package agenda_test

import (
	"slices"
	"testing"

	"althing/agenda"
	"althing/api"
)

// task is a task of a name, at a block, of a priority.
func task(name, at, priority int) api.Task {
	return api.Task{Name: name, At: at, Priority: priority, Sum: api.Hash{byte(name)}, Track: name % 4}
}

// put puts tasks; none may err.
func put(t *testing.T, a *agenda.Agenda, l ...api.Task) {
	t.Helper()
	for _, x := range l {
		if err := a.Put(x); err != api.OK {
			t.Fatalf("Put(%+v): %v", x, err)
		}
	}
}

// names is the names of tasks.
func names(l []api.Task) []int {
	var out []int
	for _, t := range l {
		out = append(out, t.Name)
	}
	return out
}

// all is the names of all tasks, in order.
func all(a *agenda.Agenda) []int { return names(slices.Collect(a.All())) }

func TestP91PutErrsInOrder(t *testing.T) {
	a := agenda.New()
	bad := []api.Task{{Name: -1}, {At: -1}, {Priority: -1}, {Name: -1 << 63, At: 3}, {Name: 0, At: 5, Priority: -1 << 63}}
	for _, x := range bad {
		if err := a.Put(x); err != api.ErrArg {
			t.Errorf("Put(%+v): %v", x, err)
		}
	}
	put(t, a, api.Task{})
	if err := a.Put(task(0, 7, 7)); err != api.ErrHas || a.Len() != 1 {
		t.Error("of a name that is there:", err, a.Len())
	}
	for i := 1; i < api.MaxTasks; i++ {
		put(t, a, task(i, 1<<62, 1<<62))
	}
	if err := a.Put(task(11, 7, 7)); err != api.ErrHas {
		t.Error("of a name that is there, and full:", err)
	}
	if err := a.Put(task(12, 7, 7)); err != api.ErrFull || a.Len() != api.MaxTasks {
		t.Error("full:", err, a.Len())
	}
	for _, x := range bad {
		if err := a.Put(x); err != api.ErrArg {
			t.Errorf("full: Put(%+v): %v", x, err)
		}
	}
	if !slices.Equal(all(a), []int{0, 1, 2, 3, 4, 5, 6, 7, 8, 9, 10, 11}) {
		t.Error("what errs changes something:", all(a))
	}
	a.Cancel(3)
	put(t, a, task(12, 7, 7))
	a.Due(7, 1)
	put(t, a, task(3, 7, 7))
	if a.Len() != api.MaxTasks {
		t.Error(a.Len())
	}
}

// mixed is tasks of which each comes first by another number.
func mixed(t *testing.T) *agenda.Agenda {
	t.Helper()
	a := agenda.New()
	put(t, a, task(5, 3, 1), task(1, 9, 0), task(6, 3, 0), task(4, 3, 1), task(3, 3, 2), task(2, 0, 9), task(0, 9, 1))
	return a
}

func TestP91AllIsInOrder(t *testing.T) {
	a := mixed(t)
	if got := all(a); !slices.Equal(got, []int{2, 6, 4, 5, 3, 1, 0}) {
		t.Error("by At, Priority, Name:", got)
	}
	for x := range a.All() {
		if x.Sum != (api.Hash{byte(x.Name)}) || x.Track != x.Name%4 {
			t.Errorf("what was put: %+v", x)
		}
	}
	n := 0
	for range a.All() {
		n++
		if n == 3 {
			break
		}
	}
	if n != 3 {
		t.Error("stopped:", n)
	}
}

func TestP91Cancel(t *testing.T) {
	a := mixed(t)
	for _, name := range []int{-1, 7, 99} {
		if a.Cancel(name) {
			t.Error(name, "was there")
		}
	}
	if !a.Cancel(4) || a.Cancel(4) || a.Len() != 6 {
		t.Error("Cancel(4):", a.Len())
	}
	if got := all(a); !slices.Equal(got, []int{2, 6, 5, 3, 1, 0}) {
		t.Error(got)
	}
	put(t, a, task(4, 0, 0))
	if got := all(a); !slices.Equal(got, []int{4, 2, 6, 5, 3, 1, 0}) {
		t.Error("put once more:", got)
	}
	if !a.Cancel(0) || !a.Cancel(4) || a.Len() != 5 {
		t.Error("the first and the last:", all(a))
	}
}

func TestP91Due(t *testing.T) {
	for _, x := range []struct {
		now, most  int
		due, still []int
	}{
		{-1, 9, nil, []int{2, 6, 4, 5, 3, 1, 0}},
		{0, 9, []int{2}, []int{6, 4, 5, 3, 1, 0}},
		{2, 9, []int{2}, []int{6, 4, 5, 3, 1, 0}},
		{3, 9, []int{2, 6, 4, 5, 3}, []int{1, 0}},
		{3, 3, []int{2, 6, 4}, []int{5, 3, 1, 0}},
		{9, 6, []int{2, 6, 4, 5, 3, 1}, []int{0}},
		{9, 7, []int{2, 6, 4, 5, 3, 1, 0}, nil},
		{1<<63 - 1, 1<<63 - 1, []int{2, 6, 4, 5, 3, 1, 0}, nil},
		{9, 1, []int{2}, []int{6, 4, 5, 3, 1, 0}},
		{9, 0, nil, []int{2, 6, 4, 5, 3, 1, 0}},
		{9, -1, nil, []int{2, 6, 4, 5, 3, 1, 0}},
		{9, -1 << 63, nil, []int{2, 6, 4, 5, 3, 1, 0}},
	} {
		a := mixed(t)
		due := a.Due(x.now, x.most)
		if !slices.Equal(names(due), x.due) || !slices.Equal(all(a), x.still) || a.Len() != len(x.still) {
			t.Errorf("Due(%d, %d): %v, there stay %v; want %v, %v", x.now, x.most, names(due), all(a), x.due, x.still)
		}
		for _, d := range due {
			if d.Sum != (api.Hash{byte(d.Name)}) || d.Track != d.Name%4 {
				t.Errorf("what was put: %+v", d)
			}
		}
	}
}

func TestP92WhatIsNotTakenStaysAhead(t *testing.T) {
	a := agenda.New()
	put(t, a, task(1, 5, 0), task(2, 5, 0), task(3, 5, 0))
	if got := names(a.Due(5, 2)); !slices.Equal(got, []int{1, 2}) {
		t.Error(got)
	}
	put(t, a, task(0, 6, 0), task(1, 6, 0))
	if got := names(a.Due(6, 2)); !slices.Equal(got, []int{3, 0}) {
		t.Error("what stayed stands ahead:", got)
	}
	if got := names(a.Due(7, 2)); !slices.Equal(got, []int{1}) || a.Len() != 0 {
		t.Error(got, a.Len())
	}
}

func TestP92AllTellsWhatWasThereWhenTheRangingBegan(t *testing.T) {
	a := mixed(t)
	seq := a.All()
	put(t, a, task(8, 4, 0))
	var got []int
	for x := range seq {
		got = append(got, x.Name)
		a.Cancel(x.Name)
		a.Due(4, 1)
		a.Put(task(100+x.Name, 0, 0))
	}
	if !slices.Equal(got, []int{2, 6, 4, 5, 3, 8, 1, 0}) {
		t.Error(got)
	}
	if again := names(slices.Collect(seq)); slices.Equal(again, got) {
		t.Error("a second ranging begins anew:", again)
	}
}

func TestP92AnswersStayWhatTheyAre(t *testing.T) {
	a := mixed(t)
	due := a.Due(3, 3)
	put(t, a, task(20, 0, 0), task(21, 0, 0))
	a.Due(9, 9)
	if !slices.Equal(names(due), []int{2, 6, 4}) {
		t.Error("what is answered is changed:", names(due))
	}
	put(t, a, task(1, 1, 1), task(2, 2, 2))
	due = a.Due(1, 1)
	due[0].Name = 50
	due = append(due, task(51, 0, 0))
	if got := all(a); !slices.Equal(got, []int{2}) || len(due) != 2 {
		t.Error("what is answered is shared:", got)
	}
}

func TestP92NilAgenda(t *testing.T) {
	var a *agenda.Agenda
	if err := a.Put(task(1, 1, 1)); err != api.ErrArg {
		t.Error(err)
	}
	if a.Cancel(1) || len(a.Due(9, 9)) != 0 || len(all(a)) != 0 || a.Len() != 0 {
		t.Error("a nil agenda has tasks")
	}
}
