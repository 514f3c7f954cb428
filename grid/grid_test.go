package grid_test

import (
	"iter"
	"slices"
	"testing"

	"althing/grid"
)

// pair is what a row or a column tells of a cell.
type pair struct {
	at int
	v  string
}

// cell is what Cells tells.
type cell struct {
	at [2]int
	v  string
}

func pairs(seq iter.Seq2[int, string]) []pair {
	var l []pair
	for at, v := range seq {
		l = append(l, pair{at, v})
	}
	return l
}

func cells(seq iter.Seq2[[2]int, string]) []cell {
	var l []cell
	for at, v := range seq {
		l = append(l, cell{at, v})
	}
	return l
}

// full is a grid of some cells, laid in no order.
func full() *grid.Grid[string] {
	g := grid.New[string]()
	g.Set(5, 1, "e")
	g.Set(2, 3, "d")
	g.Set(2, -1, "b")
	g.Set(2, 1, "c")
	g.Set(-7, 1, "a")
	g.Set(1<<62, -1<<62, "f")
	return g
}

func TestP31SetGetDelLen(t *testing.T) {
	g := grid.New[string]()
	if v, ok := g.Get(1, 2); v != "" || ok || g.Len() != 0 || g.Del(1, 2) {
		t.Error("a new grid has a cell")
	}
	g.Set(1, 2, "x")
	g.Set(2, 1, "y")
	g.Set(1, 3, "")
	if g.Len() != 3 {
		t.Error("Len:", g.Len())
	}
	g.Set(1, 2, "z")
	if v, ok := g.Get(1, 2); v != "z" || !ok || g.Len() != 3 {
		t.Errorf("set anew: %q, %v, Len %d", v, ok, g.Len())
	}
	if v, ok := g.Get(2, 1); v != "y" || !ok {
		t.Errorf("the cell of 2 and 1: %q, %v", v, ok)
	}
	if v, ok := g.Get(1, 3); v != "" || !ok {
		t.Errorf("a cell that has nothing: %q, %v", v, ok)
	}
	for _, at := range [][2]int{{1, 1}, {2, 2}, {3, 1}, {0, 0}} {
		if v, ok := g.Get(at[0], at[1]); v != "" || ok || g.Del(at[0], at[1]) {
			t.Errorf("the cell of %v is there: %q", at, v)
		}
	}
	if !g.Del(1, 2) || g.Del(1, 2) || g.Len() != 2 {
		t.Error("Del: Len is", g.Len())
	}
	if v, ok := g.Get(1, 2); v != "" || ok {
		t.Errorf("a cell that was taken away: %q, %v", v, ok)
	}
	if v, ok := g.Get(1, 3); v != "" || !ok {
		t.Errorf("the cell beside one that was taken away: %q, %v", v, ok)
	}
	g.Set(1, 2, "w")
	if v, ok := g.Get(1, 2); v != "w" || !ok || g.Len() != 3 {
		t.Errorf("laid once more: %q, %v", v, ok)
	}
}

func TestP32RowByRisingB(t *testing.T) {
	g := full()
	if got := pairs(g.Row(2)); !slices.Equal(got, []pair{{-1, "b"}, {1, "c"}, {3, "d"}}) {
		t.Error(got)
	}
	if got := pairs(g.Row(1)); len(got) != 0 {
		t.Error("no cell has an a of 1:", got)
	}
	g.Del(2, 1)
	g.Set(2, 3, "D")
	if got := pairs(g.Row(2)); !slices.Equal(got, []pair{{-1, "b"}, {3, "D"}}) {
		t.Error(got)
	}
}

func TestP32ColumnByRisingA(t *testing.T) {
	g := full()
	if got := pairs(g.Column(1)); !slices.Equal(got, []pair{{-7, "a"}, {2, "c"}, {5, "e"}}) {
		t.Error(got)
	}
	if got := pairs(g.Column(2)); len(got) != 0 {
		t.Error("no cell has a b of 2:", got)
	}
	g.Del(2, 1)
	g.Set(5, 1, "E")
	g.Del(-7, 1)
	if got := pairs(g.Column(1)); !slices.Equal(got, []pair{{5, "E"}}) {
		t.Error(got)
	}
}

func TestP32CellsByRisingAThenB(t *testing.T) {
	g := full()
	want := []cell{{[2]int{-7, 1}, "a"}, {[2]int{2, -1}, "b"}, {[2]int{2, 1}, "c"}, {[2]int{2, 3}, "d"}, {[2]int{5, 1}, "e"}, {[2]int{1 << 62, -1 << 62}, "f"}}
	if got := cells(g.Cells()); !slices.Equal(got, want) {
		t.Error(got)
	}
	for _, c := range want {
		g.Del(c.at[0], c.at[1])
	}
	if got := cells(g.Cells()); len(got) != 0 || g.Len() != 0 {
		t.Error("all were taken away:", got)
	}
}

func TestP33RangingEndsWhereItIsStopped(t *testing.T) {
	g := full()
	for range 2 {
		var got []string
		for _, v := range g.Row(2) {
			got = append(got, v)
			if v == "c" {
				break
			}
		}
		for _, v := range g.Column(1) {
			got = append(got, v)
			if v == "c" {
				break
			}
		}
		for _, v := range g.Cells() {
			got = append(got, v)
			if v == "c" {
				break
			}
		}
		if !slices.Equal(got, []string{"b", "c", "a", "c", "a", "b", "c"}) {
			t.Error(got)
		}
	}
}

// spoil changes, takes away and adds cells.
func spoil(g *grid.Grid[string]) {
	for _, a := range []int{-7, 2, 5} {
		for _, b := range []int{-1, 1, 3} {
			g.Del(a, b)
		}
	}
	g.Set(2, 1, "new")
	g.Set(9, 1, "new")
	g.Set(2, 9, "new")
}

func TestP33RangingTellsWhatWasThereWhenItBegan(t *testing.T) {
	g := full()
	row := g.Row(2)
	g.Set(2, 4, "late")
	var got []string
	for _, v := range row {
		got = append(got, v)
		spoil(g)
	}
	if !slices.Equal(got, []string{"b", "c", "d", "late"}) {
		t.Error("Row:", got)
	}
	g, got = full(), nil
	column := g.Column(1)
	g.Set(3, 1, "late")
	for _, v := range column {
		got = append(got, v)
		spoil(g)
	}
	if !slices.Equal(got, []string{"a", "c", "late", "e"}) {
		t.Error("Column:", got)
	}
	g, got = full(), nil
	all := g.Cells()
	g.Set(3, 1, "late")
	for _, v := range all {
		got = append(got, v)
		spoil(g)
	}
	if !slices.Equal(got, []string{"a", "b", "c", "d", "late", "e", "f"}) {
		t.Error("Cells:", got)
	}
	if again := pairs(column); len(again) != 3 {
		t.Error("a second ranging begins anew:", again)
	}
}

func TestP33NilGrid(t *testing.T) {
	var g *grid.Grid[string]
	g.Set(1, 2, "x")
	if v, ok := g.Get(1, 2); v != "" || ok || g.Del(1, 2) || g.Len() != 0 {
		t.Error("a nil grid has a cell")
	}
	if pairs(g.Row(1)) != nil || pairs(g.Column(2)) != nil || cells(g.Cells()) != nil {
		t.Error("a nil grid tells cells")
	}
}

func TestP31GridsAreApart(t *testing.T) {
	g, h := grid.New[int](), grid.New[int]()
	g.Set(1, 1, 7)
	if _, ok := h.Get(1, 1); ok || h.Len() != 0 {
		t.Error("one grid's cell is another one's")
	}
}
