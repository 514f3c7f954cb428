package per_test

import (
	"math/big"
	"testing"

	"althing/api"
	"althing/per"
)

const (
	bill = api.Bill
	most = 1 << 33 // of what is asked
)

var (
	linear  = api.Curve{Kind: api.CurveLinear, A: 900_000_000, B: 100_000_000, C: 500_000_000}
	stepped = api.Curve{Kind: api.CurveStepped, A: 800_000_000, B: 450_000_000, C: 100_000_000, D: 250_000_000}
	recip   = api.Curve{Kind: api.CurveRecip, A: 222_222_224, B: 333_333_335, C: 166_666_668}
)

// curves is curves that may be, of all kinds.
var curves = []api.Curve{
	linear, stepped, recip,
	{Kind: api.CurveLinear, A: bill, B: 0, C: bill},
	{Kind: api.CurveLinear, A: bill, B: bill, C: 1},
	{Kind: api.CurveLinear, A: 0, B: 0, C: bill},
	{Kind: api.CurveLinear, A: 7, B: 3, C: 3},
	{Kind: api.CurveStepped, A: bill, B: 0, C: bill, D: bill},
	{Kind: api.CurveStepped, A: bill, B: 0, C: 1, D: 1},
	{Kind: api.CurveStepped, A: bill, B: bill, C: bill, D: 1},
	{Kind: api.CurveRecip, A: 0, B: 1, C: 0},
	{Kind: api.CurveRecip, A: bill, B: 1, C: bill},
	{Kind: api.CurveRecip, A: bill, B: bill, C: 0},
	{Kind: api.CurveRecip, A: 1, B: 1, C: 0},
}

// places is some places of a curve: its edges and those in between.
func places() []int {
	l := []int{0, 1, 2, 3, 4, bill - 1, bill}
	for x := 0; x <= bill; x += 33_333_333 {
		l = append(l, x, x+1)
	}
	return l
}

// quotient is a times b by c, rounded as asked.
func quotient(a, b, c int, up bool) int {
	n := new(big.Int).Mul(big.NewInt(int64(a)), big.NewInt(int64(b)))
	if up {
		n.Add(n, big.NewInt(int64(c-1)))
	}
	return int(n.Div(n, big.NewInt(int64(c))).Int64())
}

func TestP41Part(t *testing.T) {
	for _, x := range []struct{ n, part, down, up int }{
		{0, 0, 0, 0}, {0, bill, 0, 0}, {7, 0, 0, 0}, {7, bill, 7, 7}, {1, 1, 0, 1}, {1, bill - 1, 0, 1},
		{10, 250_000_000, 2, 3}, {4, 250_000_000, 1, 1}, {bill, 1, 1, 1}, {bill + 1, 1, 1, 2}, {bill - 1, 1, 0, 1},
		{most, bill, most, most}, {most, 1, 8, 9}, {most, bill - 1, most - 9, most - 8},
	} {
		if got := per.Part(x.n, x.part, false); got != x.down {
			t.Errorf("Part(%d, %d) down = %d, want %d", x.n, x.part, got, x.down)
		}
		if got := per.Part(x.n, x.part, true); got != x.up {
			t.Errorf("Part(%d, %d) up = %d, want %d", x.n, x.part, got, x.up)
		}
	}
	for _, n := range []int{1, 2, 999, 1 << 20, most - 1, most} {
		for _, part := range []int{1, 3, 123_456_789, 333_333_333, 500_000_000, bill - 1, bill} {
			for _, up := range []bool{false, true} {
				if got, want := per.Part(n, part, up), quotient(n, part, bill, up); got != want {
					t.Errorf("Part(%d, %d, %v) = %d, want %d", n, part, up, got, want)
				}
			}
		}
	}
}

func TestP41Ratio(t *testing.T) {
	for _, x := range []struct{ a, b, want int }{
		{0, 0, 0}, {5, 0, 0}, {most, 0, 0}, {0, 5, 0}, {5, 5, bill}, {6, 5, bill}, {most, 1, bill}, {most, most, bill},
		{1, 2, bill / 2}, {1, 3, 333_333_333}, {2, 3, 666_666_666}, {3, 4, 750_000_000}, {1, most, 0}, {9, most, 1},
		{most - 1, most, bill - 1}, {1, bill, 1}, {1, bill + 1, 0}, {bill - 1, bill, bill - 1},
	} {
		if got := per.Ratio(x.a, x.b); got != x.want {
			t.Errorf("Ratio(%d, %d) = %d, want %d", x.a, x.b, got, x.want)
		}
	}
}

func TestP44RatioIsAtLeastJustIfTheProductIs(t *testing.T) {
	for _, b := range []int{1, 3, 7, 1000, bill - 1, bill, bill + 1, most} {
		for _, a := range []int{0, 1, 2, 5, 333, 499_999_999, bill - 1, bill, most} {
			for _, p := range []int{0, 1, 2, 333_333_333, 333_333_334, 500_000_000, 714_285_714, 714_285_715, bill - 1, bill} {
				left := new(big.Int).Mul(big.NewInt(int64(a)), big.NewInt(bill))
				right := new(big.Int).Mul(big.NewInt(int64(p)), big.NewInt(int64(b)))
				if got, want := per.Ratio(a, b) >= p, left.Cmp(right) >= 0; got != want {
					t.Errorf("Ratio(%d, %d) at least %d: %v", a, b, p, got)
				}
			}
		}
	}
}

func TestP42WhichCurvesMayBe(t *testing.T) {
	for _, c := range curves {
		if !per.Is(c) {
			t.Errorf("%+v may be", c)
		}
	}
	for _, c := range []api.Curve{
		{},
		{Kind: 4, A: 5, B: 5, C: 5},
		{Kind: -1, A: 5, B: 5, C: 5},
		{Kind: api.CurveLinear, A: bill + 1, B: 0, C: 1},
		{Kind: api.CurveLinear, A: 5, B: 6, C: 1},
		{Kind: api.CurveLinear, A: 5, B: -1, C: 1},
		{Kind: api.CurveLinear, A: -1, B: -1, C: 1},
		{Kind: api.CurveLinear, A: 5, B: 5, C: 0},
		{Kind: api.CurveLinear, A: 5, B: 5, C: -1},
		{Kind: api.CurveLinear, A: 5, B: 5, C: bill + 1},
		{Kind: api.CurveLinear, A: 5, B: 5, C: 1, D: 1},
		{Kind: api.CurveLinear, A: 5, B: 5, C: 1, D: -1},
		{Kind: api.CurveStepped, A: bill + 1, B: 0, C: 1, D: 1},
		{Kind: api.CurveStepped, A: 5, B: 6, C: 1, D: 1},
		{Kind: api.CurveStepped, A: 5, B: -1, C: 1, D: 1},
		{Kind: api.CurveStepped, A: 5, B: 5, C: 0, D: 1},
		{Kind: api.CurveStepped, A: 5, B: 5, C: bill + 1, D: 1},
		{Kind: api.CurveStepped, A: 5, B: 5, C: 1, D: 0},
		{Kind: api.CurveStepped, A: 5, B: 5, C: 1, D: -1},
		{Kind: api.CurveStepped, A: 5, B: 5, C: 1, D: bill + 1},
		{Kind: api.CurveRecip, A: -1, B: 1, C: 0},
		{Kind: api.CurveRecip, A: bill + 1, B: 1, C: 0},
		{Kind: api.CurveRecip, A: 1, B: 0, C: 0},
		{Kind: api.CurveRecip, A: 1, B: -1, C: 0},
		{Kind: api.CurveRecip, A: 1, B: bill + 1, C: 0},
		{Kind: api.CurveRecip, A: 1, B: 1, C: -1},
		{Kind: api.CurveRecip, A: 1, B: 1, C: bill + 1},
		{Kind: api.CurveRecip, A: 1, B: 1, C: 0, D: 1},
	} {
		if per.Is(c) {
			t.Errorf("%+v may not be", c)
		}
	}
}

func TestP42Linear(t *testing.T) {
	for _, x := range []struct{ x, want int }{
		{0, 900_000_000}, {1, 899_999_999}, {2, 899_999_997}, {250_000_000, 500_000_000}, {499_999_999, 100_000_002},
		{500_000_000, 100_000_000}, {500_000_001, 100_000_000}, {bill, 100_000_000},
		{-1, 900_000_000}, {-1 << 63, 900_000_000}, {bill + 1, 100_000_000}, {1<<63 - 1, 100_000_000},
	} {
		if got := per.At(linear, x.x); got != x.want {
			t.Errorf("At(%d) = %d, want %d", x.x, got, x.want)
		}
	}
	whole := api.Curve{Kind: api.CurveLinear, A: bill, B: 0, C: bill}
	if got := per.At(whole, bill/4); got != 750_000_000 {
		t.Errorf("a quarter of the whole way: %d", got)
	}
	odd := api.Curve{Kind: api.CurveLinear, A: 7, B: 3, C: 3}
	for x, want := range []int{7, 6, 5, 3, 3} { // 4/3 and 8/3 are rounded down
		if got := per.At(odd, x); got != want {
			t.Errorf("At(%d) = %d, want %d", x, got, want)
		}
	}
	if got := per.At(api.Curve{Kind: api.CurveLinear, A: bill, B: 0, C: 1}, 1); got != 0 {
		t.Errorf("at C: %d", got)
	}
}

func TestP42Stepped(t *testing.T) {
	for _, x := range []struct{ x, want int }{
		{0, 800_000_000}, {1, 800_000_000}, {249_999_999, 800_000_000}, {250_000_000, 700_000_000}, {499_999_999, 700_000_000},
		{500_000_000, 600_000_000}, {750_000_000, 500_000_000}, {bill - 1, 500_000_000}, {bill, 450_000_000},
		{-1, 800_000_000}, {bill + 1, 450_000_000}, {1<<63 - 1, 450_000_000}, {-1 << 63, 800_000_000},
	} {
		if got := per.At(stepped, x.x); got != x.want {
			t.Errorf("At(%d) = %d, want %d", x.x, got, x.want)
		}
	}
	steep := api.Curve{Kind: api.CurveStepped, A: bill, B: 5, C: bill, D: 1}
	if got := per.At(steep, bill); got != 5 {
		t.Errorf("the steepest: %d", got)
	}
	if got := per.At(steep, 0); got != bill {
		t.Errorf("the steepest, at its beginning: %d", got)
	}
}

func TestP42Recip(t *testing.T) {
	for _, x := range []struct{ x, want int }{
		{0, 500_000_000}, {1, 499_999_998}, {bill, 0}, {bill - 1, 0}, {333_333_335, 166_666_666},
		{-1, 500_000_000}, {-1 << 63, 500_000_000}, {bill + 1, 0}, {1<<63 - 1, 0},
	} {
		if got := per.At(recip, x.x); got != x.want {
			t.Errorf("At(%d) = %d, want %d", x.x, got, x.want)
		}
	}
	for _, x := range []struct {
		c       api.Curve
		x, want int
	}{
		{api.Curve{Kind: api.CurveRecip, A: bill, B: 1, C: 0}, 0, bill},                           // held at most Bill
		{api.Curve{Kind: api.CurveRecip, A: bill, B: 1, C: bill}, 0, bill},                        // even less C
		{api.Curve{Kind: api.CurveRecip, A: 1, B: 1, C: bill}, bill, 0},                           // held at least 0
		{api.Curve{Kind: api.CurveRecip, A: bill, B: bill, C: 0}, bill, bill / 2},                 // rounded down
		{api.Curve{Kind: api.CurveRecip, A: 1, B: 3, C: 0}, 0, 333_333_333},                       // rounded down
		{api.Curve{Kind: api.CurveRecip, A: 2, B: 3, C: 1}, 0, 666_666_665},                       // C is taken off the rounded one
		{api.Curve{Kind: api.CurveRecip, A: 0, B: 1, C: 0}, 0, 0},                                 // nothing
		{api.Curve{Kind: api.CurveRecip, A: 500_000_000, B: bill, C: 1}, bill - 1, 250000000 - 1}, // by x and B together
	} {
		if got := per.At(x.c, x.x); got != x.want {
			t.Errorf("At(%+v, %d) = %d, want %d", x.c, x.x, got, x.want)
		}
	}
}

func TestP43DelayIsTheLeastPlace(t *testing.T) {
	for _, c := range curves {
		for _, y := range []int{-1, 0, 1, 2, 3, 5, 7, 99_999_999, 100_000_000, 100_000_001, 450_000_000, 500_000_000, 700_000_000, bill - 1, bill, bill + 1} {
			x := per.Delay(c, y)
			if x < 0 || x > bill {
				t.Errorf("Delay(%+v, %d) = %d", c, y, x)
			}
			if x > 0 && per.At(c, x-1) <= y {
				t.Errorf("Delay(%+v, %d) = %d: one ahead of it is as low", c, y, x)
			}
			if x < bill && per.At(c, x) > y {
				t.Errorf("Delay(%+v, %d) = %d: it is not as low", c, y, x)
			}
		}
	}
	for _, x := range []struct {
		c       api.Curve
		y, want int
	}{
		{linear, bill, 0}, {linear, 900_000_000, 0}, {linear, 899_999_999, 1}, {linear, 100_000_000, 500_000_000}, {linear, 99_999_999, bill},
		{stepped, 800_000_000, 0}, {stepped, 799_999_999, 250_000_000}, {stepped, 450_000_000, bill}, {stepped, 449_999_999, bill}, {stepped, 0, bill},
		{recip, 0, 999_999_991}, {recip, -1, bill}, {recip, 1<<63 - 1, 0}, {recip, -1 << 63, bill},
	} {
		if got := per.Delay(x.c, x.y); got != x.want {
			t.Errorf("Delay(%+v, %d) = %d, want %d", x.c, x.y, got, x.want)
		}
	}
}

func TestP44AtNeverRises(t *testing.T) {
	for _, c := range curves {
		last := per.At(c, -5)
		for x := -5; x <= bill; x += 9_999_991 {
			for _, near := range []int{x, x + 1, x + 2} {
				y := per.At(c, near)
				if y > last || y < 0 || y > bill {
					t.Errorf("At(%+v, %d) = %d, behind %d", c, near, y, last)
				}
				last = y
			}
		}
		for _, x := range places() {
			if per.At(c, x+1) > per.At(c, x) {
				t.Errorf("%+v rises at %d", c, x)
			}
		}
	}
}

func TestNothingPanics(t *testing.T) {
	wide := []int{-1 << 63, -bill, -1, 0, 1, bill, 1<<63 - 1}
	for _, a := range wide {
		for _, b := range wide {
			per.Part(a, b, true)
			per.Ratio(a, b)
			for kind := range 5 {
				c := api.Curve{Kind: kind, A: a, B: b, C: -a, D: b - 1}
				per.Is(c)
				per.At(c, b)
				per.At(c, -b)
				per.Delay(c, a)
			}
		}
	}
}
