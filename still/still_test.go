package still_test

import (
	"iter"
	"maps"
	"slices"
	"testing"

	"althing/still"
)

// told is what a sequence tells, up to the first that is not below end.
func told(seq iter.Seq2[int, int], end int) []int {
	var l []int
	for k, v := range seq {
		if k >= end {
			break
		}
		l = append(l, k, v)
	}
	return l
}

func TestNowStaysWhatItWas(t *testing.T) {
	l := []int{7, 8, 9}
	seq := still.Now(slices.All(l))
	l[0] = 0
	for range 2 {
		if got := told(seq, 9); !slices.Equal(got, []int{0, 7, 1, 8, 2, 9}) {
			t.Error(got)
		}
	}
	if got := told(seq, 1); !slices.Equal(got, []int{0, 7}) {
		t.Error("stopped:", got)
	}
}

func TestBegunIsWhatWasThereAtTheBeginning(t *testing.T) {
	m := map[int]int{1: 2}
	seq := still.Begun(maps.All(m))
	m[1] = 3
	for k, v := range seq {
		m[2], m[1] = 5, 4
		if k != 1 || v != 3 {
			t.Error(k, v)
		}
	}
	delete(m, 2)
	if got := told(seq, 9); !slices.Equal(got, []int{1, 4}) {
		t.Error("once more:", got)
	}
}
