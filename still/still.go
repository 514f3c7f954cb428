// Package still is sequences that stay what they are, whatever is done with what they tell of.
package still

import "iter"

// pair is one of what a sequence tells.
type pair[K, V any] struct {
	k K
	v V
}

// Now is what seq tells now, however often and whenever it is ranged over.
func Now[K, V any](seq iter.Seq2[K, V]) iter.Seq2[K, V] {
	var l []pair[K, V]
	for k, v := range seq {
		l = append(l, pair[K, V]{k, v})
	}
	return func(yield func(K, V) bool) {
		for _, p := range l {
			if !yield(p.k, p.v) {
				return
			}
		}
	}
}

// Begun is what seq tells when a ranging over it begins.
func Begun[K, V any](seq iter.Seq2[K, V]) iter.Seq2[K, V] {
	return func(yield func(K, V) bool) { Now(seq)(yield) }
}
