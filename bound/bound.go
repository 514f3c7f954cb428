// Package bound is the bounds that more than one layer holds numbers to.
package bound

import "althing/api"

// Within tells whether n is from least to most.
func Within(n, least, most int) bool { return least <= n && n <= most }

// Below tells whether n is from 0 to end less 1.
func Below(n, end int) bool { return 0 <= n && n < end }

// Account tells whether n is one.
func Account(n int) bool { return Below(n, api.MaxAcc) }

// Balance tells whether n may be one.
func Balance(n int) bool { return Within(n, 0, api.MaxBal) }

// Next is the block behind now, if there is one.
func Next(now int) (block int, ok bool) {
	if now >= api.MaxBlock {
		return 0, false
	}
	return now + 1, true
}
