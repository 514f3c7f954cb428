package code

import (
	"althing/api"
	"althing/compact"
	"iter"
)

// reader takes one thing behind the other off bytes, and zero values where there are none: whoever reads holds what came of it against the bytes.
type reader struct{ rest []byte }

// number takes a number.
func (r *reader) number() int {
	n, size, _ := compact.Take(r.rest)
	r.rest = r.rest[size:]
	return n
}

// row takes a row.
func (r *reader) row() []byte {
	p, size, _ := compact.Cut(r.rest)
	r.rest = r.rest[size:]
	return p
}

// fill takes a number for each field.
func (r *reader) fill(fields iter.Seq[*int]) {
	for p := range fields {
		*p = r.number()
	}
}

// readCall is the call that b begins with, with at most so many batches within one another.
func readCall(b []byte, deep int) api.Call {
	var c api.Call
	r := reader{b}
	r.fill(callFields(&c))
	kids := r.number()
	if deep == 0 {
		return c
	}
	for range min(kids, api.MaxKids) {
		c.Kids = append(c.Kids, readCall(r.row(), deep-1))
	}
	return c
}

// readExt is the extrinsic that b begins with.
func readExt(b []byte) api.Ext {
	var e api.Ext
	r := reader{b}
	r.fill(headFields(&e))
	r.rest = r.rest[copy(e.Sum[:], r.rest):]
	r.fill(voteFields(&e.Vote))
	e.Vote.Aye = r.number() == 1
	e.Call = readCall(r.row(), api.MaxDeep)
	return e
}
