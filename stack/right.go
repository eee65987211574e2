package stack

import (
	"slices"

	"midden/api"
)

// What a frame FPrim may name: the primitives' numbers, and how many arguments one of them has at most. Both stand here as the chapter's table has them, for package prim is none that this one calls.
const (
	lastPrim     = 16
	mostPrimArgs = 3
)

// span is which numbers there may be.
type span struct {
	least, most int
}

func (s span) has(n int) bool {
	return n >= s.least && n <= s.most
}

// row is what a kind's frame has.
type row struct {
	a, b, ptrs span
}

// The chapter's table, by kind.
var rows = [api.FSel + 1]row{
	api.FCase: {a: span{0, api.MaxInfo - 1}, ptrs: span{0, api.MaxLocals}},
	api.FUpd:  {ptrs: span{1, 1}},
	api.FArgs: {ptrs: span{1, api.MaxArgs}},
	api.FPrim: {a: span{1, lastPrim}, b: span{0, mostPrimArgs - 1}, ptrs: span{1, mostPrimArgs}},
	api.FSel:  {a: span{0, api.MaxInfo - 1}, b: span{0, api.MaxArgs - 1}},
}

// kindRight tells whether there are frames of that kind.
func kindRight(kind int) bool {
	return kind >= api.FCase && kind <= api.FSel
}

// pointerWrong tells whether no pointer can be that number.
func pointerWrong(p int) bool {
	return p < 0 || p > api.MaxWords
}

// Right tells what is wrong with a frame.
func Right(f api.Frame) api.Errno {
	if !kindRight(f.Kind) {
		return api.ErrKind
	}
	r := rows[f.Kind]
	if !r.ptrs.has(len(f.Ptrs)) {
		return api.ErrSize
	}
	if !r.a.has(f.A) || !r.b.has(f.B) {
		return api.ErrArg
	}
	if slices.ContainsFunc(f.Ptrs, pointerWrong) {
		return api.ErrRange
	}
	return api.OK
}
