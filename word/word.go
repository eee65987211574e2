// Package word is layer 1: see shared/doc/01-word.md.
package word

import "midden/api"

// The fields of a header's word, from bit 0 on.
const (
	markField = iota
	kindField
	ptrsField
	nonsField
	infoField
	restField
	fieldCount
)

// span is where a field stands in a word.
type span struct {
	low, size uint
}

// The spans follow each other without a gap, so that the fields together are all 64 bits.
var spans = [fieldCount]span{
	markField: {low: 0, size: 1},
	kindField: {low: 1, size: 4},
	ptrsField: {low: 5, size: 12},
	nonsField: {low: 17, size: 12},
	infoField: {low: 29, size: 20},
	restField: {low: 49, size: 15},
}

// put lays n into a field; n must fit, for its upper bits would run into the next field.
func put(field, n int) uint64 {
	return uint64(n) << spans[field].low
}

// get reads a field.
func get(w uint64, field int) int {
	mask := uint64(1)<<spans[field].size - 1
	return int(w >> spans[field].low & mask)
}

// kindRight tells whether there are closures of that kind.
func kindRight(kind int) bool {
	return kind >= api.KCon && kind <= api.KFail
}

// partsRight tells whether a closure may have so many parts. It takes one from the limit instead of adding both: a sum could leave the range of int.
func partsRight(ptrs, nons int) bool {
	return ptrs >= 0 && nons >= 0 && nons <= api.MaxPart-ptrs
}

// Pack lays a header.
func Pack(h api.Head) (uint64, api.Errno) {
	if !kindRight(h.Kind) {
		return 0, api.ErrKind
	}
	if !partsRight(h.Ptrs, h.Nons) {
		return 0, api.ErrSize
	}
	if h.Info < 0 || h.Info >= api.MaxInfo {
		return 0, api.ErrArg
	}
	w := put(markField, 1) | put(kindField, h.Kind) | put(ptrsField, h.Ptrs)
	return w | put(nonsField, h.Nons) | put(infoField, h.Info), api.OK
}

// Unpack reads a header.
func Unpack(w uint64) (api.Head, api.Errno) {
	h := api.Head{
		Kind: get(w, kindField),
		Info: get(w, infoField),
		Ptrs: get(w, ptrsField),
		Nons: get(w, nonsField),
	}
	if get(w, markField) == 0 || get(w, restField) != 0 || !kindRight(h.Kind) {
		return api.Head{}, api.ErrKind
	}
	if !partsRight(h.Ptrs, h.Nons) {
		return api.Head{}, api.ErrSize
	}
	return h, api.OK
}

// Forward lays an address. Twice the address leaves the mark of headers 0, so that nobody takes it for one.
func Forward(at int) (uint64, api.Errno) {
	if at < 1 || at > api.MaxWords {
		return 0, api.ErrRange
	}
	return uint64(at) * 2, api.OK
}

// Moved reads an address.
func Moved(w uint64) (int, bool) {
	at := w / 2
	if w%2 != 0 || at < 1 || at > api.MaxWords {
		return 0, false
	}
	return int(at), true
}

// Bits tells a number's bits.
func Bits(n int64) uint64 { return uint64(n) }

// Number tells the number that has these bits.
func Number(w uint64) int64 { return int64(w) }
