package lazy

import (
	"midden/api"
	"midden/prim"
)

// What a primitive's argument must be, as prim.Need numbers it.
const (
	anything = iota
	aValue
	aNumber
	aVariable
	anArray
)

// unlike tells what is wrong with a value that must be something; OK, if it is that.
func unlike(t *thing, must int) api.Errno {
	switch {
	case must == aNumber && t.is != number:
		return api.ErrInt
	case must == aVariable && t.is != variable, must == anArray && t.is != array:
		return api.ErrRef
	}
	return api.OK
}

// teller tells a run how it goes on behind a primitive, all of whose arguments are as they must be.
type teller func(r *run, with []*thing)

// tellerOf makes the function that tells for a primitive. Those that are not named here are of two numbers.
func tellerOf(n int) teller {
	switch prim.Name(n) {
	case "#emit":
		return func(r *run, with []*thing) {
			r.m.out = append(r.m.out, with[0].n)
			r.tells(with[0])
		}
	case "#seq":
		return func(r *run, with []*thing) { r.knows(with[1]) }
	case "#ref":
		return func(r *run, with []*thing) { r.tells(&thing{is: variable, of: with[0]}) }
	case "#get":
		return func(r *run, with []*thing) { r.knows(with[0].of) }
	case "#set":
		return func(r *run, with []*thing) {
			with[0].of = with[1]
			r.tells(numbered(0))
		}
	case "#arr":
		return newArray
	case "#at":
		return ofItem(func(r *run, with []*thing) { r.knows(with[0].item(with[1].n)) })
	case "#put":
		return ofItem(func(r *run, with []*thing) {
			with[0].put(with[1].n, with[2])
			r.tells(numbered(0))
		})
	case "#len":
		return func(r *run, with []*thing) { r.tells(numbered(with[0].n)) }
	}
	return ofNumbers(n)
}

func ofNumbers(n int) teller {
	return func(r *run, with []*thing) {
		told, e := prim.Do(n, with[0].n, with[1].n)
		if e != api.OK {
			r.fails(e)
			return
		}
		r.tells(numbered(told))
	}
}

func newArray(r *run, with []*thing) {
	many := with[0].n
	if many < 0 || many > api.MaxItems {
		r.fails(api.ErrCount)
		return
	}
	r.tells(&thing{is: array, n: many, of: with[1]})
}

// ofItem makes a teller of one that is only asked where the array has such an item.
func ofItem(told teller) teller {
	return func(r *run, with []*thing) {
		if !with[0].holds(with[1].n) {
			r.fails(api.ErrIndex)
			return
		}
		told(r, with)
	}
}
