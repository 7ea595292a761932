package maker

import (
	"math"
	"slices"

	"spile/api"
)

// named is the things of a sort, by their names.
type named[T any] map[name]*T

// create returns what makes a new thing with a name, once the name is read.
func (l *named[T]) create(n *name, thing func() (T, answer, api.Errno)) func() (answer, api.Errno) {
	return func() (answer, api.Errno) {
		if (*l)[*n] != nil {
			return nil, api.ErrTwice
		}
		if len(*l) >= api.MaxMakerThing {
			return nil, api.ErrFull
		}
		made, a, e := thing()
		if e != api.OK {
			return nil, e
		}
		if *l == nil {
			*l = named[T]{}
		}
		(*l)[*n] = &made
		return a, api.OK
	}
}

// with returns what does something with the thing that has a name, once the name is read.
func (l *named[T]) with(n *name, do func(*T) (answer, api.Errno)) func() (answer, api.Errno) {
	return func() (answer, api.Errno) {
		if (*l)[*n] == nil {
			return nil, api.ErrNone
		}
		return do((*l)[*n])
	}
}

// setting is what is set once.
type setting[T any] struct {
	value *T
}

// set returns what sets it.
func (s *setting[T]) set(value func() (*T, api.Errno)) func() (answer, api.Errno) {
	return func() (answer, api.Errno) {
		if s.value != nil {
			return nil, api.ErrState
		}
		v, e := value()
		if e != api.OK {
			return nil, e
		}
		s.value = v
		return fine{}, api.OK
	}
}

// get returns what is set.
func (s *setting[T]) get() (*T, api.Errno) {
	if s.value == nil {
		return nil, api.ErrState
	}
	return s.value, api.OK
}

// with returns what does something with what is set.
func (s *setting[T]) with(do func(*T) (answer, api.Errno)) func() (answer, api.Errno) {
	return func() (answer, api.Errno) {
		v, e := s.get()
		if e != api.OK {
			return nil, e
		}
		return do(v)
	}
}

// endless is for lists to which it is the check that sets a limit.
const endless = math.MaxInt

// add adds things to a list, unless there would be too many, or the check of all finds an error; it tells how many there are then.
func add[T any](l *[]T, most int, check func(all []T) api.Errno, things ...T) (answer, api.Errno) {
	all := slices.Concat(*l, things)
	if len(all) > most {
		return nil, api.ErrFull
	}
	if e := check(all); e != api.OK {
		return nil, e
	}
	*l = all
	return number(len(all)), api.OK
}

// unchecked is the check of what is told to be wrong only where it is used.
func unchecked[T any]([]T) api.Errno { return api.OK }
