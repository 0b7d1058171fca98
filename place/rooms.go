package place

import "rota/api"

// rooms are what is left of free spans while sizes are put there.
type rooms struct {
	align int
	// left is of each free span what can still be used: it begins at a place that is
	// aligned. Ahead of that place there is none that is.
	left []api.Span
	// next is, of a size that was put, the room in which it was: rooms only get
	// smaller, so that it never fits in one ahead of that again.
	next map[int]int
}

func newRooms(taken []api.Span, align, limit int) *rooms {
	r := &rooms{align: align, next: map[int]int{}}
	for s := range free(taken, limit) {
		s.From = up(s.From, align)
		r.left = append(r.left, s)
	}
	return r
}

// put takes the first place at which a size fits; false, if there is none.
func (r *rooms) put(size int) (int, bool) {
	// What takes nothing meets nothing: it needs no room.
	if size == 0 {
		return 0, true
	}
	for i := r.next[size]; i < len(r.left); i++ {
		s := &r.left[i]
		at := s.From
		if at+size <= s.To {
			s.From = up(at+size, r.align)
			r.next[size] = i
			return at, true
		}
	}
	return -1, false
}
