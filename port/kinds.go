package port

import (
	"slices"

	"rota/api"
)

const maxFresh = 65535

// bounds are the least and the greatest that a number may be.
type bounds struct{ least, most int }

// deeds are what ports of one kind and direction may be, and what is done with
// a message that is put into their box, and when one is got out of it.
type deeds struct {
	depth bounds
	fresh bounds
	put   func(b *Box, m message) api.Errno
	get   func(b *Box, slot int) ([]byte, api.Errno)
}

// kinds tells them by kind, and by direction.
func kinds() map[int]map[int]deeds {
	depth := bounds{1, api.MaxDepth}
	return map[int]map[int]deeds{
		api.Sampling: {
			api.Source: {put: replace, get: first},
			api.Dest:   {put: replace, get: firstIfFresh, fresh: bounds{1, maxFresh}},
		},
		api.Queuing: {
			api.Source: {put: queue, get: leave, depth: depth},
			api.Dest:   {put: queueOrLose, get: leaveOrTell, depth: depth},
		},
	}
}

func replace(b *Box, m message) api.Errno {
	b.held = []message{m.copied()}
	return api.OK
}

func queue(b *Box, m message) api.Errno {
	if len(b.held) >= b.port.Depth {
		return api.ErrFull
	}
	b.held = append(b.held, m.copied())
	return api.OK
}

func queueOrLose(b *Box, m message) api.Errno {
	err := queue(b, m)
	if err == api.ErrFull {
		b.lost = true
	}
	return err
}

// first is the first message, which stays; of a sampling port it is the last
// one, too.
func first(b *Box, _ int) ([]byte, api.Errno) {
	for m := range b.messages() {
		return m.data, api.OK
	}
	return nil, api.ErrEmpty
}

func firstIfFresh(b *Box, slot int) ([]byte, api.Errno) {
	for m := range b.messages() {
		// Neither slot is below 0: the difference does not go round.
		if slot-m.slot >= b.port.Fresh {
			return nil, api.ErrStale
		}
		return m.data, api.OK
	}
	return nil, api.ErrEmpty
}

func leave(b *Box, slot int) ([]byte, api.Errno) {
	data, err := first(b, slot)
	if err == api.OK {
		b.held = slices.Delete(b.held, 0, 1)
	}
	return data, err
}

// leaveOrTell tells first that a message was lost, ahead of those that wait.
func leaveOrTell(b *Box, slot int) ([]byte, api.Errno) {
	if b.lost {
		b.lost = false
		return nil, api.ErrLost
	}
	return leave(b, slot)
}

func within(n int, b bounds) bool { return b.least <= n && n <= b.most }
