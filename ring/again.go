package ring

import "rota/api"

// The ends of the numbers that are put together.
const (
	least = -1 << 31
	most  = 1<<31 - 1
)

// Gcd is the greatest number that both are multiples of; 0, if both are 0, or one
// of them is beyond the ends.
func Gcd(a, b int) int {
	if !isNumber(a) || !isNumber(b) {
		return 0
	}
	for b != 0 {
		a, b = b, a%b
	}
	return max(a, -a)
}

// Lcm is the least number above 0 that is a multiple of both.
func Lcm(a, b int) (int, api.Errno) {
	if !isPeriod(a) || !isPeriod(b) {
		return 0, api.ErrArg
	}
	times := b / Gcd(a, b)
	if times > most/a {
		return 0, api.ErrArg
	}
	return a * times, api.OK
}

// Hyper is the least number above 0 that is a multiple of all; 1 of none.
func Hyper(l []int) (int, api.Errno) {
	all, err := 1, api.OK
	join := func(a int) bool {
		all, err = Lcm(all, a)
		return err == api.OK
	}
	for _, a := range l {
		// If some have none that is small enough, all have none.
		if !join(a) {
			break
		}
	}
	return all, err
}

// Falls is how many of the numbers from from on, ahead of to, are offset and a
// multiple of period together.
func Falls(period, offset, from, to int) (int, api.Errno) {
	if !isPeriod(period) || !isNumber(offset) || !isNumber(from) || !isNumber(to) {
		return 0, api.ErrArg
	}
	// next is which multiple it is that falls first from a number on.
	next := func(at int) int { return up(at-offset, period) }
	return max(next(to)-next(from), 0), api.OK
}

func isNumber(a int) bool { return a >= least && a <= most }

func isPeriod(a int) bool { return a >= 1 && a <= most }

// up is how many times b it is to a, or as little behind it as can be.
func up(a, b int) int {
	times := a / b
	if a%b > 0 {
		times++
	}
	return times
}
