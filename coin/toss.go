package coin

import (
	"privhouse/api"
	"privhouse/nat"
)

// side says where a probability is, compared with a cell.
type side int

// A probability at an end of a cell is beside it: no number of the cell is on the other side of it.
const (
	below side = iota
	inside
	above
)

// unitInterval returns two functions that share a cell, at first the unit interval: compare says where the probability top/bottom is, halve narrows the cell to the half that a bit names.
func unitInterval(top, bottom api.Num) (compare func() side, halve func(bit byte)) {
	// place says how far the probability is above the lower end of the cell, if one takes the length of the cell to be the denominator. It has at most one digit more than a parameter, so nat has no errors.
	place := top
	compare = func() side {
		switch {
		case place == "0":
			return below
		case nat.Cmp(place, bottom) >= 0:
			return above
		}
		return inside
	}
	halve = func(bit byte) {
		place, _ = nat.Add(place, place)
		if bit == '0' {
			return
		}
		if nat.Cmp(place, bottom) < 0 {
			// How far the probability is below the cell does not matter: it is beside it.
			place = bottom
		}
		place, _ = nat.Sub(place, bottom)
	}
	return compare, halve
}

// toss is a coin that is being tossed: a machine whose states are its methods.
type toss struct {
	compare func() side
	halve   func(bit byte)
	unread  api.Bits
	result  api.Draw
}

// state is what a toss does next, and returns what it does then; it is nil when the toss has ended.
type state func() state

// tossed returns the result of tossing a coin with the probability top/bottom.
func tossed(top, bottom api.Num, b api.Bits) api.Draw {
	t := toss{unread: b}
	t.compare, t.halve = unitInterval(top, bottom)
	for next := state(t.look); next != nil; {
		next = next()
	}
	return t.result
}

// look is the state in which the toss asks whether the bits that it has read decide.
func (t *toss) look() state {
	switch t.compare() {
	case below:
		return t.endWithZero
	case above:
		return t.endWithOne
	}
	return t.read
}

// read is the state in which the toss needs one more bit.
func (t *toss) read() state {
	if t.unread == "" {
		return nil
	}
	t.halve(t.unread[0])
	t.unread = t.unread[1:]
	t.result.Used++
	return t.look
}

// endWithZero is the last state of a toss whose cell has no number below the probability.
func (t *toss) endWithZero() state {
	t.result.Done = true
	return nil
}

// endWithOne is the last state of a toss whose cell has only numbers below the probability.
func (t *toss) endWithOne() state {
	t.result.Done, t.result.Value = true, 1
	return nil
}
