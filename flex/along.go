package flex

import (
	"windowpane/api"
	"windowpane/fixed"
)

// The places beside boxes that may get more: that ahead of the first one, those
// between two, and that behind the last one.
const (
	ahead = iota
	between
	behind
	places
)

// leftOf tells what is left of the room beside boxes and gaps. An int holds
// what MaxNodes lengths, and as many gaps, come to.
func leftOf(outer []int, gap, room int) int {
	left := room
	for i, size := range outer {
		if i > 0 {
			left -= gap
		}
		left -= size
	}
	return left
}

// more tells what the places beside so many boxes get of what is left: first
// that ahead of the first one, last that behind the last one.
func more(left, boxes int, justify uint8) []int {
	given, gets := giveOut(left, justify)
	weights := make([]int, boxes+1)
	for i := range weights {
		weights[i] = gets[between]
	}
	weights[boxes] = gets[behind]
	weights[0] = gets[ahead]
	// What is left is a length, and there are no more places than MaxFrags:
	// Share refuses none of these. Where no place gets any, as of one box with
	// Between, nothing is given out.
	shares, _ := fixed.Share(given, weights)
	return shares
}

// giveOut tells how much of what is left is given out, and the weight that each
// place gets it by.
func giveOut(left int, justify uint8) (given int, gets [places]int) {
	given = left
	switch justify {
	case api.AtMiddle:
		given /= 2
		fallthrough
	case api.AtEnd:
		gets[ahead] = 1
	case api.Evenly:
		gets[ahead], gets[behind] = 1, 1
		fallthrough
	case api.Between:
		gets[between] = 1
		// Boxes that are wider than the room stand as with AtStart.
		given = max(given, 0)
	}
	return given, gets
}

// along tells where boxes begin, one behind the other.
func along(outer []int, gap int, more []int) []int {
	begins := make([]int, len(outer))
	at := 0
	for i, size := range outer {
		at += more[i]
		begins[i] = at
		at += size + gap
	}
	return begins
}

// turnAbout brings each box as far from the line's end as it was from its
// beginning.
func turnAbout(begins, outer []int, room int) {
	for i := range begins {
		begins[i] = room - begins[i] - outer[i]
	}
}
