package fixed

import (
	"cmp"
	"math/bits"
	"slices"

	"windowpane/api"
)

const maxWeight = 1 << 50

// Share gives a total out to weights, to each its share, in order (P1.4).
func Share(total int, weights []int) ([]int, api.Errno) {
	if !Fits(total) || !areWeights(weights) {
		return nil, api.ErrArg
	}
	shares := giveOut(size(total), weights)
	if total < 0 {
		for i := range shares {
			shares[i] = -shares[i]
		}
	}
	return shares, api.OK
}

func areWeights(l []int) bool {
	if len(l) > api.MaxFrags {
		return false
	}
	for _, w := range l {
		if w < 0 || w > maxWeight {
			return false
		}
	}
	return true
}

// giveOut takes a total from 0 on.
func giveOut(total int, weights []int) []int {
	shares := make([]int, len(weights))
	sum := 0 // at most MaxFrags times maxWeight, 2^61
	for _, w := range weights {
		sum += w
	}
	if sum == 0 {
		return shares
	}
	lost := make([]uint64, len(weights))
	left := total
	for i, w := range weights {
		shares[i], lost[i] = roundedDown(total, w, sum)
		left -= shares[i]
	}
	// What is left is the sum of what was lost: fewer than lost anything.
	for _, i := range mostFirst(lost)[:left] {
		shares[i]++
	}
	return shares
}

// roundedDown tells total times weight, divided by sum, and what the rounding
// lost of it, as a multiple of 1/sum. The product may pass 64 bits.
func roundedDown(total, weight, sum int) (share int, lost uint64) {
	upper, lower := bits.Mul64(uint64(total), uint64(weight))
	quotient, rest := bits.Div64(upper, lower, uint64(sum))
	return int(quotient), rest
}

// mostFirst tells the places of a list, the greatest first; the sort is a
// stable one, as of equal ones the one ahead is to stay ahead.
func mostFirst(l []uint64) []int {
	places := make([]int, len(l))
	for i := range places {
		places[i] = i
	}
	slices.SortStableFunc(places, func(a, b int) int {
		return cmp.Compare(l[b], l[a])
	})
	return places
}
