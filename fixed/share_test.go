package fixed_test

import (
	"math"
	"math/big"
	"math/rand"
	"slices"
	"testing"

	"windowpane/api"
	"windowpane/fixed"
)

const maxWeight = 1 << 50

// P1.4; all rows of the chapter's examples of it; what is refused.
func TestShare(t *testing.T) {
	for _, x := range []struct {
		total         int
		weights, want []int
		e             api.Errno
	}{
		{10, []int{1, 1, 1}, []int{4, 3, 3}, api.OK},
		{10, []int{0, 0}, []int{0, 0}, api.OK},
		{-10, []int{1, 2}, []int{-3, -7}, api.OK},
		{5, []int{2, 1}, []int{3, 2}, api.OK},
		{10, nil, nil, api.OK},
		{10, []int{}, nil, api.OK},
		{0, []int{3, 0, 5}, []int{0, 0, 0}, api.OK},
		{11, []int{1, 1, 1}, []int{4, 4, 3}, api.OK},
		{-11, []int{1, 1, 1}, []int{-4, -4, -3}, api.OK},
		{10, []int{1, 2, 4}, []int{1, 3, 6}, api.OK},
		{1, []int{0, 5, 5}, []int{0, 1, 0}, api.OK},
		{1, []int{1, 2, 2}, []int{0, 1, 0}, api.OK},
		{bound, []int{7}, []int{bound}, api.OK},
		{-bound, []int{7}, []int{-bound}, api.OK},
		{bound, []int{maxWeight, maxWeight}, []int{bound / 2, bound / 2}, api.OK},
		{bound, []int{1, maxWeight}, []int{0, bound}, api.OK},
		{bound + 1, []int{1}, nil, api.ErrArg},
		{-bound - 1, []int{1}, nil, api.ErrArg},
		{math.MinInt, []int{1}, nil, api.ErrArg},
		{math.MaxInt, nil, nil, api.ErrArg},
		{1, []int{-1}, nil, api.ErrArg},
		{1, []int{1, 1, -1}, nil, api.ErrArg},
		{1, []int{math.MinInt, 1}, nil, api.ErrArg},
		{1, []int{maxWeight + 1, 1}, nil, api.ErrArg},
		{0, []int{0, math.MaxInt}, nil, api.ErrArg},
	} {
		if got, e := fixed.Share(x.total, x.weights); !slices.Equal(got, x.want) || e != x.e {
			t.Errorf("%d to %v: %v %v", x.total, x.weights, got, e)
		}
	}
}

// P1.4: as many weights as there may be, all as great as they may be; one more.
func TestShareToMost(t *testing.T) {
	l := make([]int, api.MaxFrags)
	for i := range l {
		l[i] = maxWeight
	}
	got, e := fixed.Share(bound-1, l)
	if want := toldByHand(bound-1, l); e != api.OK || !slices.Equal(got, want) {
		t.Errorf("%v, %v", e, got)
	}
	if got, e := fixed.Share(1, append(l, 0)); got != nil || e != api.ErrArg {
		t.Errorf("one more: %v, %v", e, got)
	}
	if got, e := fixed.Share(0, make([]int, api.MaxFrags+1)); got != nil || e != api.ErrArg {
		t.Errorf("one more, of nothing: %v, %v", e, got)
	}
}

// toldByHand tells the shares by the chapter's words: by whole numbers of any
// size, each 1 that is left going to the one that lost most of those that got
// none of it yet.
func toldByHand(total int, weights []int) []int {
	shares := make([]int, len(weights))
	all := sum(weights)
	if all.Sign() == 0 {
		return shares
	}
	sign := 1
	if total < 0 {
		sign = -1
	}
	lost := make([]*big.Int, len(weights))
	left := sign * total
	for i, w := range weights {
		p := new(big.Int).Mul(big.NewInt(int64(sign*total)), big.NewInt(int64(w)))
		q, r := p.QuoRem(p, all, new(big.Int))
		shares[i], lost[i] = int(q.Int64()), r
		left -= shares[i]
	}
	for range left {
		most := -1
		for i := range lost {
			if lost[i].Sign() >= 0 && (most < 0 || lost[i].Cmp(lost[most]) > 0) {
				most = i
			}
		}
		shares[most]++
		lost[most].SetInt64(-1)
	}
	for i := range shares {
		shares[i] *= sign
	}
	return shares
}

// cases are totals and weights by a fixed seed, small ones and great ones,
// with many that are alike, and with zeros.
func cases(do func(total int, weights []int)) {
	r := rand.New(rand.NewSource(3))
	for range 3000 {
		total := (r.Intn(2*bound+1) - bound) >> r.Intn(41)
		weights := make([]int, r.Intn(12))
		most := r.Intn(maxWeight)>>r.Intn(50) + 1
		for i := range weights {
			switch r.Intn(4) {
			case 0: // stays 0
			case 1:
				weights[i] = weights[r.Intn(i+1)]
			default:
				weights[i] = r.Intn(most + 1)
			}
		}
		do(total, weights)
	}
}

// P1.4: against what the words say, told another way.
func TestShareByHand(t *testing.T) {
	cases(func(total int, weights []int) {
		got, e := fixed.Share(total, weights)
		if want := toldByHand(total, weights); e != api.OK || !slices.Equal(got, want) {
			t.Errorf("%d to %v: %v %v, not %v", total, weights, got, e, want)
		}
	})
}

// P1.4: a total below 0 is given out as its opposite is.
func TestShareOfOpposite(t *testing.T) {
	cases(func(total int, weights []int) {
		one, _ := fixed.Share(total, weights)
		other, _ := fixed.Share(-total, weights)
		for i := range one {
			if one[i] != -other[i] {
				t.Fatalf("%d to %v: %v, %v", total, weights, one, other)
			}
		}
	})
}

// P1.6.
func TestAllIsGivenOut(t *testing.T) {
	cases(func(total int, weights []int) {
		got, e := fixed.Share(total, weights)
		if e != api.OK || len(got) != len(weights) {
			t.Fatalf("%d to %v: %v %v", total, weights, got, e)
		}
		want := int64(total)
		if sum(weights).Sign() == 0 {
			want = 0
		}
		if sum(got).Int64() != want {
			t.Errorf("%d to %v: %v is not all", total, weights, got)
		}
		for i, a := range weights {
			if a == 0 && got[i] != 0 {
				t.Errorf("%d to %v: %v to a 0", total, weights, got)
			}
			for j, b := range weights {
				if total >= 0 && a > b && got[i] < got[j] {
					t.Errorf("%d to %v: %v, less to a greater one", total, weights, got)
				}
				if a == b && got[i]-got[j] > 1 {
					t.Errorf("%d to %v: %v to equal ones", total, weights, got)
				}
			}
		}
	})
}

// P0.4: the weights, and the room behind them, stay as they are; the answer
// is new memory; P0.3: a second call answers the same.
func TestShareChangesNothing(t *testing.T) {
	l := []int{3, 1, 2, 77, 78}
	first, _ := fixed.Share(7, l[:3])
	kept := slices.Clone(first)
	room := first[:cap(first)]
	for i := range room {
		room[i] = -9
	}
	if !slices.Equal(l, []int{3, 1, 2, 77, 78}) {
		t.Fatalf("%v", l)
	}
	fixed.Share(7, []int{-1})
	if again, e := fixed.Share(7, l[:3]); !slices.Equal(again, kept) || e != api.OK {
		t.Errorf("%v, then %v %v", kept, again, e)
	}
}
