package fixed_test

import (
	"math"
	"math/big"
	"math/rand"
	"testing"

	"windowpane/api"
	"windowpane/fixed"
)

const bound = api.MaxCoord

// edgy are numbers in and beside the bound, and where an int ends.
var edgy = []int{
	math.MinInt, math.MinInt + 1, -1 << 62, -1 << 50, -bound - 1, -bound, -bound + 1,
	-1 << 21, -1 << 20, -1<<20 + 1, -10001, -10000, -9999, -7, -1, 0, 1, 2, 7, 9999, 10000, 10001,
	1<<20 - 1, 1 << 20, 1 << 21, bound - 1, bound, bound + 1, 1 << 50, 1 << 62, math.MaxInt - 1, math.MaxInt,
}

// lengths are edgy ones, and others by a fixed seed, of all magnitudes.
func lengths() []int {
	r := rand.New(rand.NewSource(1))
	var l []int
	for _, n := range edgy {
		if isLength(big.NewInt(int64(n))) {
			l = append(l, n)
		}
	}
	for range 60 {
		l = append(l, (r.Intn(2*bound+1)-bound)>>r.Intn(41))
	}
	return l
}

func isLength(n *big.Int) bool {
	return n.CmpAbs(big.NewInt(bound)) <= 0
}

// asked is what a call is to answer that takes these numbers and comes to
// that one, if all must be lengths.
func asked(to *big.Int, from ...int) (int, api.Errno) {
	for _, n := range from {
		if !isLength(big.NewInt(int64(n))) {
			return 0, api.ErrOver
		}
	}
	if !isLength(to) {
		return 0, api.ErrOver
	}
	return int(to.Int64()), api.OK
}

func sum(l []int) *big.Int {
	s := new(big.Int)
	for _, n := range l {
		s.Add(s, big.NewInt(int64(n)))
	}
	return s
}

// P1.1, Fits.
func TestFits(t *testing.T) {
	if !fixed.Fits() {
		t.Error("none")
	}
	for _, n := range edgy {
		want := isLength(big.NewInt(int64(n)))
		for _, l := range [][]int{{n}, {n, 0}, {0, n}, {1, n, -1}, {n, n, n}} {
			if got := fixed.Fits(l...); got != want {
				t.Errorf("%v: %v", l, got)
			}
		}
	}
}

// P1.1, Add; all rows of the chapter's examples of it.
func TestAdd(t *testing.T) {
	for _, x := range []struct {
		l    []int
		want int
		e    api.Errno
	}{
		{nil, 0, api.OK},
		{[]int{}, 0, api.OK},
		{[]int{1, 2, 3}, 6, api.OK},
		{[]int{bound, 1}, 0, api.ErrOver},
		{[]int{bound}, bound, api.OK},
		{[]int{-bound}, -bound, api.OK},
		{[]int{-bound, -1}, 0, api.ErrOver},
		{[]int{bound, bound, -bound}, bound, api.OK},
		{[]int{-bound, -1, 1}, -bound, api.OK},
		{[]int{bound + 1, -1}, 0, api.ErrOver},
		{[]int{-1, bound + 1}, 0, api.ErrOver},
		{[]int{math.MaxInt, math.MinInt, 1}, 0, api.ErrOver},
		{[]int{math.MinInt, math.MinInt}, 0, api.ErrOver},
		{[]int{1<<20 - 1, 1, -1, -1 << 20}, -1, api.OK},
	} {
		if got, e := fixed.Add(x.l...); got != x.want || e != x.e {
			t.Errorf("%v: %d %v", x.l, got, e)
		}
	}
	for _, a := range edgy {
		for _, b := range edgy {
			l := []int{a, b}
			want, wantE := asked(sum(l), l...)
			if got, e := fixed.Add(l...); got != want || e != wantE {
				t.Errorf("%v: %d %v", l, got, e)
			}
		}
	}
}

// P1.1, Add: what passes an int and comes back to 0 by wrapping round is still
// no length; nor is a sum refused because one on the way was great.
func TestAddVeryMany(t *testing.T) {
	l := make([]int, 1<<24)
	for _, n := range []int{bound, -bound} {
		for i := range l {
			l[i] = n
		}
		if got, e := fixed.Add(l...); got != 0 || e != api.ErrOver {
			t.Errorf("%d of %d: %d %v", len(l), n, got, e)
		}
	}
	for i := range l[:len(l)/2] {
		l[i] = bound
	}
	l[len(l)-1] = 5
	if got, e := fixed.Add(l[1:]...); got != 5 || e != api.OK {
		t.Errorf("both ways: %d %v", got, e)
	}
}

// P1.1, Sub.
func TestSub(t *testing.T) {
	for _, a := range edgy {
		for _, b := range edgy {
			to := new(big.Int).Sub(big.NewInt(int64(a)), big.NewInt(int64(b)))
			want, wantE := asked(to, a, b)
			if got, e := fixed.Sub(a, b); got != want || e != wantE {
				t.Errorf("%d less %d: %d %v", a, b, got, e)
			}
		}
	}
	if got, e := fixed.Sub(3, 5); got != -2 || e != api.OK {
		t.Errorf("3 less 5: %d %v", got, e)
	}
}

// P1.1, Mul; all rows of the chapter's examples of it.
func TestMul(t *testing.T) {
	for _, x := range []struct {
		a, b, want int
		e          api.Errno
	}{
		{1 << 20, 1 << 20, bound, api.OK},
		{1 << 21, 1 << 20, 0, api.ErrOver},
		{1 << 20, -1 << 20, -bound, api.OK},
		{1<<20 + 1, 1 << 20, 0, api.ErrOver},
		{3, (bound - 1) / 3, bound - 1, api.OK},
		{3, bound/3 + 1, 0, api.ErrOver},
		{1 << 32, 1 << 32, 0, api.ErrOver},
		{0, bound + 1, 0, api.ErrOver},
		{bound + 1, 0, 0, api.ErrOver},
		{math.MinInt, 0, 0, api.ErrOver},
		{math.MinInt, -1, 0, api.ErrOver},
	} {
		if got, e := fixed.Mul(x.a, x.b); got != x.want || e != x.e {
			t.Errorf("%d by %d: %d %v", x.a, x.b, got, e)
		}
	}
	for _, a := range append(lengths(), edgy...) {
		for _, b := range append(lengths(), edgy...) {
			to := new(big.Int).Mul(big.NewInt(int64(a)), big.NewInt(int64(b)))
			want, wantE := asked(to, a, b)
			if got, e := fixed.Mul(a, b); got != want || e != wantE {
				t.Errorf("%d by %d: %d %v", a, b, got, e)
			}
		}
	}
}

// P1.2; all rows of the chapter's examples of it; P0.2: ErrArg ahead of ErrOver.
func TestPart(t *testing.T) {
	for _, x := range []struct {
		n, of, want int
		e           api.Errno
	}{
		{5000, 7, 3, api.OK},
		{5000, -7, -3, api.OK},
		{100001, 1, 0, api.ErrArg},
		{100000, 1, 10, api.OK},
		{-1, 1, 0, api.ErrArg},
		{math.MinInt, 0, 0, api.ErrArg},
		{math.MaxInt, 0, 0, api.ErrArg},
		{0, bound, 0, api.OK},
		{1, 9999, 0, api.OK},
		{1, -9999, 0, api.OK},
		{1, 10000, 1, api.OK},
		{10000, -bound, -bound, api.OK},
		{10001, bound, 0, api.ErrOver},
		{100000, bound / 10, bound / 10 * 10, api.OK},
		{100000, bound/10 + 1, 0, api.ErrOver},
		{0, bound + 1, 0, api.ErrOver},
		{0, math.MinInt, 0, api.ErrOver},
		{-1, bound + 1, 0, api.ErrArg},
		{100001, math.MinInt, 0, api.ErrArg},
	} {
		if got, e := fixed.Part(x.n, x.of); got != x.want || e != x.e {
			t.Errorf("%d of %d: %d %v", x.n, x.of, got, e)
		}
	}
	for _, n := range []int{0, 1, 3333, 5000, 9999, 10000, 10001, 99999, 100000} {
		for _, of := range append(lengths(), edgy...) {
			to := new(big.Int).Mul(big.NewInt(int64(n)), big.NewInt(int64(of)))
			want, wantE := asked(to.Quo(to, big.NewInt(10000)), of)
			if got, e := fixed.Part(n, of); got != want || e != wantE {
				t.Errorf("%d of %d: %d %v", n, of, got, e)
			}
		}
	}
}

// P1.2: what comes to more than the bound only in its remainder is a length.
func TestPartRoundsAheadOfTheBound(t *testing.T) {
	of := bound/10001*10000 + 10000
	for of*10001/10000 > bound {
		of--
	}
	if of*10001%10000 == 0 || of*10001 <= bound*10000 {
		t.Fatalf("%d does not reach the bound's last 64th", of)
	}
	for _, sign := range []int{1, -1} {
		if got, e := fixed.Part(10001, sign*of); got != sign*bound || e != api.OK {
			t.Errorf("10001 of %d: %d %v", sign*of, got, e)
		}
		if got, e := fixed.Part(10001, sign*(of+1)); got != 0 || e != api.ErrOver {
			t.Errorf("10001 of %d: %d %v", sign*(of+1), got, e)
		}
	}
}

// P1.3; all rows of the chapter's examples of it. The numbers need be no lengths.
func TestClamp(t *testing.T) {
	for _, x := range []struct{ n, least, most, want int }{
		{5, 1, 3, 3},
		{5, 7, 3, 7},
		{2, 1, 3, 2},
		{0, 1, 3, 1},
		{1, 1, 3, 1},
		{3, 1, 3, 3},
		{9, 7, 3, 7},
		{1, 7, 3, 7},
		{-5, -3, -1, -3},
		{4, 4, 4, 4},
		{math.MinInt, 0, math.MaxInt, 0},
		{math.MaxInt, math.MinInt, math.MaxInt, math.MaxInt},
		{math.MaxInt, math.MinInt, math.MinInt, math.MinInt},
		{0, math.MaxInt, math.MinInt, math.MaxInt},
	} {
		if got := fixed.Clamp(x.n, x.least, x.most); got != x.want {
			t.Errorf("%d to %d, %d: %d", x.n, x.least, x.most, got)
		}
	}
}

// P1.5: what is added can be taken away again.
func TestAddedIsTakenAway(t *testing.T) {
	for _, a := range lengths() {
		for _, b := range lengths() {
			both, e := fixed.Add(a, b)
			if e != api.OK {
				continue
			}
			if got, e := fixed.Sub(both, b); got != a || e != api.OK {
				t.Errorf("%d and %d, less that: %d %v", a, b, got, e)
			}
		}
	}
}

// P1.5: in whatever order, the sum is the same, or refused.
func TestOrderOfSums(t *testing.T) {
	r := rand.New(rand.NewSource(2))
	all := append(lengths(), bound, bound, -bound, -bound, bound+1)
	for range 500 {
		l := make([]int, r.Intn(9))
		for i := range l {
			l[i] = all[r.Intn(len(all))]
		}
		want, wantE := asked(sum(l), l...)
		for range 10 {
			r.Shuffle(len(l), func(i, j int) { l[i], l[j] = l[j], l[i] })
			if got, e := fixed.Add(l...); got != want || e != wantE {
				t.Fatalf("%v: %d %v", l, got, e)
			}
		}
	}
}

// P1.7.
func TestPartsOfAll(t *testing.T) {
	parts := []int{0, 1, 2, 3333, 9999, 10000}
	for _, n := range lengths() {
		if got, e := fixed.Part(10000, n); got != n || e != api.OK {
			t.Errorf("the whole of %d: %d %v", n, got, e)
		}
		for _, p := range parts {
			one, e := fixed.Part(p, n)
			other, otherE := fixed.Part(p, -n)
			if one != -other || e != api.OK || otherE != api.OK {
				t.Errorf("%d of %d, of its opposite: %d %v, %d %v", p, n, one, e, other, otherE)
			}
			for _, more := range []int{n + 1, n + 9999, 2*n + 1} {
				if n < 0 || more > bound {
					continue
				}
				if got, e := fixed.Part(p, more); got < one || e != api.OK {
					t.Errorf("%d of %d: %d %v, of %d: %d", p, more, got, e, n, one)
				}
			}
		}
	}
}

// P0.4: a list that is handed in, and the room behind it, stay as they are.
func TestAddChangesNothing(t *testing.T) {
	l := []int{bound, 2, -3, 77, 78}
	fixed.Fits(l[:3]...)
	fixed.Add(l[:3]...)
	for i, want := range []int{bound, 2, -3, 77, 78} {
		if l[i] != want {
			t.Fatalf("%v", l)
		}
	}
}
