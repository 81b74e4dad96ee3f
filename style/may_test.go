package style_test

import (
	"fmt"
	"math"
	"math/rand"
	"reflect"
	"slices"
	"strings"
	"testing"

	"windowpane/api"
	"windowpane/style"
)

const (
	maxCoord  = 1 << 40
	maxLength = 1 << 38
)

// far are numbers a long way from all that a style may have, and such as are
// little ones in their lower 8, 16 or 32 bits.
var far = []int{
	math.MinInt, math.MinInt + 1, -1 << 62, -maxCoord - 1, -maxCoord, -maxLength - 1, -1 << 32, -1<<32 + 1,
	1 << 32, 1<<32 + 1, 1<<32 + 256, maxCoord, maxCoord + 1, maxCoord + maxLength, 1 << 62, math.MaxInt - 1, math.MaxInt,
}

// kindField is a field that is one of some kinds.
type kindField struct {
	name  string
	field func(s *api.Style) *uint8
	kinds []uint8
}

var kindFields = []kindField{
	{"Display", func(s *api.Style) *uint8 { return &s.Display }, []uint8{api.DBlock, api.DInline, api.DFlex}},
	{"Ws", func(s *api.Style) *uint8 { return &s.Ws }, []uint8{api.WsNormal, api.WsStay, api.WsKeep}},
	{"Valign", func(s *api.Style) *uint8 { return &s.Valign }, []uint8{api.VBase, api.VTop, api.VBottom}},
	{"Dir", func(s *api.Style) *uint8 { return &s.Dir }, []uint8{api.Row, api.RowBack, api.Column, api.ColumnBack}},
	{"Lines", func(s *api.Style) *uint8 { return &s.Lines }, []uint8{api.AtStart, api.AtEnd, api.AtMiddle}},
	{"Align", func(s *api.Style) *uint8 { return &s.Align }, []uint8{api.AtStart, api.AtEnd, api.AtMiddle, api.Stretch}},
	{"Justify", func(s *api.Style) *uint8 { return &s.Justify }, []uint8{api.AtStart, api.AtEnd, api.AtMiddle, api.Between, api.Evenly}},
}

// numberField is a field that is a number from least to most.
type numberField struct {
	name        string
	field       func(s *api.Style) *int
	least, most int
}

var numberFields = allNumbers()

func allNumbers() []numberField {
	l := []numberField{
		{"Gap", func(s *api.Style) *int { return &s.Gap }, 0, maxLength},
		{"LineGap", func(s *api.Style) *int { return &s.LineGap }, 0, maxLength},
		{"OffX", func(s *api.Style) *int { return &s.OffX }, -maxLength, maxLength},
		{"OffY", func(s *api.Style) *int { return &s.OffY }, -maxLength, maxLength},
		{"Font", func(s *api.Style) *int { return &s.Font }, 0, 1000},
		{"Grow", func(s *api.Style) *int { return &s.Grow }, 0, 1000},
		{"Shrink", func(s *api.Style) *int { return &s.Shrink }, 0, 1000},
		{"Order", func(s *api.Style) *int { return &s.Order }, -1000, 1000},
	}
	for side := range 4 {
		l = append(l,
			numberField{fmt.Sprint("Padding.", side), func(s *api.Style) *int { return &s.Padding[side] }, 0, maxLength},
			numberField{fmt.Sprint("Border.", side), func(s *api.Style) *int { return &s.Border[side] }, 0, maxLength})
	}
	return l
}

// lengthField is a field that is a length: LFixed from least to MaxLength, and,
// if part says so, LPart.
type lengthField struct {
	name  string
	field func(s *api.Style) *api.Length
	least int
	part  bool
}

var lengthFields = allLengths()

func allLengths() []lengthField {
	l := []lengthField{
		{"Width", func(s *api.Style) *api.Length { return &s.Width }, 0, true},
		{"MinW", func(s *api.Style) *api.Length { return &s.MinW }, 0, true},
		{"MaxW", func(s *api.Style) *api.Length { return &s.MaxW }, 0, true},
		{"Basis", func(s *api.Style) *api.Length { return &s.Basis }, 0, true},
		{"Height", func(s *api.Style) *api.Length { return &s.Height }, 0, false},
		{"MinH", func(s *api.Style) *api.Length { return &s.MinH }, 0, false},
		{"MaxH", func(s *api.Style) *api.Length { return &s.MaxH }, 0, false},
	}
	for side := range 4 {
		l = append(l, lengthField{fmt.Sprint("Margin.", side), func(s *api.Style) *api.Length { return &s.Margin[side] }, -maxLength, true})
	}
	return l
}

// mayBe asks the chapter's words of one length.
func (f lengthField) mayBe(l api.Length) bool {
	auto := l.Kind == 0 && l.N == 0
	exact := l.Kind == 1 && l.N >= f.least && l.N <= maxLength
	return auto || exact || f.part && l.Kind == 2 && l.N >= 0 && l.N <= 100000
}

// mayByHand asks the chapter's words of all fields.
func mayByHand(s api.Style) bool {
	for _, f := range kindFields {
		if !slices.Contains(f.kinds, *f.field(&s)) {
			return false
		}
	}
	for _, f := range numberFields {
		if n := *f.field(&s); n < f.least || n > f.most {
			return false
		}
	}
	for _, f := range lengthFields {
		if !f.mayBe(*f.field(&s)) {
			return false
		}
	}
	return true
}

// least and greatest are styles with each field at its least, at its greatest.
func least() api.Style {
	var s api.Style
	for _, f := range numberFields {
		*f.field(&s) = f.least
	}
	for _, f := range lengthFields {
		*f.field(&s) = api.Length{Kind: api.LFixed, N: f.least}
	}
	return s
}

func greatest() api.Style {
	s := api.Style{Whole: true, Wrap: true}
	for _, f := range kindFields {
		*f.field(&s) = f.kinds[len(f.kinds)-1]
	}
	for _, f := range numberFields {
		*f.field(&s) = f.most
	}
	for _, f := range lengthFields {
		*f.field(&s) = api.Length{Kind: api.LFixed, N: maxLength}
	}
	return s
}

// middling is a style with each field somewhere within, parts where they may be.
func middling() api.Style {
	s := api.Style{Wrap: true}
	for _, f := range kindFields {
		*f.field(&s) = f.kinds[1]
	}
	for i, f := range numberFields {
		*f.field(&s) = 7 + i
	}
	for i, f := range lengthFields {
		*f.field(&s) = api.Length{Kind: api.LFixed, N: 100 + i}
		if f.part {
			*f.field(&s) = api.Length{Kind: api.LPart, N: 1000 + i}
		}
	}
	return s
}

// mayStyles are styles that may be, in which single fields are turned about.
func mayStyles() []api.Style { return []api.Style{{}, least(), greatest(), middling()} }

// someStyle is a style that may be, by the seed.
func someStyle(r *rand.Rand) api.Style {
	s := api.Style{Whole: r.Intn(2) == 0, Wrap: r.Intn(2) == 0}
	for _, f := range kindFields {
		*f.field(&s) = f.kinds[r.Intn(len(f.kinds))]
	}
	for _, f := range numberFields {
		*f.field(&s) = max(f.least, min(f.most, someNumber(r)))
	}
	for _, f := range lengthFields {
		switch r.Intn(3) {
		case 0:
			*f.field(&s) = api.Length{Kind: api.LFixed, N: max(f.least, someNumber(r)>>2)}
		case 1:
			if f.part {
				*f.field(&s) = api.Length{Kind: api.LPart, N: r.Intn(api.MaxPart+1) >> r.Intn(17)}
			}
		}
	}
	return s
}

// someNumber is a number from -MaxCoord to MaxCoord, of all magnitudes.
func someNumber(r *rand.Rand) int { return (r.Intn(2*maxCoord+1) - maxCoord) >> r.Intn(41) }

// wildStyle is one that has whatever numbers, most of them such as may not be.
func wildStyle(r *rand.Rand) api.Style {
	number := func() int { return far[r.Intn(len(far))] }
	s := someStyle(r)
	for _, f := range kindFields {
		*f.field(&s) = uint8(r.Intn(256))
	}
	for _, f := range numberFields {
		*f.field(&s) = number()
	}
	for _, f := range lengthFields {
		*f.field(&s) = api.Length{Kind: uint8(r.Intn(256)) >> r.Intn(9), N: number()}
	}
	return s
}

func checkMay(t *testing.T, s api.Style, want bool, what ...any) {
	t.Helper()
	if got := style.May(s); got != want {
		t.Errorf("%s: %v, not %v", fmt.Sprint(what...), got, want)
	}
}

// leaves goes over the names of all single fields, the deeper ones too, but
// takes a length for one.
func leaves(v reflect.Value, name string, do func(name string)) {
	switch {
	case v.Type() == reflect.TypeFor[api.Length]():
		do(name)
	case v.Kind() == reflect.Struct:
		for i := range v.NumField() {
			leaves(v.Field(i), name+"."+v.Type().Field(i).Name, do)
		}
	case v.Kind() == reflect.Array:
		for i := range v.Len() {
			leaves(v.Index(i), fmt.Sprintf("%s.%d", name, i), do)
		}
	default:
		do(name)
	}
}

// The tables of fields, above, leave none out.
func TestAllFieldsAreTold(t *testing.T) {
	told := []string{"Whole", "Wrap"}
	for _, f := range kindFields {
		told = append(told, f.name)
	}
	for _, f := range numberFields {
		told = append(told, f.name)
	}
	for _, f := range lengthFields {
		told = append(told, f.name)
	}
	var there []string
	leaves(reflect.ValueOf(api.Style{}), "", func(name string) { there = append(there, strings.TrimPrefix(name, ".")) })
	slices.Sort(told)
	slices.Sort(there)
	if !slices.Equal(told, there) {
		t.Errorf("%v, not %v", told, there)
	}
}

// P6.1: the rows of the chapter's examples.
func TestMayExamples(t *testing.T) {
	checkMay(t, api.Style{}, true, "the zero style")
	checkMay(t, api.Style{Display: 3}, false, "Display 3")
	checkMay(t, api.Style{Padding: [4]int{-1}}, false, "a Padding -1")
	checkMay(t, api.Style{Height: api.Length{Kind: api.LPart, N: 1}}, false, "a Height that is a part")
}

// P6.1: all fields at their least, at their greatest, somewhere within.
func TestMayEnds(t *testing.T) {
	for i, s := range mayStyles() {
		checkMay(t, s, true, "style ", i)
		for _, whole := range []bool{false, true} {
			for _, wrap := range []bool{false, true} {
				s.Whole, s.Wrap = whole, wrap
				checkMay(t, s, true, "style ", i, " Whole ", whole, " Wrap ", wrap)
			}
		}
	}
}

// P6.1: all kinds of each field, those that are api's and those that aren't.
func TestMayKinds(t *testing.T) {
	for i, s := range mayStyles() {
		for _, f := range kindFields {
			kept := *f.field(&s)
			for kind := range 256 {
				*f.field(&s) = uint8(kind)
				checkMay(t, s, slices.Contains(f.kinds, uint8(kind)), "style ", i, " ", f.name, " ", kind)
			}
			*f.field(&s) = kept
		}
	}
}

// P6.1: each number at its least, at its greatest, one below, one above, and
// far from them.
func TestMayNumbers(t *testing.T) {
	for i, s := range mayStyles() {
		for _, f := range numberFields {
			kept := *f.field(&s)
			for _, n := range append([]int{f.least - 1, f.least, f.least + 1, -1000, -1, 0, 1, 255, 256, 999, 1000, f.most - 1, f.most, f.most + 1, 1001, -1001, maxLength, -maxLength}, far...) {
				*f.field(&s) = n
				checkMay(t, s, n >= f.least && n <= f.most, "style ", i, " ", f.name, " ", n)
			}
			*f.field(&s) = kept
		}
	}
}

// P6.1: each length, of each kind and of none, at its least, at its greatest,
// one below, one above, and far from them.
func TestMayLengths(t *testing.T) {
	edges := append([]int{
		-maxLength, -maxLength + 1, -100001, -100000, -1, 0, 1, 9999, 10000, 10001, 99999, 100000, 100001, 100002,
		maxLength - 1, maxLength, maxLength + 1, maxLength + 2,
	}, far...)
	for i, s := range mayStyles() {
		for _, f := range lengthFields {
			kept := *f.field(&s)
			for kind := range 256 {
				for _, n := range edges {
					l := api.Length{Kind: uint8(kind), N: n}
					*f.field(&s) = l
					checkMay(t, s, f.mayBe(l), "style ", i, " ", f.name, " ", l)
				}
			}
			*f.field(&s) = kept
		}
	}
}

// P6.1: the very edges of lengths, each written out.
func TestMayLengthsByRows(t *testing.T) {
	for _, x := range []struct {
		l                     api.Length
		width, height, margin bool
	}{
		{api.Length{Kind: api.LAuto}, true, true, true},
		{api.Length{Kind: api.LAuto, N: 1}, false, false, false},
		{api.Length{Kind: api.LAuto, N: -1}, false, false, false},
		{api.Length{Kind: api.LFixed}, true, true, true},
		{api.Length{Kind: api.LFixed, N: -1}, false, false, true},
		{api.Length{Kind: api.LFixed, N: 1 << 38}, true, true, true},
		{api.Length{Kind: api.LFixed, N: 1<<38 + 1}, false, false, false},
		{api.Length{Kind: api.LFixed, N: -1 << 38}, false, false, true},
		{api.Length{Kind: api.LFixed, N: -1<<38 - 1}, false, false, false},
		{api.Length{Kind: api.LPart}, true, false, true},
		{api.Length{Kind: api.LPart, N: 1}, true, false, true},
		{api.Length{Kind: api.LPart, N: 100000}, true, false, true},
		{api.Length{Kind: api.LPart, N: 100001}, false, false, false},
		{api.Length{Kind: api.LPart, N: -1}, false, false, false},
		{api.Length{Kind: 3}, false, false, false},
		{api.Length{Kind: 255}, false, false, false},
	} {
		for _, f := range lengthFields {
			want := x.width
			switch {
			case strings.HasPrefix(f.name, "Margin"):
				want = x.margin
			case strings.HasSuffix(f.name, "H") || f.name == "Height":
				want = x.height
			}
			var s api.Style
			*f.field(&s) = x.l
			checkMay(t, s, want, f.name, " ", x.l)
		}
	}
}

// P6.1: nothing is asked of how fields stand to each other.
func TestMayFieldsApart(t *testing.T) {
	long, short := api.Length{Kind: api.LFixed, N: 100}, api.Length{Kind: api.LFixed, N: 1}
	checkMay(t, api.Style{MinW: long, MaxW: short, MinH: long, MaxH: short}, true, "a least above the most")
	checkMay(t, api.Style{Whole: true, Width: short, Padding: [4]int{9, 9, 9, 9}}, true, "edges wider than the whole")
	checkMay(t, api.Style{Dir: api.Column, Wrap: true, Gap: 5}, true, "a box that isn't flexible, with a direction")
}

// P6.1: styles by a fixed seed, and such as one or two fields of are otherwise.
func TestMayByHand(t *testing.T) {
	r := rand.New(rand.NewSource(1))
	may, not := 0, 0
	for range 20000 {
		s, wild := someStyle(r), wildStyle(r)
		if !mayByHand(s) {
			t.Fatalf("may not: %v", s)
		}
		for range r.Intn(3) {
			switch r.Intn(3) {
			case 0:
				f := kindFields[r.Intn(len(kindFields))]
				*f.field(&s) = uint8(r.Intn(8))
			case 1:
				f := numberFields[r.Intn(len(numberFields))]
				*f.field(&s) = someNumber(r)
			case 2:
				f := lengthFields[r.Intn(len(lengthFields))]
				*f.field(&s) = api.Length{Kind: uint8(r.Intn(4)), N: someNumber(r)}
			}
		}
		want := mayByHand(s)
		checkMay(t, s, want, s)
		checkMay(t, wild, mayByHand(wild), wild)
		if want {
			may++
		} else {
			not++
		}
	}
	if may < 5000 || not < 5000 {
		t.Errorf("%d may, %d not", may, not)
	}
}
