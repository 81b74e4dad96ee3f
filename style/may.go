package style

import (
	"slices"

	"windowpane/api"
)

// May tells whether a style may be (P6.1).
func May(s api.Style) bool {
	asked := [...]func() bool{
		func() bool { return isSome(s.Display, api.DBlock, api.DInline, api.DFlex) },
		func() bool { return isSome(s.Ws, api.WsNormal, api.WsStay, api.WsKeep) },
		func() bool { return isSome(s.Valign, api.VBase, api.VTop, api.VBottom) },
		func() bool { return isSome(s.Dir, api.Row, api.RowBack, api.Column, api.ColumnBack) },
		func() bool { return isSome(s.Lines, api.AtStart, api.AtEnd, api.AtMiddle) },
		func() bool { return isSome(s.Align, api.AtStart, api.AtEnd, api.AtMiddle, api.Stretch) },
		func() bool {
			return isSome(s.Justify, api.AtStart, api.AtEnd, api.AtMiddle, api.Between, api.Evenly)
		},
		func() bool { return lengthsMay(s.Width, s.MinW, s.MaxW, s.Basis) },
		func() bool { return heightsMay(s.Height, s.MinH, s.MaxH) },
		func() bool { return marginsMay(s.Margin) },
		func() bool { return areWithin(0, api.MaxLength, s.Padding[:]...) },
		func() bool { return areWithin(0, api.MaxLength, s.Border[:]...) },
		func() bool { return areWithin(0, api.MaxLength, s.Gap, s.LineGap) },
		func() bool { return areWithin(-api.MaxLength, api.MaxLength, s.OffX, s.OffY) },
		func() bool { return areWithin(0, api.MaxFont, s.Font) },
		func() bool { return areWithin(0, api.MaxGrow, s.Grow, s.Shrink) },
		func() bool { return areWithin(-api.MaxOrder, api.MaxOrder, s.Order) },
	}
	for _, holds := range asked {
		if !holds() {
			return false
		}
	}
	return true
}

func isSome(kind uint8, of ...uint8) bool { return slices.Contains(of, kind) }

func areWithin(least, most int, l ...int) bool {
	for _, n := range l {
		if n < least || n > most {
			return false
		}
	}
	return true
}

func lengthsMay(l ...api.Length) bool {
	for _, one := range l {
		if !lengthMay(one, 0) {
			return false
		}
	}
	return true
}

// heightsMay tells whether lengths may be, and are no parts: nobody's height
// is known ahead of what is in it.
func heightsMay(l ...api.Length) bool {
	isPart := func(one api.Length) bool { return one.Kind == api.LPart }
	return lengthsMay(l...) && !slices.ContainsFunc(l, isPart)
}

func marginsMay(sides [4]api.Length) bool {
	for _, one := range sides {
		if !lengthMay(one, -api.MaxLength) {
			return false
		}
	}
	return true
}

// lengthMay tells whether a length may be, where the least fixed one is that.
func lengthMay(l api.Length, leastFixed int) bool {
	switch l.Kind {
	case api.LAuto:
		return l.N == 0
	case api.LFixed:
		return areWithin(leastFixed, api.MaxLength, l.N)
	case api.LPart:
		return areWithin(0, api.MaxPart, l.N)
	}
	return false
}
