package inline

import "windowpane/api"

// line is how tall a line is, and how far below its upper edge its base is.
type line struct{ height, base int }

// lineOf tells the line of spots, whose own font goes up and down so far.
func lineOf(l []Spot, up, down int) line {
	for _, spot := range l {
		if spot.Align == api.VBase {
			up, down = max(up, spot.Up), max(down, spot.Down)
		}
	}
	height := up + down
	for _, spot := range l {
		if spot.Align != api.VBase {
			height = max(height, tall(spot))
		}
	}
	return line{height: height, base: up}
}

// places tells where spots stand, the first one at the line's lead.
func (x line) places(l []Spot, lead int) []Pos {
	edges := x.edges()
	at := make([]Pos, len(l))
	for i, spot := range l {
		at[i] = Pos{X: lead, Y: edges[spot.Align](spot)}
		lead += spot.Width
	}
	return at
}

// edge tells how far below a line's upper edge that of a spot is.
type edge func(Spot) int

// edges are told by how spots stand upright.
func (x line) edges() [3]edge {
	return [3]edge{api.VBase: x.onBase, api.VTop: x.atTop, api.VBottom: x.atBottom}
}

func (x line) onBase(spot Spot) int   { return x.base - spot.Up }
func (x line) atTop(Spot) int         { return 0 }
func (x line) atBottom(spot Spot) int { return x.height - tall(spot) }

func tall(spot Spot) int { return spot.Up + spot.Down }

// lead tells where the first spot of a line stands, of which so much is left.
func lead(left int, lines uint8) int {
	// Spots that are wider than their line go over its end alone.
	left = max(left, 0)
	switch lines {
	case api.AtEnd:
		return left
	case api.AtMiddle:
		return left / 2
	}
	return 0
}

// widthOf tells how wide spots are together. They may be wider than any length,
// as that isn't told; an int holds what MaxFrags lengths come to.
func widthOf(l []Spot) int {
	width := 0
	for _, spot := range l {
		width += spot.Width
	}
	return width
}
