package style

import "windowpane/api"

// noneAround stands for what is around a height, which is never a part of it.
const noneAround = 0

// sides tells a box's padding and border together, side by side.
func sides(s api.Style) [4]int {
	edges := s.Padding
	for side, n := range s.Border {
		edges[side] += n
	}
	return edges
}

// content tells what a size that a box asks for comes to as that of its
// content, by its edges on both sides, if it comes to anything.
func content(s api.Style, asked api.Length, of, edges int) (n int, is bool, e api.Errno) {
	n, is, e = Resolve(asked, of)
	if is && s.Whole {
		n = max(n-edges, 0)
	}
	return n, is, e
}

// limits tells what the least and the most size of a box come to as those of
// its content.
func limits(s api.Style, asksLeast, asksMost api.Length, of, edges int) (least, most int, e api.Errno) {
	// Where no least size is asked for, this is 0 already.
	least, _, e = content(s, asksLeast, of, edges)
	if e != api.OK {
		return 0, 0, e
	}
	most, is, e := content(s, asksMost, of, edges)
	if e != api.OK {
		return 0, 0, e
	}
	if !is {
		most = api.MaxCoord
	}
	return least, most, api.OK
}
