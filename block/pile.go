package block

import "windowpane/margin"

// pile is what is told of the kids that stand so far, and what waits below
// them.
type pile struct {
	Stacked
	// y may be no length on the way, as it isn't told: an int holds what
	// MaxFrags heights and margins come to.
	y       int
	waits   margin.Margin
	outside bool // nothing stands yet between the box's upper margin and its kids'
}

// put puts a kid below those that stand so far.
func (p *pile) put(kid Kid) {
	p.join(kid.Top)
	at := p.next()
	p.At = append(p.At, at)
	if kid.Through {
		p.join(kid.Bottom)
		return
	}
	if p.outside {
		p.Top, p.outside = p.waits, false
	}
	p.y, p.waits = at+kid.Height, kid.Bottom
}

// end tells what the box is in which all kids stand.
func (p *pile) end(open bool) {
	switch {
	case p.outside:
		p.Top, p.Through = p.waits, open
	case open:
		p.Bottom = p.waits
	default:
		p.y = p.next()
	}
	p.Height = max(p.y, 0)
}

// join brings a margin to what waits.
func (p *pile) join(m margin.Margin) { p.waits = margin.Join(p.waits, m) }

// next tells the place below all that stands and waits; what waits outside counts
// as the margin of the box itself.
func (p *pile) next() int {
	if p.outside {
		return p.y
	}
	return p.y + p.waits.Value()
}
