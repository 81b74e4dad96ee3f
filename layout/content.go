package layout

import (
	"windowpane/api"
	"windowpane/fixed"
	"windowpane/lines"
	"windowpane/width"
)

// How wide contents would be: narrow, or wide. Each is the width by which runs
// are filled for it.
const (
	narrowly = 0
	widely   = api.MaxCoord
)

// content tells how wide a box's content would be.
func (p page) content(at, how int) int {
	b := &p[at]
	if b.Style.Display == api.DFlex {
		return p.flexContent(b, how)
	}
	widest := 0
	for group, isRun := range p.groups(b) {
		if !isRun {
			widest = max(widest, p.own(group[0], how))
			continue
		}
		items := p.items(b, group, func(at int) item { return item{wide: p.own(at, how)} })
		widest = max(widest, lines.Widest(sure(lines.Fill(plain(items), how))))
	}
	return widest
}

// flexContent tells how wide a flexible box's content would be.
func (p page) flexContent(b *node, how int) int {
	widest, all := 0, 0
	for i, at := range b.kids {
		if i > 0 {
			all += b.Style.Gap
		}
		wide := p.own(at, how)
		widest, all = max(widest, wide), all+wide
	}
	if isColumn(b) || b.Style.Wrap && how == narrowly {
		return widest
	}
	return max(all, 0)
}

// own tells how wide a box would be, with its margins, by itself.
func (p page) own(at, how int) int {
	asked := sure(width.Of(bare(p[at].Style), 0))
	wide := asked.Width
	if !asked.Is {
		wide = p.content(at, how)
	}
	return fixed.Clamp(wide, asked.Least, asked.Most) + asked.Edges + asked.Left + asked.Right
}

// bare tells a style without the widths and margins that are parts of what is
// around.
func bare(s api.Style) api.Style {
	for _, l := range []*api.Length{&s.Width, &s.MinW, &s.MaxW, &s.Margin[api.Left], &s.Margin[api.Right]} {
		if l.Kind == api.LPart {
			*l = api.Length{}
		}
	}
	return s
}
