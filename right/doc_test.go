package right_test

import (
	"fmt"
	"strconv"
	"strings"

	"windowpane/api"
)

// doc reads a document as it is written in these tests: a box is [..], with
// what it is asked for as name=value, and its kids behind that; a text stands
// between ' and ', a byte 10 in it as ~. Keys count on from 1.
func doc(s string) api.Doc {
	r := &reader{rest: s}
	r.box(0)
	if strings.TrimSpace(r.rest) != "" {
		panic("behind the document: " + r.rest)
	}
	return api.Doc{Nodes: r.nodes, Next: len(r.nodes) + 1}
}

type reader struct {
	rest  string
	nodes []api.Node
}

func (r *reader) blanks() { r.rest = strings.TrimLeft(r.rest, " \t\n") }

func (r *reader) box(depth int) {
	r.blanks()
	r.rest = strings.TrimPrefix(r.rest, "[")
	at := len(r.nodes)
	r.nodes = append(r.nodes, api.Node{Key: at + 1, Depth: depth})
	for r.blanks(); r.rest[0] != ']'; r.blanks() {
		switch r.rest[0] {
		case '[':
			r.box(depth + 1)
		case '\'':
			end := strings.IndexByte(r.rest[1:], '\'') + 1
			text := strings.ReplaceAll(r.rest[1:end], "~", "\n")
			r.nodes = append(r.nodes, api.Node{Key: len(r.nodes) + 1, Depth: depth + 1, Kind: api.NkText, Text: text})
			r.rest = r.rest[end+1:]
		default:
			end := strings.IndexAny(r.rest, " \t\n[]'")
			name, value, _ := strings.Cut(r.rest[:end], "=")
			r.nodes[at].Style = styled(r.nodes[at].Style, name, value)
			r.rest = r.rest[end:]
		}
	}
	r.rest = r.rest[1:]
}

// words are the values that have names.
func words(value string) uint8 {
	for i, list := range []string{
		"block start row base normal", "inline end back top stay", "flex mid col bottom keep", "between colback", "evenly", "stretch",
	} {
		for _, word := range strings.Fields(list) {
			if word == value {
				return uint8(i)
			}
		}
	}
	panic("no word: " + value)
}

// styled tells a style with what that name says of it.
func styled(s api.Style, name, value string) api.Style {
	if f := map[string]*uint8{
		"d": &s.Display, "ws": &s.Ws, "lines": &s.Lines, "v": &s.Valign, "dir": &s.Dir, "just": &s.Justify, "align": &s.Align,
	}[name]; f != nil {
		*f = words(value)
		return s
	}
	if f := map[string]*int{
		"x": &s.OffX, "y": &s.OffY, "font": &s.Font, "gap": &s.Gap, "linegap": &s.LineGap, "grow": &s.Grow, "shrink": &s.Shrink, "order": &s.Order,
	}[name]; f != nil {
		*f = number(value)
		return s
	}
	if f := map[string]*api.Length{
		"w": &s.Width, "minw": &s.MinW, "maxw": &s.MaxW, "h": &s.Height, "minh": &s.MinH, "maxh": &s.MaxH, "basis": &s.Basis,
	}[name]; f != nil {
		*f = length(value)
		return s
	}
	if f := map[string]*bool{"whole": &s.Whole, "wrap": &s.Wrap}[name]; f != nil {
		*f = true
		return s
	}
	sides := []int{0, 1, 2, 3}
	if i := strings.IndexByte("trbl", name[len(name)-1]); len(name) == 2 && i >= 0 {
		sides = sides[i : i+1]
	}
	values := strings.Split(value, ",")
	for i, side := range sides {
		v := values[i%len(values)]
		switch name[0] {
		case 'm':
			s.Margin[side] = length(v)
		case 'p':
			s.Padding[side] = number(v)
		case 'b':
			s.Border[side] = number(v)
		default:
			panic("no name: " + name)
		}
	}
	return s
}

// length reads a length: auto, 50, or 50/ for a part of 50 of 10,000.
func length(s string) api.Length {
	if s == "auto" {
		return api.Length{}
	}
	if part, is := strings.CutSuffix(s, "/"); is {
		return api.Length{Kind: api.LPart, N: number(part)}
	}
	return api.Length{Kind: api.LFixed, N: number(s)}
}

// number reads a sum of numbers, M for MaxCoord, and F for MaxLength among
// them.
func number(s string) int {
	sum, sign := 0, 1
	for s != "" {
		if s[0] == '-' || s[0] == '+' {
			sign, s = 1, strings.TrimPrefix(s, "+")
			if strings.HasPrefix(s, "-") {
				sign, s = -1, s[1:]
			}
			continue
		}
		end := strings.IndexAny(s, "+-")
		if end < 0 {
			end = len(s)
		}
		n := map[string]int{"M": maxCoord, "F": maxLength}[s[:end]]
		if n == 0 {
			var err error
			if n, err = strconv.Atoi(s[:end]); err != nil {
				panic(err)
			}
		}
		sum, s = sum+sign*n, s[end:]
	}
	return sum
}

// told writes fragments as the chapter's examples do.
func told(l []api.Frag) string {
	var all []string
	for _, f := range l {
		s := fmt.Sprintf("%d.%d %d %d %d %d", f.Node, f.Part, f.X, f.Y, f.W, f.H)
		if f.Text != "" {
			s += fmt.Sprintf(" '%s'", strings.ReplaceAll(f.Text, "\n", "~"))
		}
		all = append(all, s)
	}
	return strings.Join(all, "; ")
}

// written writes a document so that what is in it can be seen.
func written(d api.Doc) string {
	var all []string
	for _, n := range d.Nodes {
		s := strings.Repeat("  ", max(0, min(n.Depth, 20))) + strconv.Itoa(n.Key)
		if n.Kind == api.NkText {
			all = append(all, s+fmt.Sprintf(" %q", n.Text))
		} else {
			all = append(all, s+fmt.Sprintf(" %+v", n.Style))
		}
	}
	return strings.Join(all, "\n")
}
