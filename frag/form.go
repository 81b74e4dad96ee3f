package frag

import (
	"windowpane/api"
	"windowpane/wire"
)

const (
	countSchema = "n"
	fragSchema  = "nnniiiib"
)

// countForm tells the form of how many fragments there are.
func countForm(many int) []byte {
	// A value of its letter is never refused.
	form, _ := wire.Put(countSchema, wire.Value{N: uint64(many)})
	return form
}

// fragForm tells the form of a fragment that may be.
func fragForm(f api.Frag) []byte {
	// Values of their letters, without long bytes, are never refused.
	form, _ := wire.Put(fragSchema,
		wire.Value{N: uint64(f.Node)}, wire.Value{N: uint64(f.Part)}, wire.Value{N: uint64(f.Depth)},
		wire.Value{I: f.X}, wire.Value{I: f.Y}, wire.Value{I: f.W}, wire.Value{I: f.H},
		wire.Value{B: []byte(f.Text)},
	)
	return form
}

// fragsOf tells the fragments whose form the bytes are, whether they are a tree
// or not; none, if the bytes are no form.
func fragsOf(b []byte) []api.Frag {
	count, used, e := wire.Take(countSchema, b)
	if e != api.OK {
		return nil
	}
	var l []api.Frag
	for range count[0].N {
		values, more, e := wire.Take(fragSchema, b[used:])
		if e != api.OK {
			return nil
		}
		l = append(l, fragOf(values))
		used += more
	}
	if used < len(b) {
		return nil
	}
	return l
}

// fragOf tells the fragment of these values. A natural number that no int holds
// comes to one below 0, with which no fragment may be.
func fragOf(l []wire.Value) api.Frag {
	return api.Frag{
		Node: int(l[0].N), Part: int(l[1].N), Depth: int(l[2].N),
		X: l[3].I, Y: l[4].I, W: l[5].I, H: l[6].I,
		Text: string(l[7].B),
	}
}
