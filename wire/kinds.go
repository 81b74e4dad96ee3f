package wire

import (
	"slices"

	"windowpane/api"
	"windowpane/words"
)

// kind is what a letter does.
type kind struct {
	letter byte
	// only tells a value with nothing but the field that counts.
	only func(v Value) Value
	put  func(v Value) []byte
	// take tells the value whose bytes stand first, and how many they are.
	take func(b []byte) (v Value, used int, ok bool)
}

// kinds tells all letters there are.
func kinds() [5]kind {
	return [...]kind{
		{
			letter: 'n',
			only:   func(v Value) Value { return Value{N: v.N} },
			put:    func(v Value) []byte { return words.Put(v.N) },
			take: func(b []byte) (Value, int, bool) {
				n, used, ok := words.Get(b, 0)
				return Value{N: n}, used, ok
			},
		},
		{
			letter: 'i',
			only:   func(v Value) Value { return Value{I: v.I} },
			put:    func(v Value) []byte { return words.Put(words.Fold(v.I)) },
			take: func(b []byte) (Value, int, bool) {
				n, used, ok := words.Get(b, 0)
				return Value{I: words.Unfold(n)}, used, ok
			},
		},
		{
			letter: 'f',
			only:   func(v Value) Value { return Value{F: v.F} },
			put:    putFlag,
			take:   takeFlag,
		},
		{
			letter: 'b',
			only:   func(v Value) Value { return Value{B: v.B} },
			put:    func(v Value) []byte { return slices.Concat(words.Put(uint64(len(v.B))), v.B) },
			take:   takeBytes,
		},
		{
			letter: 'l',
			only:   func(v Value) Value { return Value{L: v.L} },
			put:    func(v Value) []byte { return slices.Concat(words.Put(uint64(len(v.L))), words.Row(v.L)) },
			take:   takeRow,
		},
	}
}

// kindsOf tells what each letter of a schema does; no, if they are too many,
// or one is none.
func kindsOf(schema string) ([]kind, bool) {
	// All letters have one byte: bytes beyond the most are too many, or none.
	if len(schema) > mostLetters {
		return nil, false
	}
	all := kinds()
	row := make([]kind, len(schema))
	for i := range row {
		at := slices.IndexFunc(all[:], func(k kind) bool { return k.letter == schema[i] })
		if at < 0 {
			return nil, false
		}
		row[i] = all[at]
	}
	return row, true
}

func putFlag(v Value) []byte {
	if v.F {
		return []byte{1}
	}
	return []byte{0}
}

func takeFlag(b []byte) (Value, int, bool) {
	if len(b) == 0 || b[0] > 1 {
		return Value{}, 0, false
	}
	return Value{F: b[0] == 1}, 1, true
}

func takeBytes(b []byte) (Value, int, bool) {
	many, used, ok := takeCount(b, api.MaxUpdate)
	if !ok || many > len(b)-used {
		return Value{}, 0, false
	}
	end := used + many
	return Value{B: append([]byte(nil), b[used:end]...)}, end, true
}

func takeRow(b []byte) (Value, int, bool) {
	many, used, ok := takeCount(b, mostRow)
	if !ok {
		return Value{}, 0, false
	}
	var l []uint64
	for range many {
		n, more, ok := words.Get(b, used)
		if !ok {
			return Value{}, 0, false
		}
		l = append(l, n)
		used += more
	}
	return Value{L: l}, used, true
}

// takeCount tells how many there are, by the word that stands first; no, if
// they are more than most.
func takeCount(b []byte, most uint64) (many, used int, ok bool) {
	n, used, ok := words.Get(b, 0)
	if !ok || n > most {
		return 0, 0, false
	}
	return int(n), used, true
}
