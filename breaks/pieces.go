package breaks

import (
	"iter"
	"strings"

	"windowpane/api"
)

const (
	blank  = " "
	end    = "\n"
	blanks = blank + end
)

// pieces tells a text's pieces, in order, by how blanks count.
func pieces(s string, ws uint8) iter.Seq[Piece] {
	switch ws {
	case api.WsNormal:
		return wordsAndBlanks(s)
	case api.WsStay:
		return oneWord(s)
	case api.WsKeep:
		return wordsAndEnds(s)
	}
	return func(func(Piece) bool) {}
}

func wordsAndBlanks(s string) iter.Seq[Piece] {
	return func(yield func(Piece) bool) {
		for row, isBlank := range rows(s, blanks) {
			p := Piece{Kind: KWord, Text: row}
			if isBlank {
				p = Piece{Kind: KBlank, Text: blank}
			}
			if !yield(p) {
				return
			}
		}
	}
}

func oneWord(s string) iter.Seq[Piece] {
	return func(yield func(Piece) bool) {
		if s != "" {
			yield(Piece{Kind: KWord, Text: joined(wordsAndBlanks(s))})
		}
	}
}

func wordsAndEnds(s string) iter.Seq[Piece] {
	return func(yield func(Piece) bool) {
		for row, isEnd := range rows(s, end) {
			p, many := Piece{Kind: KWord, Text: row}, 1
			if isEnd {
				p, many = Piece{Kind: KHard}, len(row)
			}
			for range many {
				if !yield(p) {
					return
				}
			}
		}
	}
}

// rows tells a text's longest rows of marks, and those of other bytes, in
// order, and of each whether it is one of marks.
func rows(s, marks string) iter.Seq2[string, bool] {
	return func(yield func(row string, isMarks bool) bool) {
		from := 0
	row:
		for from < len(s) {
			isMarks := isAmong(s[from], marks)
			for to := from + 1; to < len(s); to++ {
				if isAmong(s[to], marks) == isMarks {
					continue
				}
				if !yield(s[from:to], isMarks) {
					return
				}
				from = to
				continue row
			}
			yield(s[from:], isMarks)
			return
		}
	}
}

func isAmong(c byte, marks string) bool { return strings.IndexByte(marks, c) >= 0 }
