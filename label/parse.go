package label

import (
	"strings"

	"windrose/api"
)

// Where in a text the next sign stands.
const (
	inName    = iota // in the series' name
	inLabel          // in a label's name
	atOpening        // at a value's opening quotation mark
	inValue          // in a value
	atMarked         // in a value, behind a backslash
	atNext           // behind a value's closing quotation mark
	atEnd            // behind the whole
)

// reader is how far a text was read, and what it told so far.
type reader struct {
	place  int
	word   strings.Builder
	name   string // of the label whose value is being read
	series api.Series
}

// Parse is the series of a text.
func Parse(s string) (api.Series, api.Errno) {
	var r reader
	for _, sign := range s {
		if !r.take(sign) {
			return api.Series{}, api.ErrText
		}
	}
	if r.place == inName {
		r.series.Name = r.endWord()
		r.place = atEnd
	}
	sortLabels(r.series.Labels)
	// The reader minds the marks between the words, and no more; a text of a series that may not be can't be read either.
	if r.place != atEnd || Check(r.series) != api.OK {
		return api.Series{}, api.ErrText
	}
	return r.series, api.OK
}

// take reads one sign, if it may stand where it does.
func (r *reader) take(sign rune) bool {
	switch r.place {
	case inName:
		if sign == '{' {
			r.series.Name = r.endWord()
			return r.move(inLabel)
		}
		return r.keep(sign, api.MaxName)
	case inLabel:
		if sign == '=' {
			r.name = r.endWord()
			return r.move(atOpening)
		}
		return r.keep(sign, api.MaxName)
	case atOpening:
		return sign == '"' && r.move(inValue)
	case inValue:
		return r.takeValue(sign)
	case atMarked:
		return mustBeMarked(sign) && r.keep(sign, maxValue) && r.move(inValue)
	case atNext:
		return sign == ',' && r.move(inLabel) || sign == '}' && r.move(atEnd)
	}
	return false
}

// takeValue reads a sign of a value that no backslash stands ahead of.
func (r *reader) takeValue(sign rune) bool {
	switch sign {
	case '\\':
		return r.move(atMarked)
	case '"':
		return r.endLabel() && r.move(atNext)
	}
	return r.keep(sign, maxValue)
}

// move goes on at another place. Its answer is that of a sign that was taken.
func (r *reader) move(place int) bool {
	r.place = place
	return true
}

// keep lays a sign behind the word's others. No word grows beyond its bound, however long the text is.
func (r *reader) keep(sign rune, most int) bool {
	if r.word.Len() >= most {
		return false
	}
	r.word.WriteRune(sign)
	return true
}

// endWord is the word that was read; the next one begins empty.
func (r *reader) endWord() string {
	word := r.word.String()
	r.word.Reset()
	return word
}

// endLabel keeps the label whose value has ended, if there is room.
func (r *reader) endLabel() bool {
	l := api.Label{Name: r.name, Value: r.endWord()}
	r.series.Labels = append(r.series.Labels, l)
	return len(r.series.Labels) <= api.MaxLabels
}
