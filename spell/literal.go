package spell

import (
	"triglyph/api"
	"triglyph/runes"
)

// apostrophe is the Quote that stands twice for itself in a text; with any other one, marks have a backslash ahead.
const apostrophe = "'"

// literal is an array that can be written as it is.
func literal(a api.Arr, g api.Grammar) string {
	if isText(a) {
		return g.Quote + signs(a.Cells, g.Quote) + g.Quote
	}
	numbers := make([]string, 0, len(a.Cells))
	for _, c := range a.Cells {
		numbers = append(numbers, Number(c.N, g.Minus))
	}
	w := writer{}
	w.put(numbers...)
	return w.text.String()
}

// isText tells whether an array is written as a text: without cells it is one, since no numbers would be no word.
func isText(a api.Arr) bool {
	return len(a.Cells) == 0 || a.Cells[0].Kind == api.CChar
}

// signs is what stands between two quotes.
func signs(cells []api.Cell, quote string) string {
	list := make([]int64, 0, len(cells))
	for _, c := range cells {
		if ahead := guard(c.N, quote); ahead != 0 {
			list = append(list, ahead)
		}
		list = append(list, c.N)
	}
	// There are such signs: an array that has others can't be written.
	text, _ := runes.Write(list)
	return string(text)
}

// guard is the sign that must stand ahead of one, lest it end the text; 0: none.
func guard(sign int64, quote string) int64 {
	switch {
	case quote == apostrophe && sign == '\'':
		return '\''
	case quote != apostrophe && (sign == '"' || sign == '\\'):
		return '\\'
	}
	return 0
}
