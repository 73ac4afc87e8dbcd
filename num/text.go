package num

import (
	"strconv"
	"strings"

	"usance/api"
)

const (
	places    = 6  // digits behind the point
	maxDigits = 10 // digits ahead of it
)

// Show writes a number, Parse reads one.
func Show(a int64) string {
	a = Clamp(a)
	var text []byte
	if a < 0 {
		text = append(text, '-')
		a = -a
	}
	text = strconv.AppendInt(text, a/api.One, 10)
	if a%api.One == 0 {
		return string(text)
	}
	w := writer{text: append(text, '.'), left: a % api.One, unit: api.One}
	eachPlace(w.put)
	return string(w.text)
}

func Parse(s string) (int64, bool) {
	s, below := strings.CutPrefix(s, "-")
	whole, behind, pointed := strings.Cut(s, ".")
	if !isWhole(whole) || pointed && !isDigits(behind, places) {
		return 0, false
	}
	n := millionths(whole, behind)
	if n > api.MaxNum || below && n == 0 {
		return 0, false
	}
	if below {
		n = -n
	}
	return n, true
}

// eachPlace does something with each place behind the point, the tenths first.
func eachPlace(do func(place int)) {
	for place := range places {
		do(place)
	}
}

// writer writes the digits behind the point.
type writer struct {
	text []byte
	left int64 // millionths that are not written yet
	unit int64 // millionths of the last place that was written
}

// put writes the next place; where nothing is left only noughts would follow, which a text leaves out.
func (w *writer) put(int) {
	if w.left == 0 {
		return
	}
	w.unit /= 10
	w.text = append(w.text, byte('0'+w.left/w.unit))
	w.left %= w.unit
}

// reader reads the digits behind the point.
type reader struct {
	digits string
	n      int64 // what was read so far, in units of the last place
}

// take reads one place; one that isn't written is a nought.
func (r *reader) take(place int) {
	r.n *= 10
	if place < len(r.digits) {
		r.n += digit(r.digits[place])
	}
}

// millionths is the number of digits ahead of the point and behind it (at most maxDigits and places, so that it is far within an int64).
func millionths(whole, behind string) int64 {
	r := reader{digits: behind}
	for i := range len(whole) {
		r.n = r.n*10 + digit(whole[i])
	}
	eachPlace(r.take)
	return r.n
}

// isWhole: are these the digits ahead of the point?
func isWhole(s string) bool {
	return isDigits(s, maxDigits) && (s[0] != '0' || len(s) == 1)
}

// isDigits: are these digits, at least one and not more than most?
func isDigits(s string, most int) bool {
	if len(s) < 1 || len(s) > most {
		return false
	}
	for i := range len(s) {
		if s[i] < '0' || s[i] > '9' {
			return false
		}
	}
	return true
}

// digit is what a digit stands for.
func digit(c byte) int64 { return int64(c - '0') }
