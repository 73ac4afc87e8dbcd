package date

import "usance/api"

const (
	yearDigits = 4
	partDigits = 2
	monthAt    = yearDigits + 1
	dayAt      = monthAt + partDigits + 1
	textLen    = dayAt + partDigits
	dash       = '-'
)

// Show writes a day, Parse reads one.
func Show(day int) (string, api.Errno) {
	year, month, dayOfMonth, err := Parts(day)
	if err != api.OK {
		return "", err
	}
	text := appendDigits(nil, year, yearDigits)
	text = appendDigits(append(text, dash), month, partDigits)
	text = appendDigits(append(text, dash), dayOfMonth, partDigits)
	return string(text), api.OK
}

func Parse(s string) (int, api.Errno) {
	if len(s) != textLen || s[monthAt-1] != dash || s[dayAt-1] != dash {
		return 0, api.ErrDateForm
	}
	year, yearRight := digits(s[:yearDigits])
	month, monthRight := digits(s[monthAt : monthAt+partDigits])
	day, dayRight := digits(s[dayAt:])
	if !yearRight || !monthRight || !dayRight {
		return 0, api.ErrDateForm
	}
	return Of(year, month, day)
}

// appendDigits writes n with so many digits, noughts ahead.
func appendDigits(text []byte, n, count int) []byte {
	if count > 1 {
		text = appendDigits(text, n/10, count-1)
	}
	return append(text, byte('0'+n%10))
}

// digits is the number that a few digits say.
func digits(s string) (int, bool) {
	n := 0
	for i := range len(s) {
		if s[i] < '0' || s[i] > '9' {
			return 0, false
		}
		n = n*10 + int(s[i]-'0')
	}
	return n, true
}
