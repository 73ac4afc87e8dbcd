package date

const (
	firstYear  year = 1900
	lastYear   year = 2099
	yearMonths      = 12
	february        = 1   // months count from 0 on here
	commonYear      = 365 // days of a year that is no leap year
)

// monthDays are the months' days in a year that is no leap year.
var monthDays = [yearMonths]int{31, 28, 31, 30, 31, 30, 31, 31, 30, 31, 30, 31}

// year is a year of the calendar. The years from it on, and the months within it, are its pieces: daysOf and piecesIn work alike on both, and take by a method expression how many days a piece has.
type year int

// leapDays is how many days the year has beyond those of a common one.
func (y year) leapDays() int {
	if y%4 == 0 && (y%100 != 0 || y%400 == 0) {
		return 1
	}
	return 0
}

// yearLater is how many days the year has that is n years later.
func (y year) yearLater(n int) int {
	return commonYear + (y + year(n)).leapDays()
}

// month is how many days a month of the year has.
func (y year) month(month int) int {
	if month == february {
		return monthDays[month] + y.leapDays()
	}
	return monthDays[month]
}

// daysOf is how many days the year's first count pieces have.
func daysOf(y year, count int, piece func(year, int) int) int {
	days := 0
	for n := range count {
		days += piece(y, n)
	}
	return days
}

// piecesIn is how many of the year's pieces go wholly into so many days, and how many days are left.
func piecesIn(y year, days int, piece func(year, int) int) (int, int) {
	n := 0
	for days >= piece(y, n) {
		days -= piece(y, n)
		n++
	}
	return n, days
}
