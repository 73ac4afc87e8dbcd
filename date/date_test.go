package date_test

import (
	"math"
	"math/big"
	"testing"
	"time"

	"usance/api"
	"usance/date"
)

const last = api.MaxDay

var first = time.Date(1900, time.January, 1, 0, 0, 0, 0, time.UTC)

// mustOf is the day of a date that there is.
func mustOf(t *testing.T, y, m, d int) int {
	t.Helper()
	day, e := date.Of(y, m, d)
	if e != api.OK {
		t.Fatalf("Of(%d, %d, %d): %v", y, m, d, e)
	}
	return day
}

// nearest is the day that a call takes a number for.
func nearest(day int) int {
	switch {
	case day < 0:
		return 0
	case day > last:
		return last
	}
	return day
}

// someDays are the edges of all days and of some months, some days between them, and what is no day.
func someDays() []int {
	out := []int{
		math.MinInt, math.MinInt + 1, -1e9, -last, -366, -2, -1, 0, 1, 2, 30, 31, 57, 58, 59, 60, 364, 365, 366,
		36523, 36524, 36582, 36583, 36584, 36889, 36890, 46339, last - 365, last - 31, last - 30, last - 1, last,
		last + 1, last + 2, 2 * last, 1e9, math.MaxInt - 1, math.MaxInt,
	}
	for day := 3; day < last; day += 4999 {
		out = append(out, day)
	}
	return out
}

// P3.1, P3.4: every day there is, held against the library's calendar.
func TestEveryDay(t *testing.T) {
	for day := range last + 1 {
		y, m, d, e := date.Parts(day)
		when := first.AddDate(0, 0, day)
		if y != when.Year() || m != int(when.Month()) || d != when.Day() || e != api.OK {
			t.Fatalf("Parts(%d): %d, %d, %d, %v, want %v", day, y, m, d, e, when)
		}
		if got, e := date.Of(y, m, d); got != day || e != api.OK {
			t.Fatalf("Of(%d, %d, %d): %d, %v, want %d", y, m, d, got, e, day)
		}
	}
}

// P3.1: every triple of numbers round about the years, months and days there are.
func TestOfEveryTriple(t *testing.T) {
	for y := 1895; y <= 2105; y++ {
		for m := -1; m <= 14; m++ {
			for d := -1; d <= 33; d++ {
				when := time.Date(y, time.Month(m), d, 0, 0, 0, 0, time.UTC)
				there := 1900 <= y && y <= 2099 && when.Year() == y && int(when.Month()) == m && when.Day() == d
				day, e := date.Of(y, m, d)
				if there && (e != api.OK || day != int(when.Sub(first).Hours())/24) {
					t.Errorf("Of(%d, %d, %d): %d, %v", y, m, d, day, e)
				}
				if !there && (e != api.ErrDateForm || day != 0) {
					t.Errorf("Of(%d, %d, %d): %d, %v, want no day", y, m, d, day, e)
				}
			}
		}
	}
}

// P3.1: the edges that are told, and numbers far out, of which some would be days if they wrapped round.
func TestOfEdges(t *testing.T) {
	for _, x := range []struct {
		y, m, d int
		day     int
		e       api.Errno
	}{
		{1900, 1, 1, 0, api.OK}, {1900, 2, 28, 58, api.OK}, {1900, 3, 1, 59, api.OK}, {2000, 2, 29, 36583, api.OK},
		{2026, 11, 15, 46339, api.OK}, {2099, 12, 31, last, api.OK},
		{1900, 2, 29, 0, api.ErrDateForm}, {2001, 2, 29, 0, api.ErrDateForm}, {2000, 2, 30, 0, api.ErrDateForm},
		{1899, 12, 31, 0, api.ErrDateForm}, {2100, 1, 1, 0, api.ErrDateForm}, {0, 0, 0, 0, api.ErrDateForm},
		{-1900, 1, 1, 0, api.ErrDateForm}, {26, 11, 15, 0, api.ErrDateForm},
		{math.MinInt, 1, 1, 0, api.ErrDateForm}, {math.MaxInt, 1, 1, 0, api.ErrDateForm},
		{2000, math.MinInt, 1, 0, api.ErrDateForm}, {2000, math.MinInt + 1, 1, 0, api.ErrDateForm}, {2000, math.MaxInt, 1, 0, api.ErrDateForm},
		{2000, 1, math.MinInt, 0, api.ErrDateForm}, {2000, 1, math.MaxInt, 0, api.ErrDateForm},
		{2000 + 1<<32, 1, 1, 0, api.ErrDateForm}, {2000, 1 + 1<<32, 1, 0, api.ErrDateForm}, {2000, 1, 1 + 1<<32, 0, api.ErrDateForm},
	} {
		if day, e := date.Of(x.y, x.m, x.d); day != x.day || e != x.e {
			t.Errorf("Of(%d, %d, %d): %d, %v, want %d, %v", x.y, x.m, x.d, day, e, x.day, x.e)
		}
	}
}

// P3.1
func TestPartsOfNoDay(t *testing.T) {
	for _, day := range someDays() {
		if day == nearest(day) {
			continue
		}
		if y, m, d, e := date.Parts(day); y != 0 || m != 0 || d != 0 || e != api.ErrDateForm {
			t.Errorf("Parts(%d): %d, %d, %d, %v", day, y, m, d, e)
		}
	}
}

// P3.2
func TestPlus(t *testing.T) {
	for _, x := range []struct {
		day  int
		n    int64
		want int
	}{
		{0, 0, 0}, {5, 3, 8}, {5, -3, 2}, {5, -5, 0}, {5, -6, 0}, {0, last, last}, {last, -last, 0}, {0, last + 1, last}, {last, -last - 1, 0},
		{73040, 8, last}, {73040, 9, last}, {73040, 100, last}, {-7, 3, 3}, {last + 7, -3, last - 3}, {-7, -3, 0}, {last + 7, 3, last},
		{math.MinInt, 1, 1}, {math.MaxInt, -1, last - 1}, {math.MinInt, math.MaxInt64, last}, {math.MaxInt, math.MinInt64, 0},
		{100, math.MaxInt64, last}, {100, math.MinInt64, 0}, {math.MaxInt, math.MaxInt64, last}, {math.MinInt, math.MinInt64, 0},
		{100, 1 << 32, last}, {100, -1 << 32, 0},
	} {
		if got := date.Plus(x.day, x.n); got != x.want {
			t.Errorf("Plus(%d, %d): %d, want %d", x.day, x.n, got, x.want)
		}
	}
}

// P3.2: held against whole numbers without limits.
func TestPlusExact(t *testing.T) {
	for _, day := range someDays() {
		for _, other := range someDays() {
			sum := new(big.Int).Add(big.NewInt(int64(nearest(day))), big.NewInt(int64(other)))
			want := 0
			if sum.Cmp(big.NewInt(last)) > 0 {
				want = last
			} else if sum.Sign() > 0 {
				want = int(sum.Int64())
			}
			if got := date.Plus(day, int64(other)); got != want {
				t.Errorf("Plus(%d, %d): %d, want %d", day, other, got, want)
			}
		}
	}
}

// P3.2
func TestMonths(t *testing.T) {
	of := func(y, m, d int) int { return mustOf(t, y, m, d) }
	for _, x := range []struct {
		day  int
		n    int64
		want int
	}{
		{of(2024, 1, 31), 0, of(2024, 1, 31)}, {of(2024, 1, 31), 1, of(2024, 2, 29)}, {of(2023, 1, 31), 1, of(2023, 2, 28)},
		{of(2024, 1, 30), 1, of(2024, 2, 29)}, {of(2024, 1, 29), 1, of(2024, 2, 29)}, {of(2024, 1, 28), 1, of(2024, 2, 28)},
		{of(2000, 1, 31), 1, of(2000, 2, 29)}, {of(1900, 1, 31), 1, of(1900, 2, 28)}, {of(2024, 2, 29), 12, of(2025, 2, 28)},
		{of(2024, 2, 29), 48, of(2028, 2, 29)}, {of(2024, 2, 29), -12, of(2023, 2, 28)}, {of(2024, 3, 31), -1, of(2024, 2, 29)},
		{of(2024, 5, 31), 1, of(2024, 6, 30)}, {of(2024, 6, 30), 1, of(2024, 7, 30)}, {of(2024, 12, 31), 1, of(2025, 1, 31)},
		{of(2024, 1, 31), -1, of(2023, 12, 31)}, {of(2024, 12, 15), -12, of(2023, 12, 15)}, {of(2024, 1, 15), -13, of(2022, 12, 15)},
		{0, -1, 0}, {of(1900, 1, 31), -1, 0}, {of(1900, 2, 28), -1, of(1900, 1, 28)}, {of(1900, 2, 28), -2, 0}, {of(1901, 1, 31), -13, 0},
		{of(2099, 12, 1), 1, last}, {of(2099, 11, 5), 1, of(2099, 12, 5)}, {of(2099, 11, 5), 2, last}, {last, 1, last}, {last, -1, of(2099, 11, 30)},
		{0, 2399, of(2099, 12, 1)}, {0, 2400, last}, {0, 2401, last}, {last, -2399, of(1900, 1, 31)}, {last, -2400, 0}, {last, -2401, 0},
		{-5, 1, of(1900, 2, 1)}, {last + 5, -1, of(2099, 11, 30)}, {math.MinInt, 1, of(1900, 2, 1)}, {math.MaxInt, -1, of(2099, 11, 30)},
		{100, math.MaxInt64, last}, {100, math.MinInt64, 0}, {0, math.MinInt64, 0}, {last, math.MaxInt64, last},
		{math.MaxInt, math.MinInt64, 0}, {math.MinInt, math.MaxInt64, last}, {100, 1 << 32, last}, {100, -1 << 32, 0},
	} {
		if got := date.Months(x.day, x.n); got != x.want {
			t.Errorf("Months(%d, %d): %d, want %d", x.day, x.n, got, x.want)
		}
	}
}

// P3.2: held against the library's calendar.
func TestMonthsByCalendar(t *testing.T) {
	steps := []int{0, 1, 2, 3, 5, 6, 7, 11, 12, 13, 24, 25, 47, 48, 100, 1199, 1200, 1201, 2398, 2399, 2400, 2401, 5000, 1000000}
	for day := 0; day <= last; day += 13 {
		when := first.AddDate(0, 0, day)
		for _, step := range steps {
			for _, n := range []int{step, -step} {
				month := time.Date(when.Year(), when.Month()+time.Month(n), 1, 0, 0, 0, 0, time.UTC)
				days := month.AddDate(0, 1, -1).Day()
				want := int(month.Sub(first).Hours())/24 + min(when.Day(), days) - 1
				if month.Year() < 1900 {
					want = 0
				}
				if month.Year() > 2099 {
					want = last
				}
				if got := date.Months(day, int64(n)); got != want {
					t.Fatalf("Months(%d, %d): %d, want %d", day, n, got, want)
				}
			}
		}
	}
}

// quotient is a / b in millionths, to the nearest, a half to the even one: by floors of whole numbers without limits.
func quotient(a, b int64) int64 {
	n := new(big.Int).Mul(big.NewInt(a), big.NewInt(api.One))
	floor, rest := new(big.Int).DivMod(n, big.NewInt(b), new(big.Int))
	twice := rest.Lsh(rest, 1).Cmp(big.NewInt(b))
	if twice > 0 || twice == 0 && floor.Bit(0) == 1 {
		floor.Add(floor, big.NewInt(1))
	}
	return floor.Int64()
}

// P3.3
func TestYears(t *testing.T) {
	for _, x := range []struct {
		from, to int
		want     int64
	}{
		{0, 0, 0}, {0, 365, 1000000}, {0, 366, 1002740}, {0, 1, 2740}, {1, 0, -2740}, {10, 0, -27397}, {0, 10, 27397}, {100, 830, 2000000},
		{0, last, 200131507}, {last, 0, -200131507}, {-9, 365, 1000000}, {-9, -8, 0}, {last + 9, last + 8, 0}, {last + 9, last - 365, -1000000},
		{math.MinInt, math.MaxInt, 200131507}, {math.MaxInt, math.MinInt, -200131507}, {math.MinInt, 365, 1000000},
	} {
		if got := date.Years(x.from, x.to); got != x.want {
			t.Errorf("Years(%d, %d): %d, want %d", x.from, x.to, got, x.want)
		}
	}
	for _, from := range someDays() {
		for _, to := range someDays() {
			want := quotient(int64(nearest(to)-nearest(from)), 365)
			if got := date.Years(from, to); got != want {
				t.Errorf("Years(%d, %d): %d, want %d", from, to, got, want)
			}
		}
	}
}

// P3.3
func TestYears30(t *testing.T) {
	of := func(y, m, d int) int { return mustOf(t, y, m, d) }
	for _, x := range []struct {
		from, to int
		want     int64
	}{
		{of(2024, 1, 31), of(2024, 3, 31), 166667}, {of(2024, 3, 31), of(2024, 1, 31), -166667}, {of(2024, 1, 15), of(2025, 1, 15), 1000000},
		{of(2024, 1, 30), of(2024, 1, 31), 0}, {of(2024, 1, 29), of(2024, 1, 31), 2778}, {of(2024, 1, 29), of(2024, 1, 30), 2778},
		{of(2024, 1, 31), of(2024, 2, 1), 2778}, {of(2024, 1, 30), of(2024, 2, 1), 2778}, {of(2024, 2, 29), of(2024, 3, 1), 5556},
		{of(2023, 2, 28), of(2023, 3, 1), 8333}, {of(2024, 2, 29), of(2024, 3, 31), 86111}, {of(2024, 12, 31), of(2025, 1, 1), 2778},
		{of(2025, 1, 1), of(2024, 12, 31), -2778}, {of(2025, 1, 1), of(2024, 12, 1), -83333}, {0, last, 199997222}, {last, 0, -199997222},
		{-5, last + 5, 199997222}, {math.MaxInt, math.MinInt, -199997222}, {math.MinInt, 0, 0}, {last, math.MaxInt, 0},
	} {
		if got := date.Years30(x.from, x.to); got != x.want {
			t.Errorf("Years30(%d, %d): %d, want %d", x.from, x.to, got, x.want)
		}
	}
	for _, from := range someDays() {
		for _, to := range someDays() {
			a, b := first.AddDate(0, 0, nearest(from)), first.AddDate(0, 0, nearest(to))
			days := 360*(b.Year()-a.Year()) + 30*int(b.Month()-a.Month()) + min(b.Day(), 30) - min(a.Day(), 30)
			if got, want := date.Years30(from, to), quotient(int64(days), 360); got != want {
				t.Errorf("Years30(%d, %d): %d, want %d", from, to, got, want)
			}
		}
	}
}

// P3.4
func TestPlusAddsUp(t *testing.T) {
	steps := []int64{-last, -36524, -366, -365, -31, -1, 0, 1, 28, 31, 365, 366, 36525, last}
	for day := 0; day <= last; day += 131 {
		for _, a := range steps {
			for _, b := range steps {
				half, whole := int64(day)+a, int64(day)+a+b
				if half < 0 || half > last || whole < 0 || whole > last {
					continue
				}
				if got, want := date.Plus(date.Plus(day, a), b), date.Plus(day, a+b); got != want {
					t.Fatalf("Plus(Plus(%d, %d), %d): %d, want %d", day, a, b, got, want)
				}
			}
		}
	}
}

// P3.4
func TestMonthsByTwelve(t *testing.T) {
	for day := range last + 1 {
		y, m, d, _ := date.Parts(day)
		if m == 2 && d == 29 { // a year later or earlier February has 28
			d = 28
		}
		if later, e := date.Of(y+1, m, d); e == api.OK && date.Months(day, 12) != later {
			t.Fatalf("Months(%d, 12): %d, want %d", day, date.Months(day, 12), later)
		}
		if earlier, e := date.Of(y-1, m, d); e == api.OK && date.Months(day, -12) != earlier {
			t.Fatalf("Months(%d, -12): %d, want %d", day, date.Months(day, -12), earlier)
		}
	}
}

// P3.4
func TestYearsBack(t *testing.T) {
	for _, from := range someDays() {
		for _, to := range someDays() {
			if there, back := date.Years(from, to), date.Years(to, from); there != -back {
				t.Errorf("Years between %d and %d: %d, %d", from, to, there, back)
			}
			if there, back := date.Years30(from, to), date.Years30(to, from); there != -back {
				t.Errorf("Years30 between %d and %d: %d, %d", from, to, there, back)
			}
		}
	}
}
