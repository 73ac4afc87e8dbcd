package date_test

import (
	"strings"
	"testing"
	"time"

	"usance/api"
	"usance/date"
)

// P3.1, P3.4
func TestTextOfEveryDay(t *testing.T) {
	earlier := ""
	for day := range last + 1 {
		text, e := date.Show(day)
		if want := first.AddDate(0, 0, day).Format(time.DateOnly); text != want || e != api.OK {
			t.Fatalf("Show(%d): %q, %v, want %q", day, text, e, want)
		}
		if text <= earlier {
			t.Fatalf("Show(%d): %q, behind %q", day, text, earlier)
		}
		earlier = text
		if got, e := date.Parse(text); got != day || e != api.OK {
			t.Fatalf("Parse(%q): %d, %v, want %d", text, got, e, day)
		}
	}
}

// P3.1
func TestShowNoDay(t *testing.T) {
	for _, day := range someDays() {
		if day == nearest(day) {
			continue
		}
		if text, e := date.Show(day); text != "" || e != api.ErrDateForm {
			t.Errorf("Show(%d): %q, %v", day, text, e)
		}
	}
}

// P3.1
func TestParseNoDate(t *testing.T) {
	for _, s := range []string{
		"", "-", "--", "2026", "2026-11", "2026-11-", "2026-11-1", "2026-1-05", "2026-11-5", "26-11-15", "02026-11-15", "2026-11-015",
		"2026-011-15", "2026-11-15 ", " 2026-11-15", "2026-11-15\n", "2026-11-15\x00", "2026 11 15", "2026/11/15", "20261115", "2026-1115-", "2026-11.15",
		"2026.11-15", "2026-11_15", "15-11-2026", "+026-11-15", "-026-11-15", "2026-+1-15", "2026--1-15", "2026-11--5", "2026-11-+5", "2026-1a-15",
		"2026-11-a5", "2026-11-5a", "a026-11-15", "202a-11-15", "2026-11-1:", "2026-11-/5", "2026- 1-15", "2026-11- 5", "2026-1 -15",
		"2026-00-15", "2026-13-15", "2026-11-00", "2026-11-31", "2026-11-99", "2026-99-15", "1900-02-29", "2023-02-29", "2024-02-30", "2024-04-31",
		"179/-01-01", "184 -11-15", "1899-12-31", "2100-01-01", "0000-00-00", "0000-01-01", "9999-12-31", "2026\u221211\u221215", "２０２６-11-15", "2026-11-1\xff", "2026-11-15T00",
	} {
		if day, e := date.Parse(s); day != 0 || e != api.ErrDateForm {
			t.Errorf("Parse(%q): %d, %v", s, day, e)
		}
	}
	if day, e := date.Parse(strings.Repeat("2026-11-15", 1000)); day != 0 || e != api.ErrDateForm {
		t.Errorf("Parse of a long text: %d, %v", day, e)
	}
}

// P3.4: a text of which one byte is another one is no date, or another day's text.
func TestParseOneByteElse(t *testing.T) {
	for _, right := range []string{"1900-01-01", "2024-02-29", "2026-11-15", "2099-12-31"} {
		for i := range len(right) {
			for c := range 256 {
				s := right[:i] + string([]byte{byte(c)}) + right[i+1:]
				day, e := date.Parse(s)
				if e != api.OK {
					if e != api.ErrDateForm || day != 0 {
						t.Errorf("Parse(%q): %d, %v", s, day, e)
					}
					if _, err := time.Parse(time.DateOnly, s); err == nil && s >= "1900" && s < "2100" {
						t.Errorf("Parse(%q): %v", s, e)
					}
					continue
				}
				if text, _ := date.Show(day); text != s {
					t.Errorf("Parse(%q): %d, which is %q", s, day, text)
				}
			}
		}
	}
}
