package tests

import (
	"math"
	"math/big"
	"testing"
	"time"

	"loop.example/g00638/impl"
)

const (
	firstJul = -1
	lastJul  = 1095748
	firstGre = 1
	lastGre  = 1095727
)

// bounds of the days that each calendar has a date for.
var bounds = []struct{ cal, first, last int }{{impl.CJul, firstJul, lastJul}, {impl.CGre, firstGre, lastGre}}

var calendars = []int{impl.CJul, impl.CGre}

var otherCalendars = []int{-1, 2, 3, 256, math.MinInt, math.MinInt + 1, math.MaxInt}

func date(cal, y, m, d int) impl.Date {
	return impl.Date{Cal: cal, Year: y, Month: m, Day: d}
}

// leapByBig is the rule in numbers that have no end.
func leapByBig(cal, y int) bool {
	by := func(n int64) bool {
		return new(big.Int).Mod(big.NewInt(int64(y)), big.NewInt(n)).Sign() == 0
	}
	if cal == impl.CJul {
		return by(4)
	}
	return by(400) || by(4) && !by(100)
}

// nextDate walks on by a day, by a rule of its own.
func nextDate(d impl.Date) impl.Date {
	lengths := []int{31, 28, 31, 30, 31, 30, 31, 31, 30, 31, 30, 31}
	if leapByBig(d.Cal, d.Year) {
		lengths[1] = 29
	}
	d.Day++
	if d.Day > lengths[d.Month-1] {
		d.Day, d.Month = 1, d.Month+1
	}
	if d.Month > 12 {
		d.Month, d.Year = 1, d.Year+1
	}
	return d
}

func TestLeapByFourHundredAndFourHundred(t *testing.T) {
	cases := []struct {
		y        int
		jul, gre bool
	}{
		{1, false, false}, {2, false, false}, {3, false, false}, {4, true, true}, {96, true, true},
		{100, true, false}, {200, true, false}, {300, true, false}, {400, true, true}, {404, true, true},
		{1500, true, false}, {1600, true, true}, {1700, true, false}, {1899, false, false}, {1900, true, false},
		{2000, true, true}, {2100, true, false}, {3000, true, false},
		{0, true, true}, {-1, false, false}, {-2, false, false}, {-3, false, false}, {-4, true, true},
		{-100, true, false}, {-200, true, false}, {-399, false, false}, {-400, true, true}, {-800, true, true},
	}
	for _, c := range cases {
		if got := impl.Leap(impl.CJul, c.y); got != c.jul {
			t.Errorf("Leap(CJul, %d) = %v", c.y, got)
		}
		if got := impl.Leap(impl.CGre, c.y); got != c.gre {
			t.Errorf("Leap(CGre, %d) = %v", c.y, got)
		}
	}
}

func TestLeapAtAnyYear(t *testing.T) {
	for _, middle := range []int{math.MinInt + 900, 0, math.MaxInt - 900} {
		for y := middle - 900; ; y++ {
			for _, cal := range calendars {
				if got, want := impl.Leap(cal, y), leapByBig(cal, y); got != want {
					t.Errorf("Leap(%d, %d) = %v", cal, y, got)
				}
				february := 28
				if leapByBig(cal, y) {
					february = 29
				}
				if got := impl.MonthDays(cal, y, 2); got != february {
					t.Errorf("MonthDays(%d, %d, 2) = %d", cal, y, got)
				}
			}
			if y == middle+900 {
				break
			}
		}
	}
}

func TestMonthDaysOfEachMonth(t *testing.T) {
	want := []int{31, 0, 31, 30, 31, 30, 31, 31, 30, 31, 30, 31}
	for _, cal := range calendars {
		for _, y := range []int{math.MinInt, -4, 0, 1, 4, 1900, 2000, 3001, math.MaxInt} {
			for i, n := range want {
				if got := impl.MonthDays(cal, y, i+1); n != 0 && got != n {
					t.Errorf("MonthDays(%d, %d, %d) = %d, want %d", cal, y, i+1, got, n)
				}
			}
			for _, m := range []int{0, 13, -1, 14, math.MinInt, math.MaxInt} {
				if got := impl.MonthDays(cal, y, m); got != 0 {
					t.Errorf("MonthDays(%d, %d, %d) = %d, want 0", cal, y, m, got)
				}
			}
		}
	}
}

func TestOtherCalendars(t *testing.T) {
	for _, cal := range otherCalendars {
		for _, y := range []int{-4, 0, 1, 4, 2000} {
			if impl.Leap(cal, y) {
				t.Errorf("Leap(%d, %d)", cal, y)
			}
			for m := 0; m <= 13; m++ {
				if got := impl.MonthDays(cal, y, m); got != 0 {
					t.Errorf("MonthDays(%d, %d, %d) = %d", cal, y, m, got)
				}
			}
		}
		for _, n := range []int{-2, -1, 0, 1, 577736, lastGre, lastJul} {
			if got, ok := impl.DateOf(cal, n); ok || got != (impl.Date{}) {
				t.Errorf("DateOf(%d, %d) = %v, %v", cal, n, got, ok)
			}
		}
		d := date(cal, 1582, 10, 15)
		if impl.DateOk(d) || impl.DayOf(d) != 0 || impl.DayInYear(d) != 0 {
			t.Errorf("%v is taken for a date", d)
		}
		if got := impl.CalName(cal); got != "" {
			t.Errorf("CalName(%d) = %q", cal, got)
		}
	}
	if jul, gre := impl.CalName(impl.CJul), impl.CalName(impl.CGre); jul != "jul" || gre != "gre" {
		t.Errorf("CalName: %q and %q", jul, gre)
	}
}

func TestEachDayOfBothCalendars(t *testing.T) {
	for _, b := range bounds {
		want := date(b.cal, 1, 1, 1)
		inYear := 0
		for n := b.first; n <= b.last; n++ {
			if want.Month == 1 && want.Day == 1 {
				inYear = 0
			}
			inYear++
			got, ok := impl.DateOf(b.cal, n)
			if !ok || got != want {
				t.Fatalf("DateOf(%d, %d) = %v, %v, want %v", b.cal, n, got, ok, want)
			}
			if !impl.DateOk(want) {
				t.Fatalf("DateOk(%v) is false", want)
			}
			if day := impl.DayOf(want); day != n {
				t.Fatalf("DayOf(%v) = %d, want %d", want, day, n)
			}
			if got := impl.DayInYear(want); got != inYear {
				t.Fatalf("DayInYear(%v) = %d, want %d", want, got, inYear)
			}
			want = nextDate(want)
		}
		if want != date(b.cal, impl.MaxYear+1, 1, 1) {
			t.Errorf("the last day of %d is not the last of MaxYear, but ahead of %v", b.cal, want)
		}
	}
}

func TestGregorianByTheLibrary(t *testing.T) {
	for n := firstGre; n <= lastGre; n += 13 {
		when := time.Date(1, 1, n, 0, 0, 0, 0, time.UTC)
		got, ok := impl.DateOf(impl.CGre, n)
		if !ok || got != date(impl.CGre, when.Year(), int(when.Month()), when.Day()) {
			t.Fatalf("DateOf(CGre, %d) = %v, %v, want %v", n, got, ok, when)
		}
		if w := impl.Weekday(n); w != int(when.Weekday()) {
			t.Fatalf("Weekday(%d) = %d, want %v", n, w, when.Weekday())
		}
		if got := impl.DayInYear(got); got != when.YearDay() {
			t.Fatalf("DayInYear of day %d = %d, want %d", n, got, when.YearDay())
		}
	}
}

func TestKnownDays(t *testing.T) {
	cases := []struct {
		d impl.Date
		n int
	}{
		{date(impl.CGre, 1, 1, 1), 1}, {date(impl.CGre, 1, 1, 2), 2},
		{date(impl.CJul, 1, 1, 1), -1}, {date(impl.CJul, 1, 1, 2), 0}, {date(impl.CJul, 1, 1, 3), 1},
		{date(impl.CJul, 1582, 10, 4), 577735}, {date(impl.CGre, 1582, 10, 15), 577736}, {date(impl.CJul, 1582, 10, 5), 577736},
		{date(impl.CJul, 1752, 9, 2), 639796}, {date(impl.CGre, 1752, 9, 14), 639797},
		{date(impl.CGre, 1970, 1, 1), 719163}, {date(impl.CGre, 2000, 2, 29), 730179}, {date(impl.CGre, 2000, 3, 1), 730180},
		{date(impl.CGre, 1900, 2, 28), 693654}, {date(impl.CGre, 1900, 3, 1), 693655},
		{date(impl.CJul, 1900, 2, 28), 693666}, {date(impl.CJul, 1900, 2, 29), 693667}, {date(impl.CJul, 1900, 3, 1), 693668},
		{date(impl.CGre, 3000, 12, 31), lastGre}, {date(impl.CJul, 3000, 12, 31), lastJul},
	}
	for _, c := range cases {
		if got := impl.DayOf(c.d); got != c.n {
			t.Errorf("DayOf(%v) = %d, want %d", c.d, got, c.n)
		}
		if got, ok := impl.DateOf(c.d.Cal, c.n); !ok || got != c.d {
			t.Errorf("DateOf(%d, %d) = %v, %v, want %v", c.d.Cal, c.n, got, ok, c.d)
		}
	}
}

func TestDaysBeyondBothEnds(t *testing.T) {
	for _, b := range bounds {
		for _, n := range []int{b.first, b.first + 1, b.last - 1, b.last} {
			if got, ok := impl.DateOf(b.cal, n); !ok || !impl.DateOk(got) {
				t.Errorf("DateOf(%d, %d) = %v, %v", b.cal, n, got, ok)
			}
		}
		none := []int{b.first - 1, b.first - 2, b.first - 366, b.last + 1, b.last + 2, b.last + 366, -577736, 2000000}
		none = append(none, math.MinInt, math.MinInt+1, math.MinInt/2, math.MaxInt/2, math.MaxInt-1, math.MaxInt)
		for shift := 22; shift < 63; shift++ {
			none = append(none, 1<<shift, -1<<shift, 1<<shift+577736)
		}
		for _, n := range none {
			if got, ok := impl.DateOf(b.cal, n); ok || got != (impl.Date{}) {
				t.Errorf("DateOf(%d, %d) = %v, %v, want none", b.cal, n, got, ok)
			}
		}
	}
	for _, n := range []int{-1, 0} {
		if got, ok := impl.DateOf(impl.CGre, n); ok || got != (impl.Date{}) {
			t.Errorf("DateOf(CGre, %d) = %v, %v", n, got, ok)
		}
	}
	if got, ok := impl.DateOf(impl.CJul, -2); ok || got != (impl.Date{}) {
		t.Errorf("DateOf(CJul, -2) = %v, %v", got, ok)
	}
}

func TestWhatIsNoDate(t *testing.T) {
	var wrong []impl.Date
	for _, cal := range calendars {
		wrong = append(wrong,
			date(cal, impl.MinYear-1, 12, 31), date(cal, impl.MaxYear+1, 1, 1), date(cal, -4, 1, 1), date(cal, 0, 2, 29),
			date(cal, math.MinInt, 1, 1), date(cal, math.MaxInt, 1, 1),
			date(cal, 1500, 0, 1), date(cal, 1500, 13, 1), date(cal, 1500, -1, 1), date(cal, 1500, math.MaxInt, 1), date(cal, 1500, math.MinInt, 1),
			date(cal, 1500, 2, 30), date(cal, 1501, 2, 29), date(cal, 2000, 2, 30), date(cal, 1500, 0, 0), date(cal, 1500, 13, 0),
			date(cal, 1500, 1, math.MinInt), date(cal, 1500, 1, math.MaxInt),
		)
		for m := 1; m <= 12; m++ {
			wrong = append(wrong, date(cal, 1500, m, 0), date(cal, 1500, m, -1), date(cal, 1500, m, 32), date(cal, 1500, m, impl.MonthDays(cal, 1500, m)+1))
		}
	}
	for _, y := range []int{100, 1500, 1700, 1900, 3000} {
		wrong = append(wrong, date(impl.CGre, y, 2, 29))
		if !impl.DateOk(date(impl.CJul, y, 2, 29)) {
			t.Errorf("29 February %d is no date of CJul", y)
		}
	}
	good := date(impl.CGre, 1582, 10, 15)
	for _, d := range wrong {
		if impl.DateOk(d) {
			t.Errorf("DateOk(%v)", d)
		}
		if n := impl.DayOf(d); n != 0 {
			t.Errorf("DayOf(%v) = %d", d, n)
		}
		if n := impl.DayInYear(d); n != 0 {
			t.Errorf("DayInYear(%v) = %d", d, n)
		}
		if impl.CompareDates(d, good) != 0 || impl.CompareDates(good, d) != 0 || impl.CompareDates(d, d) != 0 {
			t.Errorf("%v is compared", d)
		}
	}
}

func TestYearsAtBothEnds(t *testing.T) {
	for _, b := range bounds {
		first, last := date(b.cal, impl.MinYear, 1, 1), date(b.cal, impl.MaxYear, 12, 31)
		if !impl.DateOk(first) || impl.DayOf(first) != b.first || !impl.DateOk(last) || impl.DayOf(last) != b.last {
			t.Errorf("the ends of %d: days %d and %d", b.cal, impl.DayOf(first), impl.DayOf(last))
		}
	}
}

func TestDateOkByMonthDays(t *testing.T) {
	for _, cal := range []int{-1, impl.CJul, impl.CGre, 2} {
		for _, y := range []int{0, 1, 4, 100, 400, 1582, 1900, 2000, 3000, 3001} {
			for m := -1; m <= 14; m++ {
				for d := -1; d <= 33; d++ {
					want := y >= 1 && y <= 3000 && d >= 1 && d <= impl.MonthDays(cal, y, m)
					if got := impl.DateOk(date(cal, y, m, d)); got != want {
						t.Errorf("DateOk(%v) = %v", date(cal, y, m, d), got)
					}
				}
			}
		}
	}
}

func TestWeekdays(t *testing.T) {
	names := []string{"sun", "mon", "tue", "wed", "thu", "fri", "sat"}
	for i, name := range names {
		if got := impl.WeekdayName(i); got != name {
			t.Errorf("WeekdayName(%d) = %q", i, got)
		}
		for _, n := range []int{i, i - 7, i + 7, i - 700, i + 577500, i - 7000007} {
			if got := impl.Weekday(n); got != i {
				t.Errorf("Weekday(%d) = %d, want %d", n, got, i)
			}
		}
	}
	for _, w := range []int{-1, 7, 8, -7, math.MinInt, math.MaxInt} {
		if got := impl.WeekdayName(w); got != "" {
			t.Errorf("WeekdayName(%d) = %q", w, got)
		}
	}
	for _, n := range []int{math.MinInt, math.MinInt + 1, math.MinInt + 6, -8, -7, -1, 0, 1, math.MaxInt - 1, math.MaxInt} {
		want := new(big.Int).Mod(big.NewInt(int64(n)), big.NewInt(7)).Int64()
		if got := impl.Weekday(n); int64(got) != want {
			t.Errorf("Weekday(%d) = %d, want %d", n, got, want)
		}
	}
	if impl.WeekdayName(impl.Weekday(impl.DayOf(date(impl.CJul, 1066, 10, 14)))) != "sat" {
		t.Error("14 October 1066 was a Saturday")
	}
}

func TestDayInYear(t *testing.T) {
	cases := []struct {
		d impl.Date
		n int
	}{
		{date(impl.CGre, 1900, 1, 1), 1}, {date(impl.CGre, 1900, 2, 28), 59}, {date(impl.CGre, 1900, 3, 1), 60}, {date(impl.CGre, 1900, 12, 31), 365},
		{date(impl.CJul, 1900, 2, 29), 60}, {date(impl.CJul, 1900, 3, 1), 61}, {date(impl.CJul, 1900, 12, 31), 366},
		{date(impl.CGre, 2000, 12, 31), 366}, {date(impl.CJul, 1, 12, 31), 365}, {date(impl.CGre, 3000, 12, 31), 365}, {impl.Date{}, 0},
	}
	for _, c := range cases {
		if got := impl.DayInYear(c.d); got != c.n {
			t.Errorf("DayInYear(%v) = %d, want %d", c.d, got, c.n)
		}
	}
}

func TestApart(t *testing.T) {
	cases := []struct{ y, m, d, n int }{
		{1, 1, 1, -2}, {1, 1, 2, -2}, {100, 2, 28, -2}, {100, 3, 1, -1}, {200, 2, 28, -1}, {200, 3, 1, 0}, {300, 2, 28, 0}, {300, 3, 1, 1},
		{400, 2, 29, 1}, {400, 3, 1, 1}, {1582, 10, 15, 10}, {1600, 2, 29, 10}, {1600, 3, 1, 10}, {1700, 2, 28, 10}, {1700, 3, 1, 11},
		{1752, 9, 14, 11}, {1900, 2, 28, 12}, {1900, 3, 1, 13}, {2000, 2, 29, 13}, {2100, 3, 1, 14}, {3000, 12, 31, 21},
		{100, 2, 29, 0}, {1900, 2, 29, 0}, {1900, 2, 30, 0}, {1900, 13, 1, 0}, {1900, 0, 1, 0}, {1900, 1, 0, 0}, {1900, 1, 32, 0}, {0, 1, 1, 0},
		{3001, 1, 1, 0}, {math.MinInt, math.MinInt, math.MinInt, 0}, {math.MaxInt, math.MaxInt, math.MaxInt, 0},
	}
	for _, c := range cases {
		if got := impl.Apart(c.y, c.m, c.d); got != c.n {
			t.Errorf("Apart(%d, %d, %d) = %d, want %d", c.y, c.m, c.d, got, c.n)
		}
	}
}

func TestDatesInTheOrderOfTheirDays(t *testing.T) {
	days := []int{-1, 0, 1, 2, 3, 58, 59, 60, 61, 365, 366, 367, 1459, 1460, 1461, 577735, 577736, 577737, 693654, 693655, 693667, lastGre - 1, lastGre, lastGre + 1, lastJul}
	for _, a := range days {
		for _, b := range days {
			want := 0
			if a < b {
				want = -1
			} else if a > b {
				want = 1
			}
			for _, one := range calendars {
				for _, other := range calendars {
					x, okX := impl.DateOf(one, a)
					y, okY := impl.DateOf(other, b)
					if !okX || !okY {
						continue
					}
					if got := impl.CompareDates(x, y); got != want {
						t.Errorf("CompareDates(%v, %v) = %d, want %d", x, y, got, want)
					}
				}
			}
		}
	}
	if impl.CompareDates(impl.Date{}, impl.Date{}) != 0 || impl.CompareDates(date(2, 1500, 1, 1), date(impl.CGre, 1501, 1, 1)) != 0 {
		t.Error("what is no date is compared")
	}
	if impl.CompareDates(date(impl.CJul, 1, 1, 2), date(impl.CGre, 1, 1, 1)) != -1 || impl.CompareDates(date(impl.CGre, 1, 1, 1), date(impl.CJul, 1, 1, 2)) != 1 {
		t.Error("day 0 is a date of CJul, ahead of day 1")
	}
}
