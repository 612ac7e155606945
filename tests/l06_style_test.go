package tests

import (
	"fmt"
	"math"
	"regexp"
	"slices"
	"strconv"
	"strings"
	"sync"
	"testing"

	"loop.example/g00638/impl"
)

var styleWords = []string{"jan", "march", "lady", "pisa", "easter", "sept", "yule"}

var otherStyles = []int{-1, -2, -7, 7, 8, 14, 255, 256, 260, 1 << 32, 1<<32 + 4, math.MinInt, math.MinInt + 1, math.MinInt + 4, math.MaxInt - 1, math.MaxInt}

// styleYears have long and short years from Easter to Easter, leap years of one calendar alone and of both, and both ends.
var styleYears = []int{1, 2, 3, 4, 5, 99, 100, 399, 400, 1066, 1299, 1300, 1344, 1345, 1346, 1347, 1348, 1500, 1582, 1699, 1700, 1818, 1899, 1900, 1942, 1943, 1999, 2000, 2023, 2024, 2999, 3000}

var farDays = []int{math.MinInt, math.MinInt + 1, math.MinInt / 2, -1 << 32, -1000000, -1000, 1100000, 2000000, 1 << 32, math.MaxInt / 2, math.MaxInt - 1, math.MaxInt}

// styleHead tells the date on which a year begins; Easter is told as days behind 21 March.
func styleHead(cal, style, y int) impl.Date {
	switch style {
	case impl.YMarch:
		return date(cal, y, 3, 1)
	case impl.YLady:
		return date(cal, y, 3, 25)
	case impl.YPisa:
		return date(cal, y-1, 3, 25)
	case impl.YEaster:
		d := date(cal, y, 3, 21)
		for range gaussEaster(cal, y) {
			d = nextDate(d)
		}
		return d
	case impl.YSept:
		return date(cal, y-1, 9, 1)
	case impl.YYule:
		return date(cal, y-1, 12, 25)
	}
	return date(cal, y, 1, 1)
}

// styleDates are all dates of a year, beyond MinYear and MaxYear too.
func styleDates(cal, style, y int) []impl.Date {
	var list []impl.Date
	end := styleHead(cal, style, y+1)
	for d := styleHead(cal, style, y); d != end; d = nextDate(d) {
		list = append(list, d)
	}
	return list
}

// styleLine walks a calendar from year 0 to the end of year 3001, and gives the day on which each year from 1 on begins, by each style.
func styleLine(cal int) [impl.Styles]map[int]int {
	var line [impl.Styles]map[int]int
	kalends := map[[2]int]int{}
	n := bounds[cal].first - 366 // year 0 has a leap day in both calendars
	for d := date(cal, 0, 1, 1); d.Year <= impl.MaxYear+1; d = nextDate(d) {
		if d.Day == 1 {
			kalends[[2]int{d.Year, d.Month}] = n
		}
		n++
	}
	for style := range impl.Styles {
		line[style] = map[int]int{}
		for y := impl.MinYear; y <= impl.MaxYear+1; y++ {
			d := styleHead(cal, style, y)
			line[style][y] = kalends[[2]int{d.Year, d.Month}] + d.Day - 1
		}
	}
	return line
}

// styleLines is walked but once, and only where a test asks for it.
var styleLines = sync.OnceValue(func() [2][impl.Styles]map[int]int {
	return [2][impl.Styles]map[int]int{styleLine(impl.CJul), styleLine(impl.CGre)}
})

// eachStyle calls f with both calendars and all styles.
func eachStyle(f func(cal, style int)) {
	for _, cal := range calendars {
		for style := range impl.Styles {
			f(cal, style)
		}
	}
}

func askStyleYear(t *testing.T, cal, style, n, y int) {
	t.Helper()
	want, right := y, y >= impl.MinYear && y <= impl.MaxYear
	if !right {
		want = 0
	}
	if got, ok := impl.StyleYear(cal, style, n); got != want || ok != right {
		t.Errorf("StyleYear(%d, %d, %d) = %d, %v, want %d, %v", cal, style, n, got, ok, want, right)
	}
}

func askSolarYears(t *testing.T, cal, style, y, m, d int, want ...int) {
	t.Helper()
	if got := impl.SolarYears(cal, style, y, m, d); !slices.Equal(got, want) {
		t.Errorf("SolarYears(%d, %d, %d, %d, %d) = %v, want %v", cal, style, y, m, d, got, want)
	}
}

func TestStylesAreConstants(t *testing.T) {
	got := []int{impl.YJan, impl.YMarch, impl.YLady, impl.YPisa, impl.YEaster, impl.YSept, impl.YYule, impl.Styles}
	if !slices.Equal(got, []int{0, 1, 2, 3, 4, 5, 6, 7}) {
		t.Error(got)
	}
}

func TestStyleNamesBackAndForth(t *testing.T) {
	for style, word := range styleWords {
		if got := impl.StyleName(style); got != word {
			t.Errorf("StyleName(%d) = %q, want %q", style, got, word)
		}
		if got := impl.StyleOf(word); got != style {
			t.Errorf("StyleOf(%q) = %d, want %d", word, got, style)
		}
	}
	for _, style := range otherStyles {
		if got := impl.StyleName(style); got != "" {
			t.Errorf("StyleName(%d) = %q", style, got)
		}
	}
}

func TestStyleOfNoName(t *testing.T) {
	texts := []string{"", " ", "x", "0", "4", "ja", "mar", "apr", "sep", "september", "january", "Easter", "jan feb", "janmarch", "jan march", "jul", "gre", "ladyday", "christmas", "\x00", "\xff", strings.Repeat("jan", 5000)}
	for _, word := range styleWords {
		texts = append(texts, strings.ToUpper(word), strings.ToUpper(word[:1])+word[1:], word+" ", " "+word, word+"\n", word+"\x00", word[1:], word[:len(word)-1], word+word[:1])
	}
	for _, s := range texts {
		if got := impl.StyleOf(s); got != -1 {
			t.Errorf("StyleOf(%q) = %d, want -1", s, got)
		}
	}
}

func TestYearStartOfEachYear(t *testing.T) {
	eachStyle(func(cal, style int) {
		for y := impl.MinYear; y <= impl.MaxYear; y++ {
			n := impl.YearStart(cal, style, y)
			if want := styleLines()[cal][style][y]; n != want {
				t.Fatalf("YearStart(%d, %d, %d) = %d, want %d", cal, style, y, n, want)
			}
			head := styleHead(cal, style, y)
			if d, ok := impl.DateOf(cal, n); ok != (head.Year >= impl.MinYear) || ok && d != head {
				t.Fatalf("year %d of style %d of calendar %d begins on %v, want %v", y, style, cal, d, head)
			}
		}
	})
}

func TestKnownYearStarts(t *testing.T) {
	cases := []struct{ cal, style, y, m, d, in int }{
		{impl.CJul, impl.YEaster, 1345, 3, 27, 1345}, {impl.CJul, impl.YEaster, 1346, 4, 16, 1346}, {impl.CJul, impl.YEaster, 1347, 4, 1, 1347},
		{impl.CGre, impl.YEaster, 2000, 4, 23, 2000}, {impl.CGre, impl.YEaster, 1818, 3, 22, 1818}, {impl.CGre, impl.YEaster, 1943, 4, 25, 1943}, {impl.CGre, impl.YEaster, 3000, 4, 13, 3000},
		{impl.CJul, impl.YLady, 1752, 3, 25, 1752}, {impl.CJul, impl.YPisa, 1750, 3, 25, 1749}, {impl.CJul, impl.YMarch, 1797, 3, 1, 1797},
		{impl.CJul, impl.YSept, 1453, 9, 1, 1452}, {impl.CJul, impl.YYule, 801, 12, 25, 800}, {impl.CGre, impl.YYule, 1066, 12, 25, 1065}, {impl.CGre, impl.YJan, 1583, 1, 1, 1583},
	}
	for _, c := range cases {
		if got, want := impl.YearStart(c.cal, c.style, c.y), impl.DayOf(date(c.cal, c.in, c.m, c.d)); got != want {
			t.Errorf("YearStart(%d, %d, %d) = %d, want %d", c.cal, c.style, c.y, got, want)
		}
	}
}

// At MinYear the years that begin in the year ahead begin in year 0, on days that have no date.
func TestYearStartAtBothEnds(t *testing.T) {
	first := map[int][]int{impl.CJul: {-1, 58, 82, -283, 84, -123, -8}, impl.CGre: {1, 60, 84, -281, styleLines()[impl.CGre][impl.YEaster][1], -121, -6}}
	last := map[int][]impl.Date{
		impl.CJul: {date(0, 3000, 1, 1), date(0, 3000, 3, 1), date(0, 3000, 3, 25), date(0, 2999, 3, 25), date(0, 3000, 3, 30), date(0, 2999, 9, 1), date(0, 2999, 12, 25)},
		impl.CGre: {date(1, 3000, 1, 1), date(1, 3000, 3, 1), date(1, 3000, 3, 25), date(1, 2999, 3, 25), date(1, 3000, 4, 13), date(1, 2999, 9, 1), date(1, 2999, 12, 25)},
	}
	eachStyle(func(cal, style int) {
		if got, want := impl.YearStart(cal, style, 1), first[cal][style]; got != want {
			t.Errorf("YearStart(%d, %d, 1) = %d, want %d", cal, style, got, want)
		}
		if got, want := impl.YearStart(cal, style, 3000), impl.DayOf(last[cal][style]); got != want {
			t.Errorf("YearStart(%d, %d, 3000) = %d, want %d", cal, style, got, want)
		}
	})
}

// Promise 6: a year's days are those up to the next, whatever that is.
func TestYearDaysReachTheNextYear(t *testing.T) {
	eachStyle(func(cal, style int) {
		for y := impl.MinYear; y <= impl.MaxYear; y++ {
			days := impl.YearDays(cal, style, y)
			if want := styleLines()[cal][style][y+1] - styleLines()[cal][style][y]; days != want {
				t.Fatalf("YearDays(%d, %d, %d) = %d, want %d", cal, style, y, days, want)
			}
			if y < impl.MaxYear && impl.YearStart(cal, style, y)+days != impl.YearStart(cal, style, y+1) {
				t.Fatalf("YearDays(%d, %d, %d) = %d is not up to the next year", cal, style, y, days)
			}
		}
	})
}

func TestKnownYearDays(t *testing.T) {
	cases := []struct {
		cal, y int
		want   []int
	}{
		{impl.CJul, 1, []int{365, 365, 365, 365, 385, 365, 365}},
		{impl.CJul, 1345, []int{365, 365, 365, 365, 385, 365, 365}},
		{impl.CJul, 1346, []int{365, 365, 365, 365, 350, 365, 365}},
		{impl.CJul, 1347, []int{365, 366, 366, 365, 385, 365, 365}},
		{impl.CJul, 1348, []int{366, 365, 365, 366, 357, 366, 366}},
		{impl.CJul, 1900, []int{366, 365, 365, 366, 357, 366, 366}},
		{impl.CGre, 1900, []int{365, 365, 365, 365, 357, 365, 365}},
		{impl.CGre, 1999, []int{365, 366, 366, 365, 385, 365, 365}},
		{impl.CGre, 2000, []int{366, 365, 365, 366, 357, 366, 366}},
		{impl.CJul, 3000, []int{366, 365, 365, 366, 385, 366, 366}},
		{impl.CGre, 3000, []int{365, 365, 365, 365, 357, 365, 365}},
	}
	for _, c := range cases {
		for style, want := range c.want {
			if got := impl.YearDays(c.cal, style, c.y); got != want {
				t.Errorf("YearDays(%d, %d, %d) = %d, want %d", c.cal, style, c.y, got, want)
			}
		}
	}
}

// Promise 6: each day is in the year that has begun.
func TestStyleYearOfEachDay(t *testing.T) {
	eachStyle(func(cal, style int) {
		t.Run(fmt.Sprint(cal, " ", styleWords[style]), func(t *testing.T) {
			t.Parallel()
			heads := styleLines()[cal][style]
			y := 0
			for n := bounds[cal].first; n <= bounds[cal].last && !t.Failed(); n++ {
				for next, ok := heads[y+1]; ok && next <= n; next, ok = heads[y+1] {
					y++
				}
				askStyleYear(t, cal, style, n, y)
			}
		})
	})
}

func TestStyleYearOfTheYearsOwnDays(t *testing.T) {
	eachStyle(func(cal, style int) {
		for y := impl.MinYear + 1; y < impl.MaxYear; y++ {
			first, days := impl.YearStart(cal, style, y), impl.YearDays(cal, style, y)
			askStyleYear(t, cal, style, first-1, y-1)
			for _, k := range []int{0, 1, 30, 60, days / 2, days - 2, days - 1} {
				askStyleYear(t, cal, style, first+k, y)
			}
			askStyleYear(t, cal, style, first+days, y+1)
		}
	})
}

// The first days are in year 0 by styles that begin later, the last ones in 3001 by those that begin in the year ahead.
func TestStyleYearOfTheFirstAndLastDays(t *testing.T) {
	firstIn, lastIn := []int{1, 0, 0, 1, 0, 1, 1}, []int{3000, 3000, 3000, 3001, 3000, 3001, 3001}
	eachStyle(func(cal, style int) {
		b := bounds[cal]
		askStyleYear(t, cal, style, b.first, firstIn[style])
		askStyleYear(t, cal, style, b.last, lastIn[style])
	})
	for _, cal := range calendars {
		for style, y := range map[int]int{impl.YMarch: 1, impl.YLady: 1, impl.YEaster: 1} {
			n := impl.YearStart(cal, style, y)
			askStyleYear(t, cal, style, n-1, 0)
			askStyleYear(t, cal, style, n, 1)
		}
		for style, d := range map[int]impl.Date{impl.YPisa: date(cal, 3000, 3, 25), impl.YSept: date(cal, 3000, 9, 1), impl.YYule: date(cal, 3000, 12, 25)} {
			n := impl.DayOf(d)
			askStyleYear(t, cal, style, n-1, 3000)
			askStyleYear(t, cal, style, n, 3001)
		}
	}
}

func TestStyleYearOfTheLeapDay(t *testing.T) {
	in := []int{1348, 1347, 1347, 1348, 1347, 1348, 1348}
	eachStyle(func(cal, style int) {
		askStyleYear(t, cal, style, impl.DayOf(date(cal, 1348, 2, 29)), in[style])
		askStyleYear(t, cal, style, impl.DayOf(date(cal, 2000, 2, 29)), in[style]+652)
	})
	// Day 0 is 2 January of year 1 of CJul, but no date of CGre.
	askStyleYear(t, impl.CJul, impl.YJan, 0, 1)
	askStyleYear(t, impl.CGre, impl.YPisa, 0, 0)
}

func TestStyleYearOfNoDay(t *testing.T) {
	ask := func(cal, style, n int) {
		t.Helper()
		if y, ok := impl.StyleYear(cal, style, n); y != 0 || ok {
			t.Errorf("StyleYear(%d, %d, %d) = %d, %v", cal, style, n, y, ok)
		}
	}
	eachStyle(func(cal, style int) {
		for i := 1; i <= 400; i++ {
			ask(cal, style, bounds[cal].first-i)
			ask(cal, style, bounds[cal].last+i)
		}
		for _, n := range farDays {
			ask(cal, style, n)
		}
	})
	days := append([]int{-1, 0, 1, 2, 60, 84, 400, 491000, 577736, 730233, 1090000, lastGre, lastJul}, farDays...)
	for _, n := range days {
		for _, style := range otherStyles {
			for _, cal := range append(slices.Clone(calendars), otherCalendars...) {
				ask(cal, style, n)
			}
		}
		for _, cal := range otherCalendars {
			for style := range impl.Styles {
				ask(cal, style, n)
			}
		}
	}
}

// pairsOf counts the pairs of dates with one month and one day.
func pairsOf(dates []impl.Date) int {
	var met [13][32]int
	pairs := 0
	for _, d := range dates {
		pairs += met[d.Month][d.Day]
		met[d.Month][d.Day]++
	}
	return pairs
}

func TestTwinsByAllDays(t *testing.T) {
	eachStyle(func(cal, style int) {
		step := 1
		if style != impl.YEaster {
			step = 23
		}
		for y := impl.MinYear; y <= impl.MaxYear; y += step {
			if got, want := impl.Twins(cal, style, y), pairsOf(styleDates(cal, style, y)); got != want {
				t.Fatalf("Twins(%d, %d, %d) = %d, want %d", cal, style, y, got, want)
			}
		}
		for _, y := range styleYears {
			if got, want := impl.Twins(cal, style, y), pairsOf(styleDates(cal, style, y)); got != want || style != impl.YEaster && got != 0 {
				t.Errorf("Twins(%d, %d, %d) = %d, want %d", cal, style, y, got, want)
			}
		}
	})
}

func TestKnownTwins(t *testing.T) {
	cases := []struct{ cal, y, want int }{
		{impl.CJul, 1345, 20}, {impl.CJul, 1346, 0}, {impl.CJul, 1347, 19}, {impl.CJul, 1348, 0}, {impl.CGre, 1999, 19}, {impl.CGre, 2000, 0},
		// The last year goes on to Easter of 3001: 19 April of CJul, 5 April of CGre.
		{impl.CJul, 3000, 20}, {impl.CGre, 3000, 0},
	}
	for _, c := range cases {
		if got := impl.Twins(c.cal, impl.YEaster, c.y); got != c.want {
			t.Errorf("Twins(%d, YEaster, %d) = %d, want %d", c.cal, c.y, got, c.want)
		}
	}
}

// 1345 goes on to 15 April 1346, so the days from 27 March come twice in it; 1346 lacks those of 1 .. 15 April.
func TestLongAndShortYearsOfEaster(t *testing.T) {
	for day := 27; day <= 31; day++ {
		askSolarYears(t, impl.CJul, impl.YEaster, 1345, 3, day, 1345, 1346)
		askSolarYears(t, impl.CJul, impl.YEaster, 1346, 3, day, 1347)
	}
	for day := 1; day <= 15; day++ {
		askSolarYears(t, impl.CJul, impl.YEaster, 1345, 4, day, 1345, 1346)
		askSolarYears(t, impl.CJul, impl.YEaster, 1346, 4, day)
	}
	for day := 16; day <= 30; day++ {
		askSolarYears(t, impl.CJul, impl.YEaster, 1345, 4, day, 1345)
		askSolarYears(t, impl.CJul, impl.YEaster, 1346, 4, day, 1346)
	}
	for day := 1; day <= 26; day++ {
		askSolarYears(t, impl.CJul, impl.YEaster, 1345, 3, day, 1346)
		askSolarYears(t, impl.CJul, impl.YEaster, 1346, 3, day, 1347)
	}
}

func TestSolarYearsByAllDays(t *testing.T) {
	eachStyle(func(cal, style int) {
		for _, y := range styleYears {
			years := map[[2]int][]int{}
			for _, d := range styleDates(cal, style, y) {
				if d.Year >= impl.MinYear && d.Year <= impl.MaxYear {
					at := [2]int{d.Month, d.Day}
					years[at] = append(years[at], d.Year)
				}
			}
			for m := -1; m <= 14; m++ {
				for d := -1; d <= 33; d++ {
					askSolarYears(t, cal, style, y, m, d, years[[2]int{m, d}]...)
				}
			}
		}
	})
}

func TestSolarYearsOfTheLeapDay(t *testing.T) {
	in := []int{1348, 1347, 1347, 1348, 1347, 1348, 1348}
	for _, cal := range calendars {
		for style, y := range in {
			for k := -3; k <= 3; k++ {
				if k == 0 {
					askSolarYears(t, cal, style, y, 2, 29, 1348)
				} else {
					askSolarYears(t, cal, style, y+k, 2, 29)
				}
			}
		}
	}
	askSolarYears(t, impl.CJul, impl.YJan, 1900, 2, 29, 1900)
	askSolarYears(t, impl.CGre, impl.YJan, 1900, 2, 29)
	askSolarYears(t, impl.CJul, impl.YEaster, 1899, 2, 29, 1900)
	askSolarYears(t, impl.CGre, impl.YEaster, 1899, 2, 29)
}

func TestSolarYearsBeyondBothEnds(t *testing.T) {
	for _, cal := range calendars {
		for _, style := range []int{impl.YPisa, impl.YSept, impl.YYule} {
			askSolarYears(t, cal, style, 1, 12, 31)
			askSolarYears(t, cal, style, 1, 12, 25)
			askSolarYears(t, cal, style, 1, 1, 1, 1)
			askSolarYears(t, cal, style, 2, 12, 31, 1)
		}
		askSolarYears(t, cal, impl.YPisa, 1, 2, 29)
		askSolarYears(t, cal, impl.YPisa, 3000, 12, 31, 2999)
		for _, style := range []int{impl.YMarch, impl.YLady, impl.YEaster} {
			askSolarYears(t, cal, style, 3000, 1, 1)
			askSolarYears(t, cal, style, 3000, 2, 28)
			askSolarYears(t, cal, style, 3000, 12, 31, 3000)
			askSolarYears(t, cal, style, 2999, 1, 1, 3000)
		}
	}
	// 1 April comes twice in the last year of CJul, once in 3001; 5 April does not come in that of CGre.
	askSolarYears(t, impl.CJul, impl.YEaster, 3000, 4, 1, 3000)
	askSolarYears(t, impl.CGre, impl.YEaster, 3000, 4, 5)
	askSolarYears(t, impl.CGre, impl.YEaster, 3000, 4, 4)
	askSolarYears(t, impl.CGre, impl.YEaster, 3000, 4, 13, 3000)
	// Day 0, which other functions answer for what is no date, is 2 January of year 1 of CJul.
	askSolarYears(t, impl.CJul, impl.YJan, 1, 1, 2, 1)
	askSolarYears(t, impl.CJul, impl.YJan, 1, 2, 29)
	askSolarYears(t, impl.CJul, impl.YPisa, 1, 2, 30)
}

func TestSolarYearsOfNoMonthOrDay(t *testing.T) {
	far := []int{math.MinInt, math.MinInt + 1, -1 << 32, -1, 0, 32, 1<<32 + 1, math.MaxInt - 1, math.MaxInt}
	eachStyle(func(cal, style int) {
		for _, y := range []int{1, 2, 1345, 1346, 2999, 3000} {
			for _, n := range far {
				for m := 1; m <= 12; m++ {
					askSolarYears(t, cal, style, y, m, n)
				}
				for d := 1; d <= 31; d++ {
					askSolarYears(t, cal, style, y, n, d)
				}
				askSolarYears(t, cal, style, y, n, n)
			}
		}
	})
}

func askNoYear(t *testing.T, cal, style, y int) {
	t.Helper()
	if n := impl.YearStart(cal, style, y); n != 0 {
		t.Errorf("YearStart(%d, %d, %d) = %d", cal, style, y, n)
	}
	if n := impl.YearDays(cal, style, y); n != 0 {
		t.Errorf("YearDays(%d, %d, %d) = %d", cal, style, y, n)
	}
	if n := impl.Twins(cal, style, y); n != 0 {
		t.Errorf("Twins(%d, %d, %d) = %d", cal, style, y, n)
	}
	for m := 0; m <= 13; m++ {
		for _, d := range []int{0, 1, 2, 25, 28, 29, 31, 32} {
			askSolarYears(t, cal, style, y, m, d)
		}
	}
}

func TestNoYearOrStyleOrCalendar(t *testing.T) {
	allCalendars := append(slices.Clone(calendars), otherCalendars...)
	allStyles := append([]int{0, 1, 2, 3, 4, 5, 6}, otherStyles...)
	for _, cal := range allCalendars {
		for _, style := range allStyles {
			for _, y := range otherYears {
				askNoYear(t, cal, style, y)
			}
			if slices.Contains(otherCalendars, cal) || slices.Contains(otherStyles, style) {
				for _, y := range []int{1, 2, 1345, 1346, 2000, 2999, 3000} {
					askNoYear(t, cal, style, y)
				}
			}
		}
	}
}

func TestSolarYearsIsNewMemory(t *testing.T) {
	one, two := impl.SolarYears(impl.CJul, impl.YEaster, 1345, 4, 1), impl.SolarYears(impl.CJul, impl.YEaster, 1345, 4, 1)
	one[0], two[1] = 7, 8
	if one[1] != 1346 || two[0] != 1345 {
		t.Errorf("answers hang on each other: %v, %v", one, two)
	}
	askSolarYears(t, impl.CJul, impl.YEaster, 1345, 4, 1, 1345, 1346)
}

func askYearText(t *testing.T, y, solar int, want string) {
	t.Helper()
	if got := impl.YearText(y, solar); got != want {
		t.Errorf("YearText(%d, %d) = %q, want %q", y, solar, got, want)
	}
	if gotY, gotSolar, ok := impl.ReadYear(want); gotY != y || gotSolar != solar || !ok {
		t.Errorf("ReadYear(%q) = %d, %d, %v, want %d, %d", want, gotY, gotSolar, ok, y, solar)
	}
}

func TestYearTextComesBack(t *testing.T) {
	for y := 0; y <= 9999; y++ {
		own := strconv.Itoa(y)
		askYearText(t, y, y, own)
		for _, solar := range []int{0, 1, 9, 10, 99, 100, 999, 1000, 1345, 9998, 9999, y - 1, y + 1, 9999 - y} {
			if solar != y && solar >= 0 && solar <= 9999 {
				askYearText(t, y, solar, own+"/"+strconv.Itoa(solar))
			}
		}
	}
	for y := 0; y <= 120; y++ {
		for solar := 0; solar <= 120; solar++ {
			if y != solar {
				askYearText(t, y, solar, strconv.Itoa(y)+"/"+strconv.Itoa(solar))
			}
		}
	}
}

func TestKnownYearTexts(t *testing.T) {
	askYearText(t, 1345, 1346, "1345/1346")
	askYearText(t, 1345, 1345, "1345")
	askYearText(t, 0, 0, "0")
	askYearText(t, 0, 1, "0/1")
	askYearText(t, 1, 0, "1/0")
	askYearText(t, 9999, 9999, "9999")
	askYearText(t, 0, 9999, "0/9999")
	askYearText(t, 9999, 0, "9999/0")
	askYearText(t, 10, 9, "10/9")
}

func TestYearTextOfNoYear(t *testing.T) {
	wrong := []int{-1, -2, -9999, -10000, 10000, 10001, 99999, 1 << 32, 1<<32 + 5, math.MinInt, math.MinInt + 1, math.MinInt + 5, math.MaxInt - 1, math.MaxInt}
	for _, n := range wrong {
		for _, right := range []int{0, 1, 5, 1345, 9999} {
			if a, b := impl.YearText(n, right), impl.YearText(right, n); a != "" || b != "" {
				t.Errorf("YearText of %d and %d: %q, %q", n, right, a, b)
			}
		}
		for _, other := range wrong {
			if got := impl.YearText(n, other); got != "" {
				t.Errorf("YearText(%d, %d) = %q", n, other, got)
			}
		}
	}
}

var noYearTexts = []string{
	"", " ", "/", "//", "x", "year", "5/", "/5", "1345/", "/1345", "1345//1346", "1345/1346/", "/1345/1346", "1/2/3", "1/2/", "/1/", "1345/1346/1347",
	"5/5", "0/0", "9999/9999", "1345/1345", "05", "00", "01345", "1345/01346", "01345/1346", "0/00", "00/1", "00/0", "1/05",
	"+5", "-5", "-0", "+0", "-1", "1345/+1346", "1345/-1346", "+1345/1346", "-1345/1346", "5/-5", "-5/-5", "-1/-1",
	" 5", "5 ", "1 345", "1345 /1346", "1345/ 1346", " 1345/1346", "1345/1346 ", "1345 1346", "5\n", "5/6\n", "\n5", "5\t", "5\x00", "\x005/6", "5\xff",
	"10000", "10000/1", "1/10000", "10000/10000", "9999/10000", "10000/9999", "99999", "999999999", "999999999/1", "1/999999999", "1000000000", "4294968641", "18446744073709551616", "18446744073709552961/1346",
	"1345\\1346", "1345-1346", "1345|1346", "1345,1346", "1345.0", "1e3", "0x5", "0b1", "0o7", "1_000", "1345/x", "x/1345", "MCCCXLV", "jan", "\u0661", "\uff15", "5/\u0666", "5\u20446", "5\u22156",
	strings.Repeat("1", 10000), strings.Repeat("0", 10000), strings.Repeat("/", 10000), strings.Repeat("1/", 5000), "1345/" + strings.Repeat("1", 10000),
}

func TestReadYearOfNoYear(t *testing.T) {
	for _, s := range noYearTexts {
		if y, solar, ok := impl.ReadYear(s); y != 0 || solar != 0 || ok {
			t.Errorf("ReadYear(%q) = %d, %d, %v", s, y, solar, ok)
		}
	}
}

var yearShape = regexp.MustCompile(`\A(0|[1-9][0-9]{0,3})(?:/(0|[1-9][0-9]{0,3}))?\z`)

// askReadYear holds an answer against the shape of a text.
func askReadYear(t *testing.T, s string) {
	t.Helper()
	y, solar, right := 0, 0, false
	if parts := yearShape.FindStringSubmatch(s); parts != nil && parts[1] != parts[2] {
		right = true
		y, _ = strconv.Atoi(parts[1])
		solar = y
		if parts[2] != "" {
			solar, _ = strconv.Atoi(parts[2])
		}
	}
	if gotY, gotSolar, ok := impl.ReadYear(s); gotY != y || gotSolar != solar || ok != right {
		t.Errorf("ReadYear(%q) = %d, %d, %v, want %d, %d, %v", s, gotY, gotSolar, ok, y, solar, right)
	}
}

func TestReadYearOfAllShortTexts(t *testing.T) {
	eachText("0129/", 6, func(s string) { askReadYear(t, s) })
	eachText("01/ -+x", 5, func(s string) { askReadYear(t, s) })
}

// Texts that are a byte away from right ones.
func TestReadYearOfTextsBeside(t *testing.T) {
	for _, s := range []string{"0", "5", "1345", "9999", "0/1", "1/0", "5/15", "1345/1346", "9999/999", "1000/100", "9998/9999"} {
		for i := 0; i <= len(s); i++ {
			for c := range 256 {
				b := string([]byte{byte(c)})
				askReadYear(t, s[:i]+b+s[i:])
				if i < len(s) {
					askReadYear(t, s[:i]+b+s[i+1:])
				}
			}
			if i < len(s) {
				askReadYear(t, s[:i]+s[i+1:])
			}
		}
	}
}
