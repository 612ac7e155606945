package tests

import (
	"fmt"
	"math"
	"slices"
	"strings"
	"testing"

	"loop.example/g00638/impl"
)

var rules = []int{impl.RDay, impl.RStyle}

var otherRules = []int{-1, 2, 3, 256, 1 << 32, 1<<32 + 1, math.MinInt, math.MinInt + 1, math.MaxInt - 1, math.MaxInt}

func julDay(y, m, d int) int { return impl.DayOf(date(impl.CJul, y, m, d)) }

func greDay(y, m, d int) int { return impl.DayOf(date(impl.CGre, y, m, d)) }

// englishReigns touch; between the last two there is one day, and more between the two ahead of these.
var englishReigns = []impl.Reign{
	{Name: "edward", From: julDay(1327, 1, 25), To: julDay(1377, 6, 21)},
	{Name: "richard", From: julDay(1377, 6, 22), To: julDay(1399, 9, 29)},
	{Name: "bolingbroke", From: julDay(1399, 9, 30), To: julDay(1413, 3, 20)},
	{Name: "henry", From: julDay(1413, 3, 21), To: julDay(1422, 8, 31)},
	{Name: "edmund", From: julDay(1424, 2, 29), To: julDay(1430, 3, 1)},
	{Name: "margaret", From: julDay(1430, 3, 3), To: julDay(1430, 3, 3)},
}

// shortReigns have at most 4000 days: they begin on 29 February of either calendar, around it, and around the days on which years begin.
var shortReigns = []impl.Reign{
	{Name: "day", From: 500000, To: 500000},
	{Name: "twodays", From: julDay(1345, 12, 31), To: julDay(1346, 1, 1)},
	{Name: "otto", From: julDay(1344, 2, 29), To: julDay(1348, 3, 1)},
	{Name: "leapjul", From: julDay(1496, 2, 29), To: julDay(1505, 3, 2)},
	{Name: "alonejul", From: julDay(1500, 2, 29), To: julDay(1509, 3, 2)},
	{Name: "leapgre", From: greDay(1896, 2, 29), To: greDay(1905, 3, 2)},
	{Name: "leapboth", From: greDay(2000, 2, 29), To: greDay(2009, 3, 2)},
	{Name: "eve", From: greDay(1896, 2, 28), To: greDay(1904, 2, 29)},
	{Name: "morrow", From: greDay(1896, 3, 1), To: greDay(1904, 3, 1)},
	{Name: "january", From: julDay(1299, 1, 1), To: julDay(1302, 1, 1)},
	{Name: "december", From: julDay(1299, 12, 31), To: julDay(1302, 12, 31)},
	{Name: "lady", From: julDay(1345, 3, 25), To: julDay(1350, 3, 24)},
	{Name: "easter", From: impl.Easter(impl.CJul, 1345), To: impl.Easter(impl.CJul, 1349) - 1},
	{Name: "sept", From: greDay(1752, 9, 1), To: greDay(1756, 8, 31)},
	{Name: "yule", From: greDay(1800, 12, 25), To: greDay(1803, 12, 26)},
	{Name: "most", From: julDay(1066, 12, 25), To: julDay(1066, 12, 25) + 3999},
	{Name: "first", From: firstGre, To: firstGre + 3999},
	{Name: "last", From: lastGre - 3999, To: lastGre},
}

// longReigns have more than 4000 days.
var longReigns = []impl.Reign{
	{Name: "onemore", From: julDay(1066, 12, 25), To: julDay(1066, 12, 25) + 4000},
	{Name: "louis", From: greDay(1643, 5, 14), To: greDay(1715, 9, 1)},
	{Name: "leap", From: greDay(1680, 2, 29), To: greDay(1801, 3, 2)},
}

// reignYears walks through a reign: by RDay it counts the days that have From's month and day, by RStyle it asks StyleYear.
func reignYears(cal, style, rule int, r impl.Reign) []int {
	var years []int
	first, begun := impl.DateOf(cal, r.From)
	start, styled := impl.StyleYear(cal, style, r.From)
	d, k := first, 1
	for n := r.From; n <= r.To; n++ {
		y, ok := impl.StyleYear(cal, style, n)
		switch {
		case rule == impl.RStyle && styled && ok:
			years = append(years, 1+y-start)
		case rule == impl.RDay && begun && d.Year <= impl.MaxYear:
			if n > r.From && comesAgain(first, d) {
				k++
			}
			years = append(years, k)
		default:
			years = append(years, 0)
		}
		d = nextDate(d)
	}
	return years
}

func comesAgain(first, d impl.Date) bool {
	if first.Month == 2 && first.Day == 29 && !leapByBig(d.Cal, d.Year) {
		return d.Month == 3 && d.Day == 1
	}
	return d.Month == first.Month && d.Day == first.Day
}

// eachCount calls f with both calendars, all styles and both rules.
func eachCount(f func(cal, style, rule int)) {
	eachStyle(func(cal, style int) {
		for _, rule := range rules {
			f(cal, style, rule)
		}
	})
}

// eachWrongCount calls f where the calendar, the style or the rule is none.
func eachWrongCount(f func(cal, style, rule int)) {
	eachCount(func(cal, style, rule int) {
		for _, other := range otherCalendars {
			f(other, style, rule)
		}
		for _, other := range otherStyles {
			f(cal, other, rule)
		}
		for _, other := range otherRules {
			f(cal, style, other)
		}
	})
}

func askReignYear(t *testing.T, cal, style, rule int, r impl.Reign, n, want int) {
	t.Helper()
	if got := impl.ReignYear(cal, style, rule, r, n); got != want {
		t.Errorf("ReignYear(%d, %d, %d, %v, %d) = %d, want %d", cal, style, rule, r, n, got, want)
	}
}

func askLastYear(t *testing.T, cal, style, rule int, r impl.Reign, want int) {
	t.Helper()
	if got := impl.LastYear(cal, style, rule, r); got != want {
		t.Errorf("LastYear(%d, %d, %d, %v) = %d, want %d", cal, style, rule, r, got, want)
	}
}

func askReignDays(t *testing.T, cal, style, rule int, r impl.Reign, k int, want ...int) {
	t.Helper()
	if got := impl.ReignDays(cal, style, rule, r, k); !slices.Equal(got, want) {
		t.Errorf("ReignDays(%d, %d, %d, %v, %d) = %v, want %v", cal, style, rule, r, k, got, want)
	}
}

func askReignText(t *testing.T, cal, style, rule int, list []impl.Reign, n int, want string) {
	t.Helper()
	if got := impl.ReignText(cal, style, rule, list, n); got != want {
		t.Errorf("ReignText(%d, %d, %d, %v, %d) = %q, want %q", cal, style, rule, list, n, got, want)
	}
}

func askReadReign(t *testing.T, list []impl.Reign, s string, at, year int) {
	t.Helper()
	if i, k := impl.ReadReign(list, s); i != at || k != year {
		t.Errorf("ReadReign(%v, %q) = %d, %d, want %d, %d", list, s, i, k, at, year)
	}
}

func askGaps(t *testing.T, list []impl.Reign, from, to int, want ...[2]int) {
	t.Helper()
	if got := impl.Gaps(list, from, to); !slices.Equal(got, want) {
		t.Errorf("Gaps(%v, %d, %d) = %v, want %v", list, from, to, got, want)
	}
}

// reignOn is the number of the reign that has day n, or -1.
func reignOn(list []impl.Reign, n int) int {
	return slices.IndexFunc(list, func(r impl.Reign) bool { return r.From <= n && r.To >= n })
}

// gapRuns goes through the days one by one.
func gapRuns(list []impl.Reign, from, to int) [][2]int {
	var runs [][2]int
	for n := from; n <= to; n++ {
		last := len(runs) - 1
		switch {
		case reignOn(list, n) >= 0:
		case last >= 0 && runs[last][1] == n-1:
			runs[last][1] = n
		default:
			runs = append(runs, [2]int{n, n})
		}
	}
	return runs
}

func TestRulesAreConstants(t *testing.T) {
	if impl.RDay != 0 || impl.RStyle != 1 || impl.MaxReigns != 30 {
		t.Error(impl.RDay, impl.RStyle, impl.MaxReigns)
	}
}

// Promise 8: the years of a reign are one behind the other, from 1 on.
func TestReignYearOfEachDay(t *testing.T) {
	for _, r := range slices.Concat(shortReigns, longReigns, englishReigns) {
		t.Run(r.Name, func(t *testing.T) {
			t.Parallel()
			eachCount(func(cal, style, rule int) { walkReign(t, cal, style, rule, r) })
		})
	}
}

func walkReign(t *testing.T, cal, style, rule int, r impl.Reign) {
	years := reignYears(cal, style, rule, r)
	for i, want := range years {
		askReignYear(t, cal, style, rule, r, r.From+i, want)
		if step := want - years[max(i-1, 0)]; want > 0 && (step < 0 || step > 1) {
			t.Errorf("year %d of %v by %d, %d, %d goes on by %d", want, r, cal, style, rule, step)
		}
	}
	askLastYear(t, cal, style, rule, r, years[len(years)-1])
	if _, ok := impl.StyleYear(cal, style, r.From); (ok || rule == impl.RDay) && years[0] != 1 {
		t.Errorf("%v by %d, %d, %d begins with %d", r, cal, style, rule, years[0])
	}
	for i := 1; i <= 400; i++ {
		askReignYear(t, cal, style, rule, r, r.From-i, 0)
		askReignYear(t, cal, style, rule, r, r.To+i, 0)
	}
}

// One reign of all days that both calendars have.
func TestReignYearOfTheWholeLine(t *testing.T) {
	r := impl.Reign{Name: "all", From: firstGre, To: lastGre}
	for _, cal := range calendars {
		for _, rule := range rules {
			t.Run(fmt.Sprint(cal, " ", rule), func(t *testing.T) {
				t.Parallel()
				for i, want := range reignYears(cal, impl.YJan, rule, r) {
					if got := impl.ReignYear(cal, impl.YJan, rule, r, r.From+i); got != want {
						t.Fatalf("ReignYear of day %d: %d, want %d", r.From+i, got, want)
					}
				}
				askLastYear(t, cal, impl.YJan, rule, r, 3000)
			})
		}
	}
}

func TestKnownReignYears(t *testing.T) {
	edward, richard := englishReigns[0], englishReigns[1]
	cases := []struct {
		r                    impl.Reign
		n, rule, style, want int
	}{
		{edward, julDay(1327, 1, 25), impl.RDay, 0, 1}, {edward, julDay(1328, 1, 24), impl.RDay, 0, 1}, {edward, julDay(1328, 1, 25), impl.RDay, 0, 2},
		{edward, julDay(1376, 12, 31), impl.RDay, 0, 50}, {edward, julDay(1377, 1, 24), impl.RDay, 0, 50}, {edward, julDay(1377, 1, 25), impl.RDay, 0, 51}, {edward, julDay(1377, 6, 21), impl.RDay, 0, 51},
		{richard, julDay(1399, 6, 21), impl.RDay, 0, 22}, {richard, julDay(1399, 6, 22), impl.RDay, 0, 23}, {richard, julDay(1399, 9, 29), impl.RDay, 0, 23},
		{edward, julDay(1327, 12, 31), impl.RStyle, impl.YJan, 1}, {edward, julDay(1328, 1, 1), impl.RStyle, impl.YJan, 2},
		{edward, julDay(1327, 3, 24), impl.RStyle, impl.YLady, 1}, {edward, julDay(1327, 3, 25), impl.RStyle, impl.YLady, 2}, {edward, julDay(1377, 6, 21), impl.RStyle, impl.YLady, 52},
		{edward, julDay(1327, 8, 31), impl.RStyle, impl.YSept, 1}, {edward, julDay(1327, 9, 1), impl.RStyle, impl.YSept, 2},
		{edward, julDay(1327, 12, 24), impl.RStyle, impl.YYule, 1}, {edward, julDay(1327, 12, 25), impl.RStyle, impl.YYule, 2},
		{edward, julDay(1327, 3, 24), impl.RStyle, impl.YPisa, 1}, {edward, julDay(1327, 3, 25), impl.RStyle, impl.YPisa, 2},
		{edward, julDay(1327, 2, 28), impl.RStyle, impl.YMarch, 1}, {edward, julDay(1327, 3, 1), impl.RStyle, impl.YMarch, 2},
		{edward, julDay(1327, 4, 11), impl.RStyle, impl.YEaster, 1}, {edward, julDay(1327, 4, 12), impl.RStyle, impl.YEaster, 2},
	}
	for _, c := range cases {
		askReignYear(t, impl.CJul, c.style, c.rule, c.r, c.n, c.want)
	}
	for style := range impl.Styles {
		askLastYear(t, impl.CJul, style, impl.RDay, edward, 51)
		askLastYear(t, impl.CJul, style, impl.RDay, richard, 23)
		askLastYear(t, impl.CJul, style, impl.RDay, englishReigns[2], 14)
		askLastYear(t, impl.CJul, style, impl.RDay, englishReigns[3], 10)
	}
}

// Where a year has no 29 February, the year of the reign begins on 1 March, and on no other day.
func TestReignFromTheLeapDay(t *testing.T) {
	gre := impl.Reign{Name: "gre", From: greDay(1896, 2, 29), To: greDay(1909, 2, 28)}
	jul := impl.Reign{Name: "jul", From: julDay(1896, 2, 29), To: julDay(1909, 2, 28)}
	cases := []struct{ y, m, d, gre, jul int }{
		{1896, 2, 29, 1, 1}, {1896, 3, 1, 1, 1}, {1897, 2, 28, 1, 1}, {1897, 3, 1, 2, 2}, {1897, 3, 2, 2, 2}, {1899, 2, 28, 3, 3}, {1899, 3, 1, 4, 4},
		{1900, 2, 28, 4, 4}, {1900, 3, 1, 5, 5}, {1903, 3, 1, 8, 8}, {1904, 2, 28, 8, 8}, {1904, 2, 29, 9, 9}, {1904, 3, 1, 9, 9}, {1905, 2, 28, 9, 9}, {1905, 3, 1, 10, 10},
		{1908, 2, 28, 12, 12}, {1908, 2, 29, 13, 13}, {1908, 12, 31, 13, 13}, {1909, 1, 1, 13, 13}, {1909, 2, 28, 13, 13},
	}
	for _, c := range cases {
		askReignYear(t, impl.CGre, impl.YJan, impl.RDay, gre, greDay(c.y, c.m, c.d), c.gre)
		askReignYear(t, impl.CJul, impl.YJan, impl.RDay, jul, julDay(c.y, c.m, c.d), c.jul)
	}
	askReignYear(t, impl.CJul, impl.YJan, impl.RDay, jul, julDay(1900, 2, 29), 5)
	// By the other calendar that day is one that each year has: 17 February and 12 March.
	askReignYear(t, impl.CJul, impl.YJan, impl.RDay, gre, julDay(1900, 2, 16), 4)
	askReignYear(t, impl.CJul, impl.YJan, impl.RDay, gre, julDay(1900, 2, 17), 5)
	askReignYear(t, impl.CGre, impl.YJan, impl.RDay, jul, greDay(1900, 3, 11), 4)
	askReignYear(t, impl.CGre, impl.YJan, impl.RDay, jul, greDay(1900, 3, 12), 5)
}

// Of a reign up to 1 March, up to the day ahead of it, and of one that ends on the day on which it began.
func TestLastYearAtItsEdges(t *testing.T) {
	for style := range impl.Styles {
		for _, cal := range calendars {
			from := impl.DayOf(date(cal, 2000, 2, 29))
			for k := 1; k <= 3; k++ {
				first := impl.DayOf(date(cal, 2000+k, 3, 1))
				askLastYear(t, cal, style, impl.RDay, impl.Reign{Name: "r", From: from, To: first - 1}, k)
				askLastYear(t, cal, style, impl.RDay, impl.Reign{Name: "r", From: from, To: first}, k+1)
			}
			leap := impl.DayOf(date(cal, 2004, 2, 29))
			askLastYear(t, cal, style, impl.RDay, impl.Reign{Name: "r", From: from, To: leap - 1}, 4)
			askLastYear(t, cal, style, impl.RDay, impl.Reign{Name: "r", From: from, To: leap}, 5)
			for _, rule := range rules {
				askLastYear(t, cal, style, rule, impl.Reign{Name: "r", From: from, To: from}, 1)
			}
		}
	}
}

// Days of year 1 ahead of its beginning have no StyleYear, nor have those of year 3000 by styles whose year 3001 has begun.
func TestReignWithoutStyleYears(t *testing.T) {
	late := map[int]int{impl.YMarch: 3, impl.YLady: 3, impl.YEaster: 4}
	early := map[int]impl.Date{impl.YPisa: {Month: 3, Day: 25}, impl.YSept: {Month: 9, Day: 1}, impl.YYule: {Month: 12, Day: 25}}
	eachStyle(func(cal, style int) {
		first := impl.Reign{Name: "first", From: 5, To: 3000}
		begun := late[style] == 0
		for n := first.From; n <= first.To; n++ {
			if got := impl.ReignYear(cal, style, impl.RStyle, first, n) > 0; got != begun {
				t.Fatalf("ReignYear(%d, %d, RStyle, %v, %d): %v", cal, style, first, n, got)
			}
		}
		last := impl.Reign{Name: "last", From: lastGre - 1000, To: lastGre}
		end := last.To
		if d, ok := early[style]; ok {
			end = min(end, impl.DayOf(date(cal, impl.MaxYear, d.Month, d.Day))-1)
		}
		for n := last.From; n <= last.To; n++ {
			if got := impl.ReignYear(cal, style, impl.RStyle, last, n) > 0; got != (n <= end) {
				t.Fatalf("ReignYear(%d, %d, RStyle, %v, %d): %v", cal, style, last, n, got)
			}
		}
		if got := impl.LastYear(cal, style, impl.RStyle, last) > 0; got != (end == last.To) {
			t.Errorf("LastYear(%d, %d, RStyle, %v): %v", cal, style, last, got)
		}
		if begun != (impl.LastYear(cal, style, impl.RStyle, first) > 0) {
			t.Errorf("LastYear(%d, %d, RStyle, %v): %v", cal, style, first, begun)
		}
		askLastYear(t, cal, style, impl.RDay, first, 9)
		if cal == impl.CGre {
			askLastYear(t, cal, style, impl.RDay, last, 3)
		}
		table := []impl.Reign{first, last}
		if got := impl.ReignText(cal, style, impl.RStyle, table, first.To) != ""; got != begun {
			t.Errorf("ReignText(%d, %d, RStyle, %v, %d): %v", cal, style, table, first.To, got)
		}
		if got := impl.ReignText(cal, style, impl.RStyle, table, last.To) != ""; got != (end == last.To) {
			t.Errorf("ReignText(%d, %d, RStyle, %v, %d): %v", cal, style, table, last.To, got)
		}
	})
}

// A reign may reach beyond the dates; what counts is whether From and the day asked for have one.
func TestReignYearBeyondTheDates(t *testing.T) {
	for _, b := range bounds {
		ahead := impl.Reign{Name: "ahead", From: b.first - 1, To: b.last}
		eachCount(func(cal, style, rule int) {
			if cal != b.cal {
				return
			}
			for _, n := range []int{b.first - 1, b.first, b.first + 700, 491000, b.last} {
				askReignYear(t, cal, style, rule, ahead, n, 0)
			}
			askLastYear(t, cal, style, rule, ahead, 0)
		})
		for _, to := range []int{b.last, b.last + 1, math.MaxInt - 1, math.MaxInt} {
			whole := impl.Reign{Name: "whole", From: b.first, To: to}
			end := 0
			if to == b.last {
				end = 3000
			}
			for _, rule := range rules {
				askReignYear(t, b.cal, impl.YJan, rule, whole, b.first, 1)
				askReignYear(t, b.cal, impl.YJan, rule, whole, b.last, 3000)
				askReignYear(t, b.cal, impl.YJan, rule, whole, b.last+1, 0)
				askReignYear(t, b.cal, impl.YJan, rule, whole, to, end)
				askLastYear(t, b.cal, impl.YJan, rule, whole, end)
			}
		}
	}
	// Days -1 and 0 are dates of CJul alone.
	early := impl.Reign{Name: "early", From: firstJul, To: 800}
	askReignYear(t, impl.CJul, impl.YJan, impl.RDay, early, 400, 2)
	askReignYear(t, impl.CGre, impl.YJan, impl.RDay, early, 400, 0)
	late := impl.Reign{Name: "late", From: lastGre - 400, To: lastJul}
	askReignYear(t, impl.CJul, impl.YJan, impl.RDay, late, lastJul, 2)
	askReignYear(t, impl.CGre, impl.YJan, impl.RDay, late, lastGre, 2)
	askReignYear(t, impl.CGre, impl.YJan, impl.RDay, late, lastGre+1, 0)
}

// What a reign is called does not matter to its years.
func TestReignYearWhateverTheName(t *testing.T) {
	for _, name := range []string{"", "Otto", "o o", "\xff", strings.Repeat("a", 17)} {
		r := impl.Reign{Name: name, From: julDay(1345, 1, 1), To: julDay(1346, 1, 1)}
		askLastYear(t, impl.CJul, impl.YJan, impl.RDay, r, 2)
		askReignDays(t, impl.CJul, impl.YJan, impl.RDay, r, 2, r.To)
	}
}

func TestReignYearOfWrongThings(t *testing.T) {
	r := impl.Reign{Name: "otto", From: julDay(1344, 2, 29), To: julDay(1348, 3, 1)}
	eachWrongCount(func(cal, style, rule int) {
		for _, n := range []int{math.MinInt, -1, 0, 1, r.From - 1, r.From, r.From + 1, r.From + 500, r.To, r.To + 1, math.MaxInt} {
			askReignYear(t, cal, style, rule, r, n, 0)
		}
		askLastYear(t, cal, style, rule, r, 0)
		askReignDays(t, cal, style, rule, r, 1)
		askReignDays(t, cal, style, rule, r, 0)
		for _, n := range []int{r.From - 1, r.From, r.To} {
			askReignText(t, cal, style, rule, []impl.Reign{r}, n, "")
		}
	})
	far := append([]int{0, 1, 491000, lastGre}, farDays...)
	eachCount(func(cal, style, rule int) {
		for _, n := range farDays {
			askReignYear(t, cal, style, rule, r, n, 0)
			askReignYear(t, cal, style, rule, impl.Reign{Name: "all", From: math.MinInt, To: math.MaxInt}, n, 0)
			askReignYear(t, cal, style, rule, impl.Reign{Name: "far", From: n, To: n}, n, 0)
		}
		for _, from := range far {
			for _, to := range far {
				if from > to {
					back := impl.Reign{Name: "back", From: from, To: to}
					askLastYear(t, cal, style, rule, back, 0)
					askReignDays(t, cal, style, rule, back, 1)
					for _, n := range far {
						askReignYear(t, cal, style, rule, back, n, 0)
					}
				}
			}
		}
		back := impl.Reign{Name: "back", From: 491001, To: 491000}
		for n := back.To - 2; n <= back.From+2; n++ {
			askReignYear(t, cal, style, rule, back, n, 0)
		}
		askLastYear(t, cal, style, rule, back, 0)
		askReignDays(t, cal, style, rule, back, 1)
	})
}

// Promise 8: all days of a reign are those of its years, one year behind the other.
func TestReignDaysOfEachYear(t *testing.T) {
	for _, r := range shortReigns {
		t.Run(r.Name, func(t *testing.T) {
			t.Parallel()
			eachCount(func(cal, style, rule int) {
				days := map[int][]int{}
				most := 0
				for i, k := range reignYears(cal, style, rule, r) {
					days[k] = append(days[k], r.From+i)
					most = max(most, k)
				}
				for k := 1; k <= most+1; k++ {
					askReignDays(t, cal, style, rule, r, k, days[k]...)
				}
				if last := impl.LastYear(cal, style, rule, r); last != most && len(days[0]) == 0 {
					t.Errorf("LastYear(%d, %d, %d, %v) = %d, want %d", cal, style, rule, r, last, most)
				}
				for _, k := range []int{0, -1, most + 2, 3999, math.MinInt, math.MinInt + 1, math.MaxInt} {
					askReignDays(t, cal, style, rule, r, k)
				}
			})
		})
	}
}

func TestKnownReignDays(t *testing.T) {
	otto := shortReigns[2]
	askReignDays(t, impl.CJul, impl.YJan, impl.RDay, otto, 1, daysFromTo(otto.From, julDay(1345, 2, 28))...)
	askReignDays(t, impl.CJul, impl.YJan, impl.RDay, otto, 4, daysFromTo(julDay(1347, 3, 1), julDay(1348, 2, 28))...)
	askReignDays(t, impl.CJul, impl.YJan, impl.RDay, otto, 5, julDay(1348, 2, 29), julDay(1348, 3, 1))
	askReignDays(t, impl.CJul, impl.YMarch, impl.RStyle, otto, 1, otto.From)
	askReignDays(t, impl.CJul, impl.YMarch, impl.RStyle, otto, 6, otto.To)
	askReignDays(t, impl.CJul, impl.YJan, impl.RStyle, otto, 1, daysFromTo(otto.From, julDay(1344, 12, 31))...)
	askReignDays(t, impl.CJul, impl.YJan, impl.RStyle, otto, 5, daysFromTo(julDay(1348, 1, 1), otto.To)...)
	one := shortReigns[0]
	eachCount(func(cal, style, rule int) {
		askReignDays(t, cal, style, rule, one, 1, one.From)
		askReignDays(t, cal, style, rule, one, 2)
		askReignDays(t, cal, style, rule, one, 0)
	})
}

// Of 4000 days the years are told, of 4001 none is.
func TestReignDaysAtTheirLimit(t *testing.T) {
	eachCount(func(cal, style, rule int) {
		for _, from := range []int{100, julDay(1344, 2, 29), 577736, lastGre - 6000} {
			r := impl.Reign{Name: "r", From: from, To: from + 3999}
			if last := impl.LastYear(cal, style, rule, r); last > 0 && len(impl.ReignDays(cal, style, rule, r, last)) == 0 {
				t.Errorf("ReignDays(%d, %d, %d, %v, %d) is nothing", cal, style, rule, r, last)
			}
			for _, more := range []int{1, 2, 400, 5000} {
				long := impl.Reign{Name: "r", From: from, To: min(r.To+more, lastGre)}
				for k := range 14 {
					askReignDays(t, cal, style, rule, long, k)
				}
			}
		}
	})
	for _, r := range longReigns {
		for k := range 130 {
			askReignDays(t, impl.CGre, impl.YJan, impl.RDay, r, k)
		}
	}
}

// Both ends are to have a date in both calendars, whichever is asked for.
func TestReignDaysAtTheEndsOfTheDates(t *testing.T) {
	eachStyle(func(cal, style int) {
		askReignDays(t, cal, style, impl.RDay, impl.Reign{Name: "r", From: firstGre, To: firstGre + 3}, 1, 1, 2, 3, 4)
		askReignDays(t, cal, style, impl.RDay, impl.Reign{Name: "r", From: lastGre - 2, To: lastGre}, 1, lastGre-2, lastGre-1, lastGre)
		for _, rule := range rules {
			for _, from := range []int{firstGre - 1, firstJul, firstJul - 1, -3000, math.MinInt} {
				for k := range 3 {
					askReignDays(t, cal, style, rule, impl.Reign{Name: "r", From: from, To: 300}, k)
					askReignDays(t, cal, style, rule, impl.Reign{Name: "r", From: from, To: from}, k)
				}
			}
			for _, to := range []int{lastGre + 1, lastJul, lastJul + 1, lastJul + 2000, math.MaxInt} {
				for k := range 3 {
					askReignDays(t, cal, style, rule, impl.Reign{Name: "r", From: lastGre - 300, To: to}, k)
					askReignDays(t, cal, style, rule, impl.Reign{Name: "r", From: to, To: to}, k)
				}
			}
			for k := range 3 {
				askReignDays(t, cal, style, rule, impl.Reign{Name: "r", From: math.MinInt, To: math.MaxInt}, k)
				askReignDays(t, cal, style, rule, impl.Reign{Name: "r", From: math.MaxInt, To: math.MinInt}, k)
				askReignDays(t, cal, style, rule, impl.Reign{Name: "r", From: lastGre, To: firstGre}, k)
			}
		}
	})
}

// manyReigns are so many, of a day each, with a day between two.
func manyReigns(count int) []impl.Reign {
	var list []impl.Reign
	for i := range count {
		name := string([]byte{byte('a' + i/26), byte('a' + i%26)})
		list = append(list, impl.Reign{Name: name, From: 491000 + 2*i, To: 491000 + 2*i})
	}
	return list
}

// rightTables are at the edges of what a table may have.
var rightTables = [][]impl.Reign{
	nil, {}, englishReigns, manyReigns(1), manyReigns(29), manyReigns(30), {{Name: "a", From: firstGre, To: lastGre}},
	{{Name: "a", From: firstGre, To: firstGre}, {Name: "b", From: lastGre, To: lastGre}},
	{{Name: "abcdefghijklmnop", From: 9, To: 9}, {Name: "abcdefghijklmno", From: 10, To: 10}, {Name: "z", From: 12, To: 13}},
}

// wrongTables are each wrong in one thing.
var wrongTables = wrongTablesOf()

func wrongTablesOf() [][]impl.Reign {
	a, b, c := impl.Reign{Name: "a", From: 10, To: 19}, impl.Reign{Name: "b", From: 20, To: 29}, impl.Reign{Name: "c", From: 31, To: 40}
	list := [][]impl.Reign{
		manyReigns(31), manyReigns(32), manyReigns(600), {{}}, {a, {}}, {b, a}, {a, c, b}, {c, b, a}, {b, c, a}, {a, a}, {a, b, b}, {a, b, a},
		{a, {Name: "b", From: 19, To: 29}}, {a, {Name: "b", From: 10, To: 19}}, {a, {Name: "b", From: 12, To: 13}}, {a, {Name: "b", From: 5, To: 10}}, {a, {Name: "b", From: 5, To: 50}}, {a, {Name: "b", From: 5, To: 9}},
		{a, b, {Name: "a", From: 31, To: 40}}, {a, b, {Name: "b", From: 31, To: 40}}, {a, {Name: "a", From: 20, To: 29}},
		{{Name: "a", From: 10, To: 9}}, {a, {Name: "b", From: 30, To: 29}}, {a, {Name: "b", From: 29, To: 20}, c}, {{Name: "a", From: lastGre, To: firstGre}},
	}
	for _, ends := range [][2]int{{0, 0}, {0, 5}, {-1, 5}, {-2, 5}, {-2, -2}, {-50, 5}, {5, lastGre + 1}, {5, lastJul}, {lastGre + 1, lastGre + 1}, {lastJul, lastJul}, {lastJul + 1, lastJul + 1}, {5, math.MaxInt}, {math.MaxInt, math.MaxInt}, {math.MinInt, 5}, {math.MinInt, math.MinInt}, {math.MinInt, math.MaxInt}, {math.MaxInt, math.MinInt}} {
		list = append(list, []impl.Reign{{Name: "a", From: ends[0], To: ends[1]}})
	}
	for _, name := range []string{"", "A", "Otto", "ot to", " otto", "otto ", "otto\n", "ott0", "\x00", "\xff", "`", "{", "\u00f6tto", "abcdefghijklmnopq", strings.Repeat("otto", 5000)} {
		wrong := impl.Reign{Name: name, From: 491000, To: 491100}
		list = append(list, []impl.Reign{wrong}, []impl.Reign{a, wrong}, []impl.Reign{wrong, {Name: "z", From: 491200, To: 491200}})
	}
	return list
}

func TestReignsOk(t *testing.T) {
	for _, list := range slices.Concat(rightTables, [][]impl.Reign{shortReigns[:1], longReigns[:1], longReigns[1:2]}) {
		if !impl.ReignsOk(list) {
			t.Errorf("ReignsOk(%v) is false", list)
		}
	}
	for _, list := range wrongTables {
		if impl.ReignsOk(list) {
			t.Errorf("ReignsOk(%v) is true", list)
		}
	}
}

// Each of 30 reigns in its turn is made wrong.
func TestReignsOkOfEachReign(t *testing.T) {
	for i := range impl.MaxReigns {
		wrongs := []func(r *impl.Reign, ahead impl.Reign){
			func(r *impl.Reign, ahead impl.Reign) { r.Name = "" },
			func(r *impl.Reign, ahead impl.Reign) { r.Name = "aB" },
			func(r *impl.Reign, ahead impl.Reign) { r.To = r.From - 1 },
			func(r *impl.Reign, ahead impl.Reign) { r.To = lastGre + 1 },
			func(r *impl.Reign, ahead impl.Reign) { r.From = 0 },
		}
		if i > 0 {
			wrongs = append(wrongs, func(r *impl.Reign, ahead impl.Reign) { r.From = ahead.To }, func(r *impl.Reign, ahead impl.Reign) { r.Name = ahead.Name })
		}
		for j, wrong := range wrongs {
			list := manyReigns(impl.MaxReigns)
			wrong(&list[i], list[max(i-1, 0)])
			if impl.ReignsOk(list) {
				t.Errorf("ReignsOk is true where reign %d is wrong in %d", i, j)
			}
		}
		for j := range i {
			list := manyReigns(impl.MaxReigns)
			list[i].Name = list[j].Name
			if impl.ReignsOk(list) {
				t.Errorf("ReignsOk is true where reigns %d and %d have one name", j, i)
			}
			list = manyReigns(impl.MaxReigns)
			list[i].From, list[i].To, list[j].From, list[j].To = list[j].From, list[j].To, list[i].From, list[i].To
			if impl.ReignsOk(list) {
				t.Errorf("ReignsOk is true where reigns %d and %d have changed places", j, i)
			}
		}
	}
}

// Two reigns of all days of a short line, the first of which has no date.
func TestReignsOkOfAllPairs(t *testing.T) {
	const line = 7
	for x := range line * line * line * line {
		a := impl.Reign{Name: "a", From: x % line, To: x / line % line}
		b := impl.Reign{Name: "b", From: x / line / line % line, To: x / line / line / line}
		want := a.From >= 1 && a.From <= a.To && a.To < b.From && b.From <= b.To
		if got := impl.ReignsOk([]impl.Reign{a, b}); got != want {
			t.Errorf("ReignsOk(%v, %v) = %v", a, b, got)
		}
	}
}

func TestReignAtEachDay(t *testing.T) {
	for _, list := range rightTables {
		ends := []int{math.MinInt, -2, -1, 0, lastGre + 1, lastJul, lastJul + 1, math.MaxInt}
		for _, r := range list {
			ends = append(ends, r.From-2, r.From-1, r.From, r.From+1, r.To-1, r.To, r.To+1, r.To+2, (r.From+r.To)/2)
		}
		for _, n := range ends {
			if got, want := impl.ReignAt(list, n), reignOn(list, n); got != want {
				t.Errorf("ReignAt(%v, %d) = %d, want %d", list, n, got, want)
			}
		}
	}
	first, last := englishReigns[0].From, englishReigns[5].To
	for n := first - 500; n <= last+500; n++ {
		if got, want := impl.ReignAt(englishReigns, n), reignOn(englishReigns, n); got != want {
			t.Errorf("ReignAt(%d) = %d, want %d", n, got, want)
		}
	}
	for _, c := range []struct{ n, want int }{{first - 1, -1}, {first, 0}, {julDay(1377, 6, 21), 0}, {julDay(1377, 6, 22), 1}, {julDay(1422, 8, 31), 3}, {julDay(1422, 9, 1), -1}, {julDay(1424, 2, 28), -1}, {julDay(1430, 3, 1), 4}, {julDay(1430, 3, 2), -1}, {julDay(1430, 3, 3), 5}, {julDay(1430, 3, 4), -1}} {
		if got := impl.ReignAt(englishReigns, c.n); got != c.want {
			t.Errorf("ReignAt(%d) = %d, want %d", c.n, got, c.want)
		}
	}
}

// A list need be no table to be asked for a day: where two have it, the one ahead counts.
func TestReignAtOfNoTable(t *testing.T) {
	for _, list := range wrongTables {
		for _, n := range []int{math.MinInt, -2, -1, 0, 1, 5, 9, 10, 12, 19, 20, 29, 30, 31, 40, 41, 491000, 491060, lastGre, lastJul, math.MaxInt} {
			if got, want := impl.ReignAt(list, n), reignOn(list, n); got != want {
				t.Errorf("ReignAt(%v, %d) = %d, want %d", list, n, got, want)
			}
		}
	}
}

// The text of days of each reign, and what is read of it.
func TestReignTextComesBack(t *testing.T) {
	eachCount(func(cal, style, rule int) {
		for i, r := range englishReigns {
			for j, k := range reignYears(cal, style, rule, r) {
				n := r.From + j
				if j%37 != 0 && j > 3 && n < r.To-3 {
					continue
				}
				s := numeral(k) + " " + r.Name
				askReignText(t, cal, style, rule, englishReigns, n, s)
				askReadReign(t, englishReigns, s, i, k)
			}
		}
	})
}

func TestKnownReignTexts(t *testing.T) {
	cases := []struct {
		n, style, rule int
		text           string
	}{
		{julDay(1327, 1, 24), 0, impl.RDay, ""}, {julDay(1327, 1, 25), 0, impl.RDay, "I edward"}, {julDay(1376, 2, 1), 0, impl.RDay, "L edward"}, {julDay(1377, 6, 21), 0, impl.RDay, "LI edward"},
		{julDay(1377, 6, 22), 0, impl.RDay, "I richard"}, {julDay(1399, 9, 29), 0, impl.RDay, "XXIII richard"}, {julDay(1399, 9, 30), 0, impl.RDay, "I bolingbroke"},
		{julDay(1415, 10, 25), 0, impl.RDay, "III henry"}, {julDay(1415, 10, 25), impl.YLady, impl.RStyle, "IV henry"}, {julDay(1415, 10, 25), impl.YSept, impl.RStyle, "IV henry"},
		{julDay(1422, 9, 1), 0, impl.RDay, ""}, {julDay(1425, 2, 28), 0, impl.RDay, "I edmund"}, {julDay(1425, 3, 1), 0, impl.RDay, "II edmund"}, {julDay(1428, 2, 29), 0, impl.RDay, "V edmund"},
		{julDay(1430, 3, 2), 0, impl.RDay, ""}, {julDay(1430, 3, 3), 0, impl.RDay, "I margaret"}, {julDay(1430, 3, 4), 0, impl.RDay, ""},
	}
	for _, c := range cases {
		askReignText(t, impl.CJul, c.style, c.rule, englishReigns, c.n, c.text)
	}
	whole := []impl.Reign{{Name: "all", From: firstGre, To: lastGre}}
	for _, cal := range calendars {
		askReignText(t, cal, impl.YJan, impl.RDay, whole, lastGre, "MMM all")
		askReignText(t, cal, impl.YJan, impl.RStyle, whole, lastGre, "MMM all")
		askReignText(t, cal, impl.YLady, impl.RStyle, whole, lastGre, "")
	}
}

func TestReignTextOfNoReign(t *testing.T) {
	for _, list := range rightTables {
		for _, n := range append([]int{-1, 0, 8, 11, 14, 490999, 491059, 491060, lastGre + 1, lastJul, julDay(1500, 1, 1)}, farDays...) {
			if reignOn(list, n) < 0 {
				eachCount(func(cal, style, rule int) { askReignText(t, cal, style, rule, list, n, "") })
			}
		}
	}
}

// A table that is wrong anywhere has no text and no gaps, whatever is asked for.
func TestWrongTablesTellNothing(t *testing.T) {
	days := append([]int{-1, 0, 1, 5, 9, 10, 12, 15, 19, 20, 25, 29, 30, 31, 40, 41, 400, 491000, 491002, 491050, 491060, 491100, lastGre, lastJul}, farDays...)
	for _, list := range wrongTables {
		for _, n := range days {
			for _, cal := range calendars {
				askReignText(t, cal, impl.YJan, impl.RDay, list, n, "")
				askReignText(t, cal, impl.YSept, impl.RStyle, list, n, "")
			}
			for _, to := range days {
				askGaps(t, list, n, to)
			}
		}
	}
}

// Any numeral is read, whether the reign had such a year or not.
func TestReadReignOfEachYear(t *testing.T) {
	for i, r := range englishReigns {
		for k := 1; k <= impl.MaxNumeral; k++ {
			askReadReign(t, englishReigns, numeral(k)+" "+r.Name, i, k)
		}
	}
	for i, r := range manyReigns(30) {
		askReadReign(t, manyReigns(30), "MMMCMXCIX "+r.Name, i, 3999)
	}
}

var noReignTexts = []string{
	"", " ", "  ", "I", "IV", "edward", "I ", " edward", "I  edward", " I edward", "I edward ", "I edward x", "I edward I", "I edward edward", "Iedward", "I\tedward", "I\nedward", "I edward\n",
	"i edward", "iv edward", "Iv edward", "IIII edward", "VV edward", "IC edward", "IM edward", "MMMM edward", "IIX edward", "1 edward", "4 edward", "0 edward", "-I edward", "+I edward", "N edward",
	"I Edward", "I EDWARD", "I edwar", "I edwardx", "I dward", "I nobody", "I otto", "edward I", "edward edward", "I I", "IV IV", "I edward,", "I,edward", "\x00", "\xff", "I \xff", "\xff edward", "I\u00a0edward", "I edward\x00",
}

func TestReadReignOfNoReign(t *testing.T) {
	for _, s := range append(noReignTexts, strings.Repeat("I ", 5000), strings.Repeat("M", 100000)+" edward", "I "+strings.Repeat("edward", 5000)) {
		askReadReign(t, englishReigns, s, -1, 0)
		askReadReign(t, nil, s, -1, 0)
	}
	for _, s := range []string{"I edward", "L edward", "II richard", "I margaret"} {
		askReadReign(t, nil, s, -1, 0)
		askReadReign(t, []impl.Reign{{Name: "other", From: 5, To: 9}}, s, -1, 0)
	}
}

// A list need be no table to be read by: what stands behind the first blank is the whole Name, and of two alike the one ahead counts.
func TestReadReignOfNoTable(t *testing.T) {
	list := []impl.Reign{{Name: "twin", From: 9, To: 5}, {Name: "twin", From: 20, To: 30}, {Name: "", From: 40, To: 50}, {Name: "Ot to", From: 60, To: 70}}
	askReadReign(t, list, "IV twin", 0, 4)
	askReadReign(t, list, "IV ", 2, 4)
	askReadReign(t, list, "IV Ot to", 3, 4)
	for _, s := range []string{"", " ", "IV", "twin", "IV Ot", "IV to", " Ot to", "IV  "} {
		askReadReign(t, list, s, -1, 0)
	}
}

// Texts around right ones: by another sign, one more or one less.
func TestReadReignOfTextsBeside(t *testing.T) {
	list := []impl.Reign{{Name: "otto", From: 5, To: 9}, {Name: "ott", From: 10, To: 12}, {Name: "x", From: 20, To: 20}}
	right := map[string][2]int{}
	for i, r := range list {
		for k := 1; k <= impl.MaxNumeral; k++ {
			right[numeral(k)+" "+r.Name] = [2]int{i, k}
		}
	}
	ask := func(s string) {
		want, ok := right[s]
		if !ok {
			want = [2]int{-1, 0}
		}
		askReadReign(t, list, s, want[0], want[1])
	}
	for _, s := range []string{"I otto", "IV otto", "XLIX ott", "MMMCMXCIX x", "MCCCXLV otto", "X x"} {
		for i := 0; i <= len(s); i++ {
			for c := range 256 {
				b := string([]byte{byte(c)})
				ask(s[:i] + b + s[i:])
				if i < len(s) {
					ask(s[:i] + b + s[i+1:])
				}
			}
			if i < len(s) {
				ask(s[:i] + s[i+1:])
			}
		}
	}
	eachText("IVx ot", 6, ask)
}

// Promise 8: a day is in one gap or in one reign. Of all tables of a short line, and of all its days as from and as to.
func TestGapsOfAllSmallTables(t *testing.T) {
	const line, states = 6, 729
	for x := range states {
		var list []impl.Reign
		for i, rest := 0, x; i < line; i, rest = i+1, rest/3 {
			n, last := 101+i, len(list)-1
			switch {
			case rest%3 == 1 && last >= 0 && list[last].To == n-1:
				list[last].To = n
			case rest%3 > 0:
				list = append(list, impl.Reign{Name: string([]byte{byte('a' + i)}), From: n, To: n})
			}
		}
		if !impl.ReignsOk(list) {
			t.Fatalf("ReignsOk(%v) is false", list)
		}
		for from := 99; from <= 109; from++ {
			for to := 98; to <= 109; to++ {
				askGaps(t, list, from, to, gapRuns(list, from, to)...)
			}
		}
		askTiled(t, list, 95, 112)
	}
}

func TestGapsOfTables(t *testing.T) {
	for _, list := range [][]impl.Reign{englishReigns[4:], englishReigns[3:], manyReigns(30), rightTables[8], nil} {
		ends := []int{5, 500000}
		for _, r := range list {
			ends = append(ends, r.From-2, r.From-1, r.From, r.From+1, r.To-1, r.To, r.To+1, r.To+2)
		}
		for _, from := range ends {
			for _, to := range ends {
				if to-from < 5000 {
					askGaps(t, list, from, to, gapRuns(list, from, to)...)
				}
			}
		}
	}
	for _, list := range [][]impl.Reign{englishReigns, manyReigns(30)} {
		askTiled(t, list, list[0].From-700, list[len(list)-1].To+700)
		askTiled(t, list, list[0].From, list[len(list)-1].To)
		askTiled(t, list, list[0].From+1, list[len(list)-1].To-1)
	}
}

// askTiled goes through from .. to: each day is in one gap or in one reign, gaps are in order and do not touch.
func askTiled(t *testing.T, list []impl.Reign, from, to int) {
	t.Helper()
	gaps := impl.Gaps(list, from, to)
	for i, g := range gaps {
		if g[0] > g[1] || g[0] < from || g[1] > to || i > 0 && g[0] <= gaps[i-1][1]+1 {
			t.Errorf("Gaps(%v, %d, %d) = %v", list, from, to, gaps)
		}
	}
	for n := from; n <= to; n++ {
		in := 0
		for _, g := range gaps {
			if n >= g[0] && n <= g[1] {
				in++
			}
		}
		if impl.ReignAt(list, n) >= 0 {
			in++
		}
		if in != 1 {
			t.Fatalf("day %d is in %d gaps and reigns of %v", n, in, list)
		}
	}
}

func TestKnownGaps(t *testing.T) {
	e := englishReigns
	first, last := e[0].From, e[5].To
	askGaps(t, e, first-5, last+5, [2]int{first - 5, first - 1}, [2]int{e[3].To + 1, e[4].From - 1}, [2]int{e[4].To + 1, e[4].To + 1}, [2]int{last + 1, last + 5})
	askGaps(t, e, first, last, [2]int{e[3].To + 1, e[4].From - 1}, [2]int{e[4].To + 1, e[4].To + 1})
	askGaps(t, e, first, e[3].To)
	askGaps(t, e, first+10, first+20)
	askGaps(t, e, first, first)
	askGaps(t, e, first-1, first, [2]int{first - 1, first - 1})
	askGaps(t, e, first-9, first-3, [2]int{first - 9, first - 3})
	askGaps(t, e, e[3].To+5, e[4].From-5, [2]int{e[3].To + 5, e[4].From - 5})
	askGaps(t, e, e[4].To, e[5].From, [2]int{e[4].To + 1, e[4].To + 1})
	askGaps(t, e, last, last+1, [2]int{last + 1, last + 1})
	askGaps(t, e, last+3, last+3, [2]int{last + 3, last + 3})
	askGaps(t, e, last+3, last+2)
	askGaps(t, e, last, first)
	askGaps(t, nil, 5, 9, [2]int{5, 9})
	askGaps(t, []impl.Reign{}, 5, 5, [2]int{5, 5})
	askGaps(t, nil, 9, 5)
}

// from and to need not be days that have a date.
func TestGapsFarOff(t *testing.T) {
	least, most := math.MinInt, math.MaxInt
	e := englishReigns
	first, last := e[0].From, e[5].To
	inner := [][2]int{{e[3].To + 1, e[4].From - 1}, {e[4].To + 1, e[4].To + 1}}
	askGaps(t, e, least, most, [2]int{least, first - 1}, inner[0], inner[1], [2]int{last + 1, most})
	askGaps(t, e, least, least, [2]int{least, least})
	askGaps(t, e, most, most, [2]int{most, most})
	askGaps(t, e, least, first-1, [2]int{least, first - 1})
	askGaps(t, e, least, first, [2]int{least, first - 1})
	askGaps(t, e, last, most, [2]int{last + 1, most})
	askGaps(t, e, last+1, most, [2]int{last + 1, most})
	askGaps(t, e, least, 0, [2]int{least, 0})
	askGaps(t, e, most-1, most, [2]int{most - 1, most})
	askGaps(t, e, most, least)
	askGaps(t, e, most, first)
	askGaps(t, e, first, least)
	askGaps(t, nil, least, most, [2]int{least, most})
	askGaps(t, nil, most, least)
	whole := []impl.Reign{{Name: "all", From: firstGre, To: lastGre}}
	askGaps(t, whole, least, most, [2]int{least, 0}, [2]int{lastGre + 1, most})
	askGaps(t, whole, firstGre, lastGre)
	askGaps(t, whole, 0, lastGre+1, [2]int{0, 0}, [2]int{lastGre + 1, lastGre + 1})
	ends := append([]int{0, 1, lastGre, lastGre + 1}, farDays...)
	for _, from := range ends {
		for _, to := range ends {
			var want [][2]int
			if from <= min(to, 0) {
				want = append(want, [2]int{from, min(to, 0)})
			}
			if max(from, lastGre+1) <= to {
				want = append(want, [2]int{max(from, lastGre+1), to})
			}
			askGaps(t, whole, from, to, want...)
		}
	}
}

// Nothing is written into a table, nor into the spare room behind it.
func TestReignsStayAsTheyWere(t *testing.T) {
	room := append(slices.Clone(englishReigns), impl.Reign{Name: "spare", From: 7, To: 8}, impl.Reign{Name: "room", From: 1, To: 2})
	kept := slices.Clone(room)
	for _, count := range []int{0, 3, 6} {
		list := room[:count]
		impl.ReignsOk(list)
		impl.ReignAt(list, 491000)
		impl.ReadReign(list, "IV edward")
		impl.Gaps(list, 1, 600000)
		impl.ReignText(impl.CJul, impl.YJan, impl.RDay, list, 491000)
	}
	if !slices.Equal(room, kept) {
		t.Errorf("the table is %v now, and was %v", room, kept)
	}
}

func TestReignAnswersAreNewMemory(t *testing.T) {
	otto := shortReigns[2]
	days, again := impl.ReignDays(impl.CJul, 0, impl.RDay, otto, 5), impl.ReignDays(impl.CJul, 0, impl.RDay, otto, 5)
	gaps, more := impl.Gaps(englishReigns, 1, 600000), impl.Gaps(englishReigns, 1, 600000)
	want := slices.Clone(more)
	clear(days)
	clear(gaps)
	if !slices.Equal(again, []int{otto.To - 1, otto.To}) || !slices.Equal(more, want) {
		t.Errorf("answers hang on each other: %v, %v", again, more)
	}
}
