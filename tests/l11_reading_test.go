package tests

import (
	"fmt"
	"math"
	"math/rand"
	"slices"
	"strconv"
	"sync"
	"testing"

	"loop.example/g00638/impl"
)

// toldRegime is a regime with the reading of each of its days, and the days of each reading.
type toldRegime struct {
	impl.Regime
	readings []impl.Reading
	days     map[impl.Reading][]int
}

// tellRegime walks through each segment date by date, and so asks neither DateOf nor StyleYear.
func tellRegime(r impl.Regime) toldRegime {
	told := toldRegime{Regime: r, days: map[impl.Reading][]int{}}
	patches := map[int]impl.Patch{}
	for _, p := range r.Patches {
		patches[p.Day] = p
	}
	for _, s := range r.Segs {
		d := dateByWalk(s.Cal, s.From+s.Off)
		begins := styleLines()[s.Cal][s.Style]
		year := max(d.Year-2, 0)
		for n := s.From; n <= s.To; n++ {
			for begins[year+1] <= n+s.Off {
				year++
			}
			x := impl.Reading{Cal: s.Cal, Year: year, Solar: d.Year, Month: d.Month, Day: d.Day}
			if p, ok := patches[n]; ok {
				x.Month, x.Day = p.Month, p.Dom
			}
			told.readings = append(told.readings, x)
			told.days[x] = append(told.days[x], n)
			d = nextDate(d)
		}
	}
	return told
}

// dateByWalk goes from 1 January of its year on.
func dateByWalk(cal, n int) impl.Date {
	newYears := styleLines()[cal][impl.YJan]
	y := impl.MinYear
	for newYears[y+1] <= n {
		y++
	}
	d := date(cal, y, 1, 1)
	for range n - newYears[y] {
		d = nextDate(d)
	}
	return d
}

// on is for days of the regime.
func (x toldRegime) on(n int) impl.Reading { return x.readings[n-x.From] }

// with tells the days whose reading is wanted, one by one.
func (x toldRegime) with(wanted func(impl.Reading) bool) []int {
	var days []int
	for i, y := range x.readings {
		if wanted(y) {
			days = append(days, x.From+i)
		}
	}
	return days
}

func (x toldRegime) next(n int) int {
	for k := n + 1; k <= n+800 && k <= x.To; k++ {
		if x.on(k).Month == x.on(n).Month && x.on(k).Day == x.on(n).Day {
			return k
		}
	}
	return 0
}

// shiftOf walks from 1 January of the solar year by CGre to the month and day of a reading, and is false where that year has none.
func shiftOf(x impl.Reading, n int) (int, bool) {
	day := styleLines()[impl.CGre][impl.YJan][x.Solar]
	for d := date(impl.CGre, x.Solar, 1, 1); d.Year == x.Solar; d = nextDate(d) {
		if d.Month == x.Month && d.Day == x.Day {
			return day - n, true
		}
		day++
	}
	return 0, false
}

func readingWords(x impl.Reading) string {
	return fmt.Sprintf("%s %d %d %s %d", calWords[x.Cal], x.Year, x.Solar, monthWords[x.Month-1], x.Day)
}

// plainWords is Plain by hand: the date of a reading, where its year has it.
func plainWords(x impl.Reading) (impl.Date, bool) {
	lengths := []int{31, 28, 31, 30, 31, 30, 31, 31, 30, 31, 30, 31}
	if leapByBig(x.Cal, x.Solar) {
		lengths[1] = 29
	}
	if x.Day > lengths[x.Month-1] {
		return impl.Date{}, false
	}
	return date(x.Cal, x.Solar, x.Month, x.Day), true
}

// swedenRegime is a day ahead, and back by a day more in February.
func swedenRegime() impl.Regime {
	from, n, to := julDay(1711, 12, 1), julDay(1712, 2, 29), julDay(1712, 12, 31)
	return impl.Regime{Name: "sweden", From: from, To: to, Segs: []impl.Segment{{From: from, To: n, Off: 1}, {From: n + 1, To: to}}, Patches: []impl.Patch{{Day: n, Month: 2, Dom: 30}}}
}

// longYearRegime has a year 1345 of more than two years: by YPisa from 25 March 1344 on, by YEaster to 15 April 1346, and some days of other years on both sides.
func longYearRegime() impl.Regime {
	from, n, to := julDay(1344, 3, 1), julDay(1345, 3, 27), julDay(1346, 5, 31)
	return impl.Regime{Name: "long", From: from, To: to, Segs: []impl.Segment{{From: from, To: n - 3, Style: impl.YPisa}, {From: n - 2, To: to, Style: impl.YEaster, Off: 2}}}
}

// brokenYearRegime has the year 1345 in three pieces, with days of other years between.
func brokenYearRegime() impl.Regime {
	from, to := julDay(1344, 12, 20), julDay(1346, 1, 10)
	a, b := julDay(1345, 5, 1), julDay(1345, 9, 1)
	return impl.Regime{Name: "broken", From: from, To: to, Segs: []impl.Segment{{From: from, To: a - 1}, {From: a, To: b - 1, Style: impl.YPisa}, {From: b, To: to}}}
}

// oneSegment has days from a year's November on, for two years and more, so that each style's year begins among them twice or thrice.
func oneSegment(cal, style, off, y, length int) impl.Regime {
	from := impl.DayOf(date(cal, y, 11, 1))
	return impl.Regime{Name: "one", From: from, To: from + length - 1, Segs: []impl.Segment{{From: from, To: from + length - 1, Cal: cal, Style: style, Off: off}}}
}

// chanceRegime has any segments and patches, the lengths of segments from a day to some months.
func chanceRegime(random *rand.Rand) impl.Regime {
	from := impl.FirstDay + random.Intn(impl.LastDay-impl.FirstDay-4000)
	r := impl.Regime{Name: "chance", From: from, To: from - 1, Rule: random.Intn(2)}
	for range 1 + random.Intn(impl.MaxSegs) {
		length := 1 + random.Intn(1+random.Intn(150))
		r.Segs = append(r.Segs, impl.Segment{From: r.To + 1, To: r.To + length, Cal: random.Intn(2), Style: random.Intn(impl.Styles), Off: random.Intn(7) - 3})
		r.To += length
	}
	for n := r.From; n <= r.To && len(r.Patches) < impl.MaxPatches; n += 1 + random.Intn(r.To-r.From+2) {
		r.Patches = append(r.Patches, impl.Patch{Day: n, Month: 1 + random.Intn(12), Dom: 1 + random.Intn(31)})
	}
	return r
}

// readingRegimes are right ones of at most some thousand days.
func readingRegimes() []impl.Regime {
	list := slices.DeleteFunc(rightRegimes(), func(r impl.Regime) bool { return r.To-r.From > 5000 })
	list = append(list, swedenRegime(), longYearRegime(), brokenYearRegime(), evenRegime(490000, 50, impl.MaxSegs), evenRegime(600000, 97, 9), evenRegime(greDay(1699, 12, 1), 41, impl.MaxSegs))
	random := rand.New(rand.NewSource(11))
	for range 40 {
		list = append(list, chanceRegime(random))
	}
	return list
}

// wrongRegimes are of each kind of wrong, among them such as are wrong far from the days that are asked for.
func wrongRegimes() []impl.Regime {
	full := fullRegime()
	list := []impl.Regime{{}, evenRegime(600000, 20, impl.MaxSegs+1), evenRegime(600000, 20, 0), evenRegime(impl.FirstDay-1, 5, 3), evenRegime(impl.LastDay-13, 5, 3)}
	for i := range numbersOf(&full) {
		for _, far := range farNumbers {
			r := fullRegime()
			*numbersOf(&r)[i] = far
			list = append(list, r)
		}
	}
	for i := range namesOf(&full) {
		r := fullRegime()
		*namesOf(&r)[i] = "Rome"
		list = append(list, r)
	}
	with := func(change func(*impl.Regime)) {
		r := fullRegime()
		change(&r)
		list = append(list, r)
	}
	with(func(r *impl.Regime) { r.Segs[3].From++ })
	with(func(r *impl.Regime) { r.Segs[3].From-- })
	with(func(r *impl.Regime) { r.Segs[2], r.Segs[3] = r.Segs[3], r.Segs[2] })
	with(func(r *impl.Regime) { r.Segs = slices.Insert(r.Segs, 1, span(600100, 600099)) })
	with(func(r *impl.Regime) { r.Segs = nil })
	with(func(r *impl.Regime) { r.Segs[3].Off = 4 })
	with(func(r *impl.Regime) { r.Segs[3].Off = -4 })
	with(func(r *impl.Regime) { r.Segs[3].Cal = 2 })
	with(func(r *impl.Regime) { r.Segs[3].Style = impl.Styles })
	with(func(r *impl.Regime) { r.From-- })
	with(func(r *impl.Regime) { r.To++ })
	with(func(r *impl.Regime) { r.From, r.To = r.To, r.From })
	with(func(r *impl.Regime) { r.Rule = 2 })
	with(func(r *impl.Regime) { r.Patches[2].Day++ })
	with(func(r *impl.Regime) { r.Patches[2].Dom = 32 })
	with(func(r *impl.Regime) { r.Patches[2].Month = 13 })
	with(func(r *impl.Regime) { r.Patches[1].Day = r.Patches[0].Day })
	with(func(r *impl.Regime) { r.Patches = manyPatches(r.From, impl.MaxPatches+1) })
	with(func(r *impl.Regime) { r.Reigns[2].From-- })
	with(func(r *impl.Regime) { r.Reigns[2].Name = r.Reigns[0].Name })
	with(func(r *impl.Regime) { r.Reigns = manyReigns(impl.MaxReigns + 1) })
	return list
}

// askDays holds a list of days against one, and asks that it ascends.
func askDays(t *testing.T, what string, got, want []int) {
	t.Helper()
	if !slices.Equal(got, want) {
		t.Errorf("%s = %v, want %v", what, got, want)
	}
	for i := 1; i < len(got); i++ {
		if got[i] <= got[i-1] {
			t.Errorf("%s does not ascend at %d: %v", what, i, got)
		}
	}
}

func askReading(t *testing.T, r impl.Regime, n int, want impl.Reading, right bool) {
	t.Helper()
	if got, ok := impl.ReadingOf(r, n); got != want || ok != right {
		t.Errorf("ReadingOf(%v, %d) = %v, %v, want %v, %v", r, n, got, ok, want, right)
	}
}

func askReadingText(t *testing.T, r impl.Regime, n int, want string) {
	t.Helper()
	x, _ := impl.ReadingOf(r, n)
	if got := impl.ReadingText(x); got != want {
		t.Errorf("day %d of %v is called %q, want %q", n, r, got, want)
	}
}

func askShift(t *testing.T, r impl.Regime, n, want int, right bool) {
	t.Helper()
	if got, ok := impl.Shift(r, n); got != want || ok != right {
		t.Errorf("Shift(%v, %d) = %d, %v, want %d, %v", r, n, got, ok, want, right)
	}
}

func askNextDay(t *testing.T, r impl.Regime, n, want int) {
	t.Helper()
	if got := impl.NextDay(r, n); got != want {
		t.Errorf("NextDay(%v, %d) = %d, want %d", r, n, got, want)
	}
}

// askNoDay asks all that takes a regime and a day for one that has no reading.
func askNoDay(t *testing.T, r impl.Regime, n int) {
	t.Helper()
	askReading(t, r, n, impl.Reading{}, false)
	askShift(t, r, n, 0, false)
	askNextDay(t, r, n, 0)
}

// Promise 11: each day of right regimes has the reading that a walk tells, and is among the days of it, all of which have it.
func TestReadingOfEachDay(t *testing.T) {
	t.Parallel()
	for _, r := range readingRegimes() {
		askRegimeOk(t, "right", r, true)
		told := tellRegime(r)
		for n := r.From; n <= r.To; n++ {
			askReading(t, r, n, told.on(n), true)
			askDays(t, fmt.Sprintf("DaysOf(%v, %v)", r, told.on(n)), impl.DaysOf(r, told.on(n)), told.days[told.on(n)])
		}
		for by := 1; by <= 400; by++ {
			askNoDay(t, r, r.From-by)
			askNoDay(t, r, r.To+by)
		}
		for _, n := range append([]int{0, 1, -1, impl.FirstDay - 1, impl.LastDay + 1}, farDays...) {
			askNoDay(t, r, n)
		}
	}
}

// Promise 11 by both calendars, all styles and all Offs, each with patches and without.
func TestReadingsByEachStyleAndOff(t *testing.T) {
	t.Parallel()
	eachStyle(func(cal, style int) {
		for off := -3; off <= 3; off++ {
			for _, y := range []int{2, 1344, 1499, 1899} {
				r := oneSegment(cal, style, off, y, 950)
				if (off+style+cal)%2 == 0 {
					r.Patches = manyPatches(impl.DayOf(date(cal, y+1, 3, 24))-off, impl.MaxPatches)
				}
				told := tellRegime(r)
				for n := r.From; n <= r.To; n++ {
					askReading(t, r, n, told.on(n), true)
				}
				for n := r.From; n <= r.To; n += 3 {
					askDays(t, fmt.Sprintf("DaysOf(%v, %v)", r, told.on(n)), impl.DaysOf(r, told.on(n)), told.days[told.on(n)])
				}
				askYearsAndMonths(t, told)
			}
		}
	})
}

// askYearsAndMonths asks for all years that some day has and those beside, all months, and more than there are of both.
func askYearsAndMonths(t *testing.T, told toldRegime) {
	t.Helper()
	first, last := math.MaxInt, math.MinInt
	for _, x := range told.readings {
		first, last = min(first, x.Year), max(last, x.Year)
	}
	for y := first - 2; y <= last+2; y++ {
		days := told.with(func(x impl.Reading) bool { return x.Year == y })
		askDays(t, fmt.Sprintf("Year(%v, %d, 1000)", told.Regime, y), impl.Year(told.Regime, y, 1000), days)
		for m := -1; m <= 14; m++ {
			want := told.with(func(x impl.Reading) bool { return x.Year == y && x.Month == m })
			askDays(t, fmt.Sprintf("Month(%v, %d, %d)", told.Regime, y, m), impl.Month(told.Regime, y, m), want)
		}
	}
}

func TestYearsAndMonthsByReadings(t *testing.T) {
	t.Parallel()
	for _, r := range readingRegimes() {
		askYearsAndMonths(t, tellRegime(r))
	}
}

func TestNextDayByReadings(t *testing.T) {
	t.Parallel()
	for _, r := range readingRegimes() {
		told := tellRegime(r)
		for n := r.From; n <= r.To; n++ {
			askNextDay(t, r, n, told.next(n))
		}
	}
}

func TestShiftPlainAndTextByReadings(t *testing.T) {
	t.Parallel()
	for _, r := range readingRegimes() {
		told := tellRegime(r)
		for n := r.From; n <= r.To; n++ {
			x := told.on(n)
			by, ok := shiftOf(x, n)
			askShift(t, r, n, by, ok)
			if got := impl.ReadingText(x); got != readingWords(x) {
				t.Errorf("ReadingText(%v) = %q", x, got)
			}
			want, right := plainWords(x)
			if got, ok := impl.Plain(x); got != want || ok != right {
				t.Errorf("Plain(%v) = %v, %v, want %v, %v", x, got, ok, want, right)
			}
		}
	}
}

// The whole line in twenty segments: the days around each change, and many between.
func TestReadingsOfTheWholeLine(t *testing.T) {
	t.Parallel()
	r := wholeRegime()
	told := tellRegime(r)
	ask := func(n int) {
		t.Helper()
		if n < r.From || n > r.To {
			askNoDay(t, r, n)
			return
		}
		x := told.on(n)
		askReading(t, r, n, x, true)
		askDays(t, fmt.Sprint("DaysOf ", x), impl.DaysOf(r, x), told.days[x])
		askNextDay(t, r, n, told.next(n))
	}
	for n := r.From; n <= r.To; n += 331 {
		ask(n)
	}
	for _, s := range r.Segs {
		for by := -5; by <= 5; by++ {
			ask(s.From + by)
			ask(s.To + by)
		}
	}
	years := map[int][]int{}
	for i, x := range told.readings {
		years[x.Year] = append(years[x.Year], r.From+i)
	}
	for y := -1; y <= impl.MaxYear+2; y++ {
		days := years[y]
		askDays(t, fmt.Sprint("Year ", y), impl.Year(r, y, 1000), days)
		askDays(t, fmt.Sprint("the first days of Year ", y), impl.Year(r, y, 200), days[:min(200, len(days))])
	}
}

func TestKnownReadings(t *testing.T) {
	rome, n := romeRegime(), greDay(1582, 10, 15)
	askReadingText(t, rome, n-1, "jul 1582 1582 oct 4")
	askReadingText(t, rome, n, "gre 1582 1582 oct 15")
	askReadingText(t, rome, rome.From, "jul 1582 1582 jan 1")
	askReadingText(t, rome, rome.To, "gre 1583 1583 dec 31")
	askNoDay(t, rome, rome.From-1)
	askNoDay(t, rome, rome.To+1)
	sweden, k := swedenRegime(), julDay(1712, 2, 29)
	askReadingText(t, sweden, sweden.From, "jul 1711 1711 dec 2")
	askReadingText(t, sweden, k-1, "jul 1712 1712 feb 29")
	askReadingText(t, sweden, k, "jul 1712 1712 feb 30")
	askReadingText(t, sweden, k+1, "jul 1712 1712 mar 1")
	paris := parisRegime()
	askReadingText(t, paris, julDay(1344, 1, 1), "jul 1343 1344 jan 1")
	askReadingText(t, paris, julDay(1345, 3, 26), "jul 1344 1345 mar 26")
	askReadingText(t, paris, julDay(1345, 3, 27), "jul 1345 1345 mar 27")
	askReadingText(t, paris, julDay(1346, 4, 15), "jul 1345 1346 apr 15")
	askReadingText(t, paris, julDay(1346, 4, 16), "jul 1346 1346 apr 16")
	full := fullRegime()
	// Patches at both ends of the regime, and on a segment of one day.
	askReadingText(t, full, 600000, "jul 1643 1643 feb 30")
	askReadingText(t, full, 600100, "jul 1643 1643 dec 31")
	askReadingText(t, full, 600400, "gre 1644 1644 jan 1")
}

// An Off may lead beyond its segment, beyond the regime, and into another year, solar or of the style.
func TestOffsAtTheEndsOfSegments(t *testing.T) {
	n := julDay(1345, 12, 31)
	seg := func(from, to, style, off int) impl.Segment {
		return impl.Segment{From: from, To: to, Style: style, Off: off}
	}
	r := impl.Regime{Name: "off", From: n - 20, To: n + 20, Segs: []impl.Segment{seg(n-20, n-10, impl.YJan, -3), seg(n-9, n, impl.YJan, 3), seg(n+1, n+20, impl.YYule, -2)}}
	known := map[int]string{
		n - 20: "jul 1345 1345 dec 8", n - 10: "jul 1345 1345 dec 18", n - 9: "jul 1345 1345 dec 25", n - 3: "jul 1345 1345 dec 31", n - 2: "jul 1346 1346 jan 1", n: "jul 1346 1346 jan 3",
		n + 1: "jul 1346 1345 dec 30", n + 2: "jul 1346 1345 dec 31", n + 3: "jul 1346 1346 jan 1", n + 20: "jul 1346 1346 jan 18",
	}
	for day, want := range known {
		askReadingText(t, r, day, want)
	}
	askDays(t, "Year 1345", impl.Year(r, 1345, 1000), daysFromTo(n-20, n-3))
	askDays(t, "Year 1346", impl.Year(r, 1346, 1000), daysFromTo(n-2, n+20))
	askDays(t, "December of 1346", impl.Month(r, 1346, 12), []int{n + 1, n + 2})
	askDays(t, "January of 1346", impl.Month(r, 1346, 1), append(daysFromTo(n-2, n), daysFromTo(n+3, n+20)...))
	// 1 to 3 January come twice, because of both Offs.
	askDays(t, "2 January", impl.DaysOf(r, impl.Reading{Year: 1346, Solar: 1346, Month: 1, Day: 2}), []int{n - 1, n + 4})
	askNextDay(t, r, n-1, n+4)
	// 31 December comes twice as well, but in years 1345 and 1346.
	askDays(t, "31 December", impl.DaysOf(r, impl.Reading{Year: 1345, Solar: 1345, Month: 12, Day: 31}), []int{n - 3})
	askDays(t, "31 December by YYule", impl.DaysOf(r, impl.Reading{Year: 1346, Solar: 1345, Month: 12, Day: 31}), []int{n + 2})
	// What the Offs leave out, and what they lead to beyond both ends.
	for _, x := range []impl.Reading{{Year: 1345, Solar: 1345, Month: 12, Day: 19}, {Year: 1345, Solar: 1345, Month: 12, Day: 24}, {Year: 1345, Solar: 1345, Month: 12, Day: 7}, {Year: 1346, Solar: 1346, Month: 1, Day: 19}} {
		askDays(t, fmt.Sprint("DaysOf ", x), impl.DaysOf(r, x), nil)
	}
}

func TestPatchedDays(t *testing.T) {
	n := julDay(1345, 6, 10)
	r := impl.Regime{Name: "patched", From: n - 200, To: n + 600, Segs: []impl.Segment{{From: n - 200, To: n + 600, Style: impl.YLady}}}
	r.Patches = []impl.Patch{{Day: n - 200, Month: 6, Dom: 10}, {Day: n, Month: 6, Dom: 12}, {Day: n + 1, Month: 2, Dom: 29}, {Day: n + 2, Month: 4, Dom: 31}, {Day: n + 5, Month: 6, Dom: 15}, {Day: n + 600, Month: 2, Dom: 30}}
	known := map[int]string{n - 200: "jul 1344 1344 jun 10", n - 1: "jul 1345 1345 jun 9", n: "jul 1345 1345 jun 12", n + 1: "jul 1345 1345 feb 29", n + 2: "jul 1345 1345 apr 31", n + 3: "jul 1345 1345 jun 13", n + 5: "jul 1345 1345 jun 15", n + 600: "jul 1346 1347 feb 30"}
	for day, want := range known {
		askReadingText(t, r, day, want)
	}
	called := func(m, d int) impl.Reading { return impl.Reading{Year: 1345, Solar: 1345, Month: m, Day: d} }
	named := []struct {
		x    impl.Reading
		days []int
	}{
		{called(6, 12), []int{n}},
		{called(6, 9), []int{n - 1}}, {called(6, 13), []int{n + 3}},
		{called(6, 15), []int{n + 5}}, // as it is called without its patch
		{called(6, 10), nil}, {called(6, 11), nil},
		{called(2, 29), []int{n + 1}}, {called(4, 31), []int{n + 2}}, {called(4, 30), []int{n - 41}},
		{impl.Reading{Year: 1344, Solar: 1344, Month: 6, Day: 10}, []int{n - 200}}, {impl.Reading{Year: 1346, Solar: 1347, Month: 2, Day: 30}, []int{n + 600}}, {impl.Reading{Year: 1346, Solar: 1346, Month: 6, Day: 12}, []int{n + 367}},
	}
	for _, c := range named {
		askDays(t, fmt.Sprint("DaysOf ", c.x), impl.DaysOf(r, c.x), c.days)
	}
	// A patch moves its day to another month, and leaves its year.
	askDays(t, "February", impl.Month(r, 1345, 2), append([]int{n + 1}, daysFromTo(julDay(1346, 2, 1), julDay(1346, 2, 28))...))
	askDays(t, "April", impl.Month(r, 1345, 4), append(daysFromTo(julDay(1345, 4, 1), julDay(1345, 4, 30)), n+2))
	june := append(daysFromTo(n-9, n), daysFromTo(n+3, n+20)...)
	askDays(t, "June", impl.Month(r, 1345, 6), june)
	askDays(t, "June of 1344", impl.Month(r, 1344, 6), []int{n - 200})
	askNextDay(t, r, n, n+367)
	askNextDay(t, r, n-200, n+365)
	askNextDay(t, r, n+1, 0)
	for day, right := range map[int]bool{n - 200: true, n: true, n + 1: false, n + 2: false, n + 5: true, n + 600: false} {
		x, _ := impl.ReadingOf(r, day)
		if _, ok := impl.Plain(x); ok != right {
			t.Errorf("Plain(%v) is a date: %v", x, ok)
		}
		if _, ok := impl.Shift(r, day); ok != right {
			t.Errorf("Shift of day %d is %v", day, ok)
		}
	}
}

func TestTwoDaysOfOneReading(t *testing.T) {
	n := julDay(1345, 6, 10)
	x := impl.Reading{Year: 1345, Solar: 1345, Month: 6, Day: 10}
	patched := impl.Regime{Name: "patched", From: n - 9, To: n + 9, Segs: []impl.Segment{span(n-9, n+9)}, Patches: []impl.Patch{{Day: n - 4, Month: 6, Dom: 10}, {Day: n + 7, Month: 6, Dom: 10}}}
	askDays(t, "by patches", impl.DaysOf(patched, x), []int{n - 4, n, n + 7})
	off := impl.Regime{Name: "off", From: n - 9, To: n + 9, Segs: []impl.Segment{span(n-9, n), {From: n + 1, To: n + 9, Off: -1}}}
	askDays(t, "by an Off", impl.DaysOf(off, x), []int{n, n + 1})
	both := copyRegime(off)
	both.Patches = []impl.Patch{{Day: n - 9, Month: 6, Dom: 10}, {Day: n + 1, Month: 6, Dom: 10}, {Day: n + 9, Month: 6, Dom: 10}}
	askDays(t, "by an Off and patches", impl.DaysOf(both, x), []int{n - 9, n, n + 1, n + 9})
	far := impl.Regime{Name: "far", From: n - 9, To: n + 9, Segs: []impl.Segment{{From: n - 9, To: n - 3, Off: 3}, {From: n - 2, To: n - 1, Off: 1}, span(n, n+1), {From: n + 2, To: n + 9, Off: -3}}}
	askDays(t, "by four Offs", impl.DaysOf(far, x), []int{n - 3, n - 1, n, n + 3})
	// Two styles: one Off brings the same date again, and another year with it.
	styles := copyRegime(off)
	styles.Segs[1].Style = impl.YPisa
	askDays(t, "the first of two styles", impl.DaysOf(styles, x), []int{n})
	x.Year = 1346
	askDays(t, "the second of two styles", impl.DaysOf(styles, x), []int{n + 1})
}

// Two calendars call two days by one month, day and year; their readings have each its own Cal.
func TestOneDateByTwoCalendars(t *testing.T) {
	n := greDay(1700, 6, 10)
	r := impl.Regime{Name: "two", From: n - 20, To: n + 20, Segs: []impl.Segment{{From: n - 20, To: n, Cal: impl.CGre}, span(n+1, n+20)}}
	x := impl.Reading{Cal: impl.CGre, Year: 1700, Solar: 1700, Month: 6, Day: 10}
	askReading(t, r, n, x, true)
	askDays(t, "by gre", impl.DaysOf(r, x), []int{n})
	askNextDay(t, r, n, n+11)
	x.Cal = impl.CJul
	askReading(t, r, n+11, x, true)
	askDays(t, "by jul", impl.DaysOf(r, x), []int{n + 11})
	askDays(t, "June by both", impl.Month(r, 1700, 6), append(daysFromTo(n-9, n), daysFromTo(n+2, n+20)...))
	// There and back, and there again with an Off: the first calendar comes again, with a day that it has told already.
	r.Segs = []impl.Segment{{From: n - 20, To: n, Cal: impl.CGre}, span(n+1, n+1), {From: n + 2, To: n + 20, Cal: impl.CGre, Off: -2}}
	x.Cal = impl.CGre
	askDays(t, "by gre twice", impl.DaysOf(r, x), []int{n, n + 2})
}

// Any field that is another makes a reading that no day, or another one, has.
func TestReadingsThatNoDayHas(t *testing.T) {
	for _, r := range []impl.Regime{romeRegime(), parisRegime(), swedenRegime(), fullRegime()} {
		told := tellRegime(r)
		for _, n := range append([]int{r.From, r.From + 50, r.To - 1, r.To}, impl.Changes(r)...) {
			fields := func(x *impl.Reading) []*int { return []*int{&x.Cal, &x.Year, &x.Solar, &x.Month, &x.Day} }
			whole := told.on(n)
			for i, number := range fields(&whole) {
				for _, other := range append([]int{-1, 0, 1, 13, 32, 3001, *number - 1, *number + 1, *number + 1<<32, -*number}, farNumbers...) {
					x := told.on(n)
					*fields(&x)[i] = other
					askDays(t, fmt.Sprintf("DaysOf(%v, %v)", r, x), impl.DaysOf(r, x), told.days[x])
				}
			}
		}
		askDays(t, "DaysOf of nothing", impl.DaysOf(r, impl.Reading{}), nil)
	}
	rome := romeRegime()
	for d := 5; d <= 14; d++ {
		for cal := range 2 {
			askDays(t, "lost", impl.DaysOf(rome, impl.Reading{Cal: cal, Year: 1582, Solar: 1582, Month: 10, Day: d}), nil)
		}
	}
	// The name that a patch has taken, and dates just beyond both ends.
	sweden := swedenRegime()
	askDays(t, "patched", impl.DaysOf(sweden, impl.Reading{Year: 1712, Solar: 1712, Month: 3, Day: 1}), []int{julDay(1712, 3, 1)})
	askDays(t, "ahead", impl.DaysOf(sweden, impl.Reading{Year: 1711, Solar: 1711, Month: 12, Day: 1}), nil)
	askDays(t, "behind", impl.DaysOf(sweden, impl.Reading{Year: 1713, Solar: 1713, Month: 1, Day: 1}), nil)
}

// most is 0 .. 1000, and cuts years of more days.
func TestYearAtMost(t *testing.T) {
	cases := []struct {
		r impl.Regime
		y int
	}{{romeRegime(), 1582}, {romeRegime(), 1583}, {parisRegime(), 1343}, {parisRegime(), 1345}, {longYearRegime(), 1345}, {brokenYearRegime(), 1345}, {brokenYearRegime(), 1346}, {evenRegime(490000, 50, impl.MaxSegs), 1342}, {evenRegime(600000, 1, 1), 1642}}
	for _, c := range cases {
		all := tellRegime(c.r).with(func(x impl.Reading) bool { return x.Year == c.y })
		for _, most := range []int{0, 1, 2, len(all) - 1, len(all), len(all) + 1, 365, 366, 700, 999, 1000} {
			askDays(t, fmt.Sprintf("Year(%s, %d, %d)", c.r.Name, c.y, most), impl.Year(c.r, c.y, most), all[:min(max(most, 0), len(all))])
		}
		for _, most := range append([]int{-1, -2, -1000, 1001, 1002, 2000, 1<<32 + 5}, farNumbers...) {
			askDays(t, fmt.Sprintf("Year(%s, %d, %d)", c.r.Name, c.y, most), impl.Year(c.r, c.y, most), nil)
		}
	}
	askDays(t, "rome's 1582", impl.Year(romeRegime(), 1582, 1000), daysFromTo(julDay(1582, 1, 1), greDay(1582, 12, 31)))
	askDays(t, "paris' 1345", impl.Year(parisRegime(), 1345, 1000), daysFromTo(julDay(1345, 3, 27), julDay(1346, 4, 15)))
	askDays(t, "the long 1345", impl.Year(longYearRegime(), 1345, 1000), daysFromTo(julDay(1344, 3, 25), julDay(1346, 4, 13)))
	broken := append(daysFromTo(julDay(1345, 1, 1), julDay(1345, 4, 30)), daysFromTo(julDay(1345, 9, 1), julDay(1345, 12, 31))...)
	askDays(t, "the broken 1345", impl.Year(brokenYearRegime(), 1345, 1000), broken)
}

func TestYearsAndMonthsThatThereAreNot(t *testing.T) {
	for _, r := range append(readingRegimes()[:12], wholeRegime()) {
		first, _ := impl.ReadingOf(r, r.From)
		last, _ := impl.ReadingOf(r, r.To)
		for _, y := range append([]int{first.Year - 9, last.Year + 9, first.Year + 1<<32, -first.Year}, otherYears...) {
			if y >= first.Year-2 && y <= last.Year+2 {
				continue
			}
			for _, most := range []int{0, 1, 1000, 1001, -1} {
				askDays(t, fmt.Sprintf("Year(%v, %d, %d)", r, y, most), impl.Year(r, y, most), nil)
			}
			for m := range 14 {
				askDays(t, fmt.Sprintf("Month(%v, %d, %d)", r, y, m), impl.Month(r, y, m), nil)
			}
		}
		for _, m := range append([]int{-12, -1, 0, 13, 14, 25, first.Month + 12, first.Month + 256, first.Month + 1<<32}, farNumbers...) {
			askDays(t, fmt.Sprintf("Month(%v, %d, %d)", r, first.Year, m), impl.Month(r, first.Year, m), nil)
		}
	}
}

func TestMonthsOfKnownYears(t *testing.T) {
	rome := romeRegime()
	askDays(t, "October 1582", impl.Month(rome, 1582, 10), append(daysFromTo(julDay(1582, 10, 1), julDay(1582, 10, 4)), daysFromTo(greDay(1582, 10, 15), greDay(1582, 10, 31))...))
	paris := parisRegime()
	askDays(t, "April 1345", impl.Month(paris, 1345, 4), append(daysFromTo(julDay(1345, 4, 1), julDay(1345, 4, 30)), daysFromTo(julDay(1346, 4, 1), julDay(1346, 4, 15))...))
	askDays(t, "January 1345", impl.Month(paris, 1345, 1), daysFromTo(julDay(1346, 1, 1), julDay(1346, 1, 31)))
	askDays(t, "January 1343", impl.Month(paris, 1343, 1), daysFromTo(julDay(1344, 1, 1), julDay(1344, 1, 31)))
	sweden := swedenRegime()
	askDays(t, "February 1712", impl.Month(sweden, 1712, 2), daysFromTo(julDay(1712, 1, 31), julDay(1712, 2, 29)))
	askDays(t, "March 1712", impl.Month(sweden, 1712, 3), daysFromTo(julDay(1712, 3, 1), julDay(1712, 3, 31)))
}

func TestKnownShifts(t *testing.T) {
	rome, n := romeRegime(), greDay(1582, 10, 15)
	askShift(t, rome, n-1, -10, true)
	askShift(t, rome, n, 0, true)
	sweden, k := swedenRegime(), julDay(1712, 2, 29)
	askShift(t, sweden, k-1, -10, true) // 29 February is told a day ahead
	askShift(t, sweden, k, 0, false)    // 30 February is no date
	askShift(t, sweden, k+1, -11, true)
	// 29 February of a year of CJul that CGre has no such date in, the days beside it, and one that both have.
	one := oneSegment(impl.CJul, impl.YJan, 0, 1499, 200)
	askShift(t, one, julDay(1500, 2, 28), -9, true)
	askShift(t, one, julDay(1500, 2, 29), 0, false)
	askShift(t, one, julDay(1500, 3, 1), -10, true)
	askShift(t, oneSegment(impl.CJul, impl.YJan, 0, 1343, 200), julDay(1344, 2, 29), -8, true)
	// The date is of the solar year, whatever year the style tells.
	askShift(t, oneSegment(impl.CGre, impl.YLady, 0, 1999, 200), greDay(2000, 2, 29), 0, true)
	askShift(t, oneSegment(impl.CGre, impl.YPisa, 0, 1999, 200), greDay(2000, 3, 25), 0, true)
	// By CGre an Off is the shift itself; a patch shifts by what lies between.
	for off := -3; off <= 3; off++ {
		askShift(t, oneSegment(impl.CGre, impl.YJan, off, 1699, 200), greDay(1699, 12, 30), off, true)
	}
	moved := oneSegment(impl.CGre, impl.YJan, 0, 1699, 200)
	moved.Patches = []impl.Patch{{Day: greDay(1700, 1, 10), Month: 12, Dom: 31}, {Day: greDay(1700, 2, 28), Month: 2, Dom: 29}}
	askShift(t, moved, greDay(1700, 1, 10), 355, true)
	askShift(t, moved, greDay(1700, 2, 28), 0, false)
	// Early on, CJul is ahead of CGre.
	askShift(t, oneSegment(impl.CJul, impl.YJan, 0, 3, 300), julDay(4, 2, 29), 2, true)
	askShift(t, oneSegment(impl.CJul, impl.YJan, 0, 99, 300), julDay(100, 2, 29), 0, false)
}

// A day is looked for on 800 days, and on those of the regime alone.
func TestNextDayAtItsLimit(t *testing.T) {
	from := julDay(1345, 1, 1)
	r := impl.Regime{Name: "next", From: from, To: from + 1600, Segs: []impl.Segment{span(from, from+1600)}}
	r.Patches = []impl.Patch{{Day: from + 10, Month: 2, Dom: 30}, {Day: from + 11, Month: 2, Dom: 31}, {Day: from + 12, Month: 4, Dom: 31}, {Day: from + 810, Month: 2, Dom: 30}, {Day: from + 811, Month: 4, Dom: 31}, {Day: from + 812, Month: 2, Dom: 31}, {Day: from + 1600, Month: 4, Dom: 31}}
	askNextDay(t, r, from+10, from+810)
	askNextDay(t, r, from+11, 0) // 801 days on
	askNextDay(t, r, from+12, from+811)
	askNextDay(t, r, from+811, from+1600)
	askNextDay(t, r, from+810, 0)
	askNextDay(t, r, from+1600, 0)
	plain := impl.Regime{Name: "next", From: from, To: from + 1600, Segs: []impl.Segment{span(from, from+1600)}}
	askNextDay(t, plain, julDay(1348, 2, 29), 0)
	for _, to := range []int{363, 364, 365, 366} {
		short := impl.Regime{Name: "short", From: from, To: from + to, Segs: []impl.Segment{span(from, from+to)}}
		want := 0
		if to >= 365 {
			want = from + 365
		}
		askNextDay(t, short, from, want)
		askNextDay(t, short, from+to, 0)
	}
	paris := parisRegime()
	askNextDay(t, paris, julDay(1345, 4, 1), julDay(1346, 4, 1))
	askNextDay(t, paris, paris.To, 0)
	askNextDay(t, paris, julDay(1347, 1, 1), 0)
	askNextDay(t, swedenRegime(), julDay(1712, 2, 29), 0)
	// A date that is lost in one year comes again in the year behind it.
	lost := impl.Regime{Name: "lost", From: greDay(1581, 10, 15), To: greDay(1584, 12, 31), Segs: []impl.Segment{span(greDay(1581, 10, 15), greDay(1582, 10, 14)), {From: greDay(1582, 10, 15), To: greDay(1584, 12, 31), Cal: impl.CGre}}}
	askNextDay(t, lost, julDay(1581, 10, 5), greDay(1583, 10, 5))
	askNextDay(t, lost, julDay(1581, 10, 15), greDay(1582, 10, 15))
}

// One day alone, FirstDay or LastDay, by each style and Off: even there each day has a reading.
func TestReadingsAtTheEndsOfTheLine(t *testing.T) {
	eachStyle(func(cal, style int) {
		for off := -3; off <= 3; off++ {
			for _, ends := range [][2]int{{impl.FirstDay, impl.FirstDay}, {impl.LastDay, impl.LastDay}, {impl.FirstDay, impl.FirstDay + 900}, {impl.LastDay - 900, impl.LastDay}, {impl.FirstDay, impl.LastDay}} {
				r := impl.Regime{Name: "ends", From: ends[0], To: ends[1], Segs: []impl.Segment{{From: ends[0], To: ends[1], Cal: cal, Style: style, Off: off}}}
				for _, n := range ends {
					cut := copyRegime(r)
					cut.From, cut.To = n, n
					cut.Segs[0].From, cut.Segs[0].To = n, n
					x := tellRegime(cut).on(n)
					askReading(t, r, n, x, true)
					if x.Year < impl.MinYear || x.Year > impl.MaxYear {
						t.Errorf("a walk gives day %d the year %d", n, x.Year)
					}
					askDays(t, fmt.Sprint("DaysOf ", x), impl.DaysOf(r, x), []int{n})
					if days := impl.Year(r, x.Year, 1000); !slices.Contains(days, n) {
						t.Errorf("Year(%v, %d) has no day %d", r, x.Year, n)
					}
					if days := impl.Month(r, x.Year, x.Month); !slices.Contains(days, n) {
						t.Errorf("Month(%v, %d, %d) has no day %d", r, x.Year, x.Month, n)
					}
					by, ok := shiftOf(x, n)
					askShift(t, r, n, by, ok)
				}
				askNoDay(t, r, r.From-1)
				askNoDay(t, r, r.To+1)
				askNextDay(t, r, r.To, 0)
			}
		}
	})
	one := evenRegime(impl.FirstDay, 1, 1)
	askReadingText(t, one, impl.FirstDay, "jul 2 2 feb 3")
	last := evenRegime(impl.LastDay, 1, 1)
	last.Segs[0].Cal, last.Segs[0].Off = impl.CGre, 3
	askReadingText(t, last, impl.LastDay, "gre 2985 2985 apr 29")
}

// A regime that is not right has no readings, wherever it is wrong.
func TestReadingsOfWrongRegimes(t *testing.T) {
	full := fullRegime()
	told := tellRegime(full)
	for _, r := range wrongRegimes() {
		askRegimeOk(t, "wrong", r, false)
		for _, n := range append([]int{600000, 600001, 600050, 600100, 600101, 600200, 600300, 600399, 600400, r.From, r.To}, farNumbers...) {
			askNoDay(t, r, n)
		}
		for _, n := range []int{600000, 600001, 600100, 600200, 600400} {
			x := told.on(n)
			askDays(t, fmt.Sprintf("DaysOf(%v, %v)", r, x), impl.DaysOf(r, x), nil)
			for _, most := range []int{0, 1, 1000, 1001} {
				askDays(t, fmt.Sprintf("Year(%v, %d, %d)", r, x.Year, most), impl.Year(r, x.Year, most), nil)
			}
			askDays(t, fmt.Sprintf("Month(%v, %d, %d)", r, x.Year, x.Month), impl.Month(r, x.Year, x.Month), nil)
		}
		askDays(t, "DaysOf of nothing", impl.DaysOf(r, impl.Reading{}), nil)
		askDays(t, "Year 0", impl.Year(r, 0, 1000), nil)
		askDays(t, "Month 0 of year 0", impl.Month(r, 0, 0), nil)
	}
}

func TestPlainOfAllNumbers(t *testing.T) {
	ask := func(x impl.Reading) {
		t.Helper()
		want, right := impl.Date{}, false
		if (x.Cal == 0 || x.Cal == 1) && x.Solar >= 1 && x.Solar <= 3000 && x.Month >= 1 && x.Month <= 12 && x.Day >= 1 && x.Day <= 31 {
			want, right = plainWords(x)
		}
		if got, ok := impl.Plain(x); got != want || ok != right {
			t.Errorf("Plain(%v) = %v, %v, want %v, %v", x, got, ok, want, right)
		}
	}
	for _, cal := range append(slices.Clone(calendars), otherCalendars...) {
		for _, solar := range append([]int{1, 4, 100, 400, 1344, 1345, 1500, 1582, 1600, 1700, 2000, 2999, 3000}, otherYears...) {
			for m := -1; m <= 14; m++ {
				for _, d := range []int{-1, 0, 1, 15, 28, 29, 30, 31, 32} {
					ask(impl.Reading{Cal: cal, Year: 1300, Solar: solar, Month: m, Day: d})
				}
			}
		}
	}
	right := impl.Reading{Cal: impl.CGre, Year: 1345, Solar: 1346, Month: 2, Day: 28}
	for _, far := range farNumbers {
		for i := range 5 {
			x := right
			*[]*int{&x.Cal, &x.Year, &x.Solar, &x.Month, &x.Day}[i] = far
			ask(x)
		}
	}
	ask(impl.Reading{})
	// The Year is not asked for, the Solar is.
	if d, ok := impl.Plain(impl.Reading{Cal: impl.CGre, Year: -7, Solar: 1600, Month: 2, Day: 29}); !ok || d != date(impl.CGre, 1600, 2, 29) {
		t.Errorf("29 February 1600 is %v, %v", d, ok)
	}
	if d, ok := impl.Plain(impl.Reading{Cal: impl.CGre, Year: 1600, Solar: 1601, Month: 2, Day: 29}); ok || d != (impl.Date{}) {
		t.Errorf("29 February 1601 is %v, %v", d, ok)
	}
}

// Cal and Month alone must be right; the rest is told as it is.
func TestReadingTextOfAllNumbers(t *testing.T) {
	ask := func(x impl.Reading) {
		t.Helper()
		want := ""
		if (x.Cal == 0 || x.Cal == 1) && x.Month >= 1 && x.Month <= 12 {
			want = calWords[x.Cal] + " " + strconv.Itoa(x.Year) + " " + strconv.Itoa(x.Solar) + " " + monthWords[x.Month-1] + " " + strconv.Itoa(x.Day)
		}
		if got := impl.ReadingText(x); got != want {
			t.Errorf("ReadingText(%v) = %q, want %q", x, got, want)
		}
	}
	numbers := append([]int{-1345, -10, -1, 0, 1, 9, 10, 31, 32, 1345, 3001, 10000}, farNumbers...)
	for _, year := range numbers {
		for _, solar := range numbers {
			for _, day := range numbers {
				ask(impl.Reading{Cal: impl.CJul, Year: year, Solar: solar, Month: 2, Day: day})
				ask(impl.Reading{Cal: impl.CGre, Year: year, Solar: solar, Month: 12, Day: day})
				ask(impl.Reading{Cal: 2, Year: year, Solar: solar, Month: 12, Day: day})
				ask(impl.Reading{Cal: impl.CGre, Year: year, Solar: solar, Month: 13, Day: day})
			}
		}
	}
	for _, cal := range append(slices.Clone(calendars), otherCalendars...) {
		for _, m := range append(daysFromTo(-14, 27), farNumbers...) {
			ask(impl.Reading{Cal: cal, Year: 1345, Solar: 1346, Month: m, Day: 5})
			ask(impl.Reading{Cal: cal, Month: m})
		}
	}
	known := map[string]impl.Reading{
		"jul 1345 1346 feb 30": {Year: 1345, Solar: 1346, Month: 2, Day: 30}, "gre 0 -1 dec -7": {Cal: impl.CGre, Solar: -1, Month: 12, Day: -7},
		"jul -9223372036854775808 9223372036854775807 jan 0": {Year: math.MinInt, Solar: math.MaxInt, Month: 1}, "": {},
	}
	for want, x := range known {
		if got := impl.ReadingText(x); got != want {
			t.Errorf("ReadingText(%v) = %q, want %q", x, got, want)
		}
	}
}

// Nothing is written into a regime, nor into the spare room behind its lists.
func TestReadingsLeaveTheirArguments(t *testing.T) {
	room := fullRegime()
	kept := copyRegime(room)
	r := room
	r.Segs, r.Patches, r.Reigns, r.To = room.Segs[:3], room.Patches[:2], room.Reigns[:2], 600299
	for _, r := range []impl.Regime{room, r} {
		askRegimeOk(t, "cut", r, true)
		for n := r.From - 1; n <= r.To+1; n++ {
			x, _ := impl.ReadingOf(r, n)
			impl.DaysOf(r, x)
			impl.Year(r, x.Year, 1000)
			impl.Month(r, x.Year, x.Month)
			impl.Shift(r, n)
			impl.NextDay(r, n)
		}
		askSame(t, "the argument", room, kept, true)
	}
}

func TestReadingAnswersAreNewMemory(t *testing.T) {
	r := fullRegime()
	x, _ := impl.ReadingOf(r, 600100)
	ask := func(what string, days func() []int) {
		t.Helper()
		first := days()
		kept := slices.Clone(first)
		for i := range first[:cap(first)] {
			first[:cap(first)][i] = -1
		}
		if second := days(); len(kept) == 0 || !slices.Equal(second, kept) {
			t.Errorf("%s is %v, and was %v", what, second, kept)
		}
		askSame(t, what, r, fullRegime(), true)
	}
	ask("DaysOf", func() []int { return impl.DaysOf(r, x) })
	ask("Year", func() []int { return impl.Year(r, x.Year, 1000) })
	ask("the beginning of Year", func() []int { return impl.Year(r, x.Year, 3) })
	ask("Month", func() []int { return impl.Month(r, x.Year, x.Month) })
}

// What Year answers hangs neither on how its workers run nor on others who ask at the same time.
func TestYearOfManyAtOnce(t *testing.T) {
	r := evenRegime(490000, 50, impl.MaxSegs)
	told := tellRegime(r)
	var asked sync.WaitGroup
	for i := range 64 {
		y := 1341 + i%6
		want := told.with(func(x impl.Reading) bool { return x.Year == y })
		asked.Go(func() {
			for range 20 {
				if got := impl.Year(r, y, 1000); !slices.Equal(got, want) {
					t.Errorf("Year(%d) = %v, want %v", y, got, want)
				}
			}
		})
	}
	asked.Wait()
}
