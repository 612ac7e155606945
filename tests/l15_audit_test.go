package tests

import (
	"fmt"
	"math/rand"
	"slices"
	"strconv"
	"sync"
	"testing"

	"loop.example/g00638/impl"
)

var weekdayWords = []string{"sun", "mon", "tue", "wed", "thu", "fri", "sat"}

var otherWeekdays = append([]int{-8, -7, -6, -2, -1, 7, 8, 13, 14, 256, 1<<32 + 1}, farNumbers...)

// auditedRegime tells what is odd in a regime by walks through its days.
type auditedRegime struct {
	writtenRegime
	reigned map[[3]int][]int
}

func auditSegments(r impl.Regime) auditedRegime {
	return auditedRegime{writtenRegime: writeSegments(r), reigned: map[[3]int][]int{}}
}

func (x auditedRegime) segment(n int) impl.Segment {
	return x.Segs[slices.IndexFunc(x.Segs, func(s impl.Segment) bool { return s.From <= n && n <= s.To })]
}

// lost walks from the date of the day ahead to that of the first day, and is nothing where that is not behind.
func (x auditedRegime) lost(i int) []impl.Date {
	if i < 1 || i >= len(x.Segs) {
		return nil
	}
	a, b := x.on(x.Segs[i].From-1), x.on(x.Segs[i].From)
	a.Cal = b.Cal
	d, hasA := plainWords(a)
	end, hasB := plainWords(b)
	if !hasA || !hasB || d.Year*10000+d.Month*100+d.Day > end.Year*10000+end.Month*100+end.Day {
		return nil
	}
	var dates []impl.Date
	for d != end && len(dates) < 41 {
		dates = append(dates, d)
		d = nextDate(d)
	}
	return dates[min(1, len(dates)):]
}

// twice holds each two days of from .. to against each other; nothing where so many may not be asked for. It wants no ends that are far off.
func (x auditedRegime) twice(from, to int) [][2]int {
	if from < impl.FirstDay || from > impl.LastDay || to < impl.FirstDay || to > impl.LastDay || to-from+1 > 500 {
		return nil
	}
	var pairs [][2]int
	days := x.has(from, to)
	for i, n := range days {
		for _, k := range days[i+1:] {
			if a, b := x.on(n), x.on(k); a.Year == b.Year && a.Month == b.Month && a.Day == b.Day {
				pairs = append(pairs, [2]int{n, k})
			}
		}
	}
	return pairs
}

func (x auditedRegime) ofYear(y int) []int {
	return x.with(func(z impl.Reading) bool { return z.Year == y })
}

// fits counts weekdays from day 1 on, which is a Monday.
func (x auditedRegime) fits(s impl.Saying, w int) []int {
	return slices.DeleteFunc(x.meant(s), func(n int) bool { return n%7 != w })
}

// taxYear is the number of the indiction by the calendar of a day's segment, whatever its Off.
func (x auditedRegime) taxYear(n int) int {
	begins := styleLines()[x.segment(n).Cal][impl.YSept]
	y := n / 366
	for begins[y+1] <= n {
		y++
	}
	return eraNumber(eraRows[5], y)
}

func (x auditedRegime) agree(s impl.Saying, w, k int) []int {
	return slices.DeleteFunc(x.fits(s, w), func(n int) bool { return x.taxYear(n) != k })
}

// reignWords walks through a reign, once for each calendar and style.
func (x auditedRegime) reignWords(n int) string {
	i := reignOn(x.Reigns, n)
	if i < 0 {
		return "-"
	}
	s := x.segment(n)
	key := [3]int{s.Cal, s.Style, i}
	if x.reigned[key] == nil {
		x.reigned[key] = reignYears(s.Cal, s.Style, x.Rule, x.Reigns[i])
	}
	return numeral(x.reigned[key][n-x.Reigns[i].From]) + " " + x.Reigns[i].Name
}

func (x auditedRegime) dated(n int) string {
	text := x.text(n, impl.WDay)
	if text == "" {
		text = "-"
	}
	return text + "," + weekdayWords[n%7] + "," + eraTell(eraRows[5], x.taxYear(n)) + "," + x.reignWords(n)
}

// feastsIn goes day by day, and tells a feast on each day that it is.
func (x auditedRegime) feastsIn(y int) []string {
	var names []string
	days := map[[2]int][]int{}
	for _, n := range x.ofYear(y) {
		year := [2]int{x.on(n).Cal, x.on(n).Solar}
		if days[year] == nil {
			for _, f := range feastRows[:10] {
				days[year] = append(days[year], feastDay(year[0], year[1], f))
			}
		}
		for i, day := range days[year] {
			if day == n+x.segment(n).Off {
				names = append(names, feastRows[i].Name)
			}
		}
	}
	return names
}

func askLost(t *testing.T, r impl.Regime, i int, want ...impl.Date) {
	t.Helper()
	if got := impl.Lost(r, i); !slices.Equal(got, want) {
		t.Errorf("Lost(%v, %d) = %v, want %v", r, i, got, want)
	}
}

// askLostRow asks for dates from a first one to a last one.
func askLostRow(t *testing.T, r impl.Regime, i int, first, last impl.Date) {
	t.Helper()
	want := []impl.Date{first}
	for want[len(want)-1] != last && len(want) < 1000 {
		want = append(want, nextDate(want[len(want)-1]))
	}
	askLost(t, r, i, want...)
}

func askTwice(t *testing.T, r impl.Regime, from, to int, want ...[2]int) {
	t.Helper()
	if got := impl.Twice(r, from, to); !slices.Equal(got, want) {
		t.Errorf("Twice(%v, %d, %d) = %v, want %v", r, from, to, got, want)
	}
}

func askLength(t *testing.T, r impl.Regime, y, want int) {
	t.Helper()
	if got := impl.Length(r, y); got != want {
		t.Errorf("Length(%v, %d) = %d, want %d", r, y, got, want)
	}
}

func askFits(t *testing.T, r impl.Regime, s string, w int, want ...int) {
	t.Helper()
	if got := impl.Fits(r, s, w); !slices.Equal(got, want) {
		t.Errorf("Fits(%v, %.99q, %d) = %v, want %v", r, s, w, got, want)
	}
}

func askDated(t *testing.T, r impl.Regime, n int, want string) {
	t.Helper()
	if got := impl.Dated(r, n); got != want {
		t.Errorf("Dated(%v, %d) = %q, want %q", r, n, got, want)
	}
}

func askAgree(t *testing.T, r impl.Regime, s string, w, k int, want ...int) {
	t.Helper()
	if got := impl.Agree(r, s, w, k); !slices.Equal(got, want) {
		t.Errorf("Agree(%v, %.99q, %d, %d) = %v, want %v", r, s, w, k, got, want)
	}
}

func askFeastsIn(t *testing.T, r impl.Regime, y int, want ...string) {
	t.Helper()
	if got := impl.FeastsIn(r, y); !slices.Equal(got, want) {
		t.Errorf("FeastsIn(%v, %d) = %q, want %q", r, y, got, want)
	}
}

// askOddSegments asks for each segment, and for numbers beside.
func askOddSegments(t *testing.T, x auditedRegime) {
	t.Helper()
	for i := range len(x.Segs) + 3 {
		askLost(t, x.Regime, i, x.lost(i)...)
	}
	for _, i := range append([]int{-1, -2, impl.MaxSegs, impl.MaxSegs + 1, 256, 1<<32 + 1}, farNumbers...) {
		if i < 0 || i >= len(x.Segs) {
			askLost(t, x.Regime, i)
		}
	}
}

// oddWindows are around each change, at both ends, of as many days as may be and of one more.
func (x auditedRegime) oddWindows(random *rand.Rand) [][2]int {
	list := [][2]int{{x.From, x.From + 499}, {x.From, x.From + 500}, {x.To - 499, x.To}, {x.To - 500, x.To}, {x.From - 250, x.From + 249}, {x.To - 249, x.To + 250}, {x.From, x.From}, {x.From, x.From - 1}, {x.To, x.From}, {x.From - 499, x.From - 1}, {x.To + 1, x.To + 400}, {x.From - 1, x.From - 1}}
	for _, s := range x.Segs {
		list = append(list, [2]int{s.From - 250, s.From + 249}, [2]int{s.From - 8, s.From + 8})
	}
	for range 4 {
		from := x.From - 100 + random.Intn(x.To-x.From+200)
		list = append(list, [2]int{from, from + random.Intn(500)}, [2]int{from, from + 400 + random.Intn(110)})
	}
	return list
}

// askOddYears asks for all years that some day has, and those beside.
func askOddYears(t *testing.T, x auditedRegime) {
	t.Helper()
	for _, y := range x.years() {
		askLength(t, x.Regime, y, len(x.ofYear(y)))
		askFeastsIn(t, x.Regime, y, x.feastsIn(y)...)
	}
}

// askOddDay asks for a day's own sayings, by its weekday and indiction and by others.
func askOddDay(t *testing.T, x auditedRegime, n int) {
	t.Helper()
	askDated(t, x.Regime, n, x.dated(n))
	for _, kind := range kinds {
		w, ok := x.when(n, kind)
		if !ok || kind != impl.WDay && (n+kind)%5 != 0 {
			continue
		}
		s := markedSaying(w, x.on(n), n%4)
		text := sayingWords(s)
		for _, day := range []int{n % 7, n / 7 % 7} {
			askFits(t, x.Regime, text, day, x.fits(s, day)...)
			for _, k := range []int{x.taxYear(n), n/3%17 - 1} {
				askAgree(t, x.Regime, text, day, k, x.agree(s, day, k)...)
			}
		}
	}
}

// withReigns gives a regime reigns around its days, some of which touch.
func withReigns(random *rand.Rand, r impl.Regime) impl.Regime {
	r.Rule, r.Reigns = random.Intn(2), nil
	from := max(1, r.From-random.Intn(900))
	for _, name := range []string{"otto", "otho", "henry", "a", "conradus", "abcdefghijklmnop"}[:random.Intn(7)] {
		to := from + random.Intn(1+random.Intn(max(1, (r.To-r.From)/2)+400))
		r.Reigns = append(r.Reigns, impl.Reign{Name: name, From: from, To: to})
		from = to + 1 + random.Intn(2)*random.Intn(40)
	}
	return r
}

func auditRegimes() []impl.Regime {
	random := rand.New(rand.NewSource(15))
	var list []impl.Regime
	for i, r := range writingRegimes() {
		if len(r.Reigns) == 0 && i%3 > 0 {
			r = withReigns(random, r)
		}
		list = append(list, r)
	}
	return list
}

// Promise 15 for right regimes of one to twenty segments, day by day; and there is some of all that may be odd.
func TestOddByRegimes(t *testing.T) {
	list := auditRegimes()
	counts := make([][8]int, len(list))
	t.Run("each", func(t *testing.T) {
		for i, r := range list {
			t.Run(strconv.Itoa(i)+" "+r.Name, func(t *testing.T) {
				t.Parallel()
				askRegimeOk(t, "right", r, true)
				x := auditSegments(r)
				askOddSegments(t, x)
				for _, w := range x.oddWindows(rand.New(rand.NewSource(int64(i)))) {
					askTwice(t, r, w[0], w[1], x.twice(w[0], w[1])...)
				}
				askOddYears(t, x)
				for n := r.From; n <= r.To; n++ {
					askOddDay(t, x, n)
				}
				for _, n := range append([]int{r.From - 1, r.To + 1, 0, -1, 1, impl.FirstDay - 1, impl.LastDay + 1, -r.From, r.From + 1<<32}, farDays...) {
					askDated(t, r, n, "")
				}
				counts[i] = x.counts()
			})
		}
	})
	for k := range counts[0] {
		if !slices.ContainsFunc(counts, func(row [8]int) bool { return row[k] > 0 }) {
			t.Errorf("no regime has what stands at %d", k)
		}
	}
}

// counts tells how often segments begin with no date lost, with one and with more, how many days are named alike and without a writing, with a reign and without one, and how many years have a feast twice.
func (x auditedRegime) counts() [8]int {
	var row [8]int
	for i := range x.Segs[1:] {
		row[min(len(x.lost(i+1)), 2)]++
	}
	for _, w := range x.oddWindows(rand.New(rand.NewSource(1))) {
		row[3] += len(x.twice(w[0], w[1]))
	}
	for n := x.From; n <= x.To; n++ {
		row[4] += len(keepIf(x.marks(n, impl.WDay) < 0, []int{n}))
		row[5+min(reignOn(x.Reigns, n)+1, 1)]++
	}
	for _, y := range x.years() {
		names := x.feastsIn(y)
		slices.Sort(names)
		row[7] += len(names) - len(slices.Compact(names))
	}
	return row
}

// Promise 15 as it stands, by the program's own answers.
func TestOddByItsOwnAnswers(t *testing.T) {
	for i, r := range auditRegimes() {
		t.Run(strconv.Itoa(i)+" "+r.Name, func(t *testing.T) {
			t.Parallel()
			for k := range r.Segs {
				askRowOfDates(t, r, k)
			}
			for from := r.From - 20; from <= r.To; from += 499 {
				askNamedTwice(t, r, max(from, impl.FirstDay), min(from+499, impl.LastDay))
			}
			for n := r.From; n <= r.To; n += 3 {
				x, _ := impl.ReadingOf(r, n)
				askWeekdays(t, r, fmt.Sprintf("%d %s %d", x.Day, monthWords[x.Month-1], x.Year))
			}
		})
	}
}

// askRowOfDates asks that one date lost is the day behind the other, and that both ends stand beside dates that are not lost.
func askRowOfDates(t *testing.T, r impl.Regime, i int) {
	t.Helper()
	list := impl.Lost(r, i)
	for k, d := range list {
		if !impl.DateOk(d) || d.Cal != r.Segs[i].Cal || k > 0 && impl.DayOf(d) != impl.DayOf(list[k-1])+1 {
			t.Errorf("Lost(%v, %d) is no row: %v", r, i, list)
		}
	}
	if len(list) == 0 {
		return
	}
	x, _ := impl.ReadingOf(r, r.Segs[i].From-1)
	y, _ := impl.ReadingOf(r, r.Segs[i].From)
	x.Cal = y.Cal
	a, _ := impl.Plain(x)
	b, _ := impl.Plain(y)
	if impl.DayOf(list[0]) != impl.DayOf(a)+1 || len(list) != min(impl.DayOf(b)-impl.DayOf(a)-1, 40) {
		t.Errorf("Lost(%v, %d) is %v, between %v and %v", r, i, list, a, b)
	}
}

// askNamedTwice asks that both days of each pair have one name, and that each day that may have a namesake is in a pair.
func askNamedTwice(t *testing.T, r impl.Regime, from, to int) {
	t.Helper()
	type name struct{ year, month, day int }
	called := map[name][]int{}
	for n := from; n <= to; n++ {
		if x, ok := impl.ReadingOf(r, n); ok {
			key := name{x.Year, x.Month, x.Day}
			called[key] = append(called[key], n)
		}
	}
	count := 0
	for _, days := range called {
		count += len(days) * (len(days) - 1) / 2
	}
	pairs := impl.Twice(r, from, to)
	for i, p := range pairs {
		x, hasX := impl.ReadingOf(r, p[0])
		y, hasY := impl.ReadingOf(r, p[1])
		if !hasX || !hasY || p[0] < from || p[0] >= p[1] || p[1] > to || x.Year != y.Year || x.Month != y.Month || x.Day != y.Day {
			t.Errorf("Twice(%v, %d, %d) has %v: %v and %v", r, from, to, p, x, y)
		}
		if i > 0 && slices.Compare(pairs[i-1][:], p[:]) >= 0 {
			t.Errorf("Twice(%v, %d, %d) has %v behind %v", r, from, to, p, pairs[i-1])
		}
	}
	if len(pairs) != count {
		t.Errorf("Twice(%v, %d, %d) has %d pairs, and there are %d", r, from, to, len(pairs), count)
	}
}

// askWeekdays asks that each day that a text means fits by its own weekday alone, and agrees by its own indiction alone.
func askWeekdays(t *testing.T, r impl.Regime, s string) {
	t.Helper()
	days, _ := impl.Read(r, s)
	for w := range 7 {
		own := slices.DeleteFunc(slices.Clone(days), func(n int) bool { return impl.Weekday(n) != w })
		askFits(t, r, s, w, own...)
		for k := 1; k <= 15; k++ {
			agreed := slices.DeleteFunc(slices.Clone(own), func(n int) bool {
				number, _ := impl.EraYear(r.Segs[impl.SegAt(r, n)].Cal, eraRows[5], n)
				return number != k
			})
			askAgree(t, r, s, w, k, agreed...)
		}
	}
}

// Promise 15 by both calendars, all styles and all Offs, each with patches and reigns and without, ahead of other segments.
func TestOddByEachStyleAndOff(t *testing.T) {
	eachStyle(func(cal, style int) {
		t.Run(calWords[cal]+" "+styleWords[style], func(t *testing.T) {
			t.Parallel()
			random := rand.New(rand.NewSource(int64(cal*impl.Styles + style)))
			for off := -3; off <= 3; off++ {
				for i, y := range []int{1344, 1499, 1699} {
					r := oneSegment(cal, style, off, y, 950)
					if i > 0 {
						r = changingRegime(random, r)
					}
					if (off+style+cal+i)%2 == 0 {
						r.Patches = manyPatches(max(r.From, r.Segs[len(r.Segs)-1].From-random.Intn(4)), impl.MaxPatches)
						r = withReigns(random, r)
					}
					askRegimeOk(t, "right", r, true)
					x := auditSegments(r)
					askOddSegments(t, x)
					askOddYears(t, x)
					for _, w := range x.oddWindows(random) {
						askTwice(t, r, w[0], w[1], x.twice(w[0], w[1])...)
					}
					for n := r.From + (off+3)%3; n <= r.To; n += 3 {
						askOddDay(t, x, n)
					}
				}
			}
		})
	})
}

// changingRegime cuts a regime of one segment in three, the first of which stays as it is.
func changingRegime(random *rand.Rand, r impl.Regime) impl.Regime {
	s := r.Segs[0]
	a := s.From + 200 + random.Intn(200)
	b := a + 1 + random.Intn(300)
	r.Segs = []impl.Segment{
		{From: s.From, To: a - 1, Cal: s.Cal, Style: s.Style, Off: s.Off},
		{From: a, To: b - 1, Cal: random.Intn(2), Style: random.Intn(impl.Styles), Off: random.Intn(7) - 3},
		{From: b, To: s.To, Cal: random.Intn(2), Style: random.Intn(impl.Styles), Off: random.Intn(7) - 3},
	}
	return r
}

// The whole line in twenty segments: each of them, days around each change, years of both ends and of each change.
func TestOddOnTheWholeLine(t *testing.T) {
	t.Parallel()
	r := withReigns(rand.New(rand.NewSource(6)), wholeRegime())
	r.Patches = []impl.Patch{{Day: impl.FirstDay, Month: 2, Dom: 31}, {Day: 490904, Month: 6, Dom: 24}, {Day: impl.LastDay, Month: 4, Dom: 31}}
	askRegimeOk(t, "whole", r, true)
	x := auditSegments(r)
	askOddSegments(t, x)
	days := []int{r.From, r.From + 1, r.To - 1, r.To, 490903, 490904, 490905}
	for _, n := range impl.Changes(r) {
		days = append(days, daysFromTo(n-10, n+10)...)
		askTwice(t, r, n-250, n+249, x.twice(n-250, n+249)...)
		askTwice(t, r, n-250, n+250)
	}
	for n := r.From; n <= r.To; n += 9001 {
		days = append(days, n)
	}
	years := []int{1, 2, 2984, 2985}
	for _, n := range days {
		askOddDay(t, x, n)
		years = append(years, x.on(n).Year)
	}
	slices.Sort(years)
	for _, y := range slices.Compact(years) {
		askLength(t, r, y, len(x.ofYear(y)))
		askFeastsIn(t, r, y, x.feastsIn(y)...)
	}
	for _, n := range append([]int{impl.FirstDay - 1, impl.LastDay + 1, 0, -1, 1, -490904, 490904 + 1<<32}, farDays...) {
		askDated(t, r, n, "")
	}
}

// changeRegime has a hundred days by one segment, and a hundred from day n on by another one.
func changeRegime(n int, first, second impl.Segment, patches ...impl.Patch) impl.Regime {
	first.From, first.To, second.From, second.To = n-100, n-1, n, n+99
	return impl.Regime{Name: "change", From: n - 100, To: n + 99, Segs: []impl.Segment{first, second}, Patches: patches}
}

// Segments of which nothing but the calendar matters.
var plainJul, plainGre = impl.Segment{}, impl.Segment{Cal: impl.CGre}

// Dates are lost where a segment begins, but for the first one.
func TestLostOfKnownChanges(t *testing.T) {
	rome := romeRegime()
	askLostRow(t, rome, 1, date(impl.CGre, 1582, 10, 5), date(impl.CGre, 1582, 10, 14))
	askLost(t, rome, 0)
	askLost(t, rome, 2)
	askLost(t, parisRegime(), 0)
	askLost(t, parisRegime(), 1)
	london := changeRegime(greDay(1752, 9, 14), plainJul, plainGre)
	askLostRow(t, london, 1, date(impl.CGre, 1752, 9, 3), date(impl.CGre, 1752, 9, 13))
	askLost(t, london, 0)
	// Over the end of a year, and whatever the styles.
	brabant := changeRegime(greDay(1583, 1, 1), impl.Segment{Style: impl.YEaster}, impl.Segment{Cal: impl.CGre, Style: impl.YYule})
	askLostRow(t, brabant, 1, date(impl.CGre, 1582, 12, 22), date(impl.CGre, 1582, 12, 31))
	// Back from the one to the other no date is lost, but so early that CJul is ahead.
	askLost(t, changeRegime(greDay(1753, 9, 14), plainGre, plainJul), 1)
	askLost(t, changeRegime(greDay(1582, 10, 15), plainGre, plainJul), 1)
	askLost(t, changeRegime(greDay(250, 6, 1), plainGre, plainJul), 1)
	askLost(t, changeRegime(greDay(250, 6, 1), plainJul, plainGre), 1)
	askLostRow(t, changeRegime(julDay(150, 6, 2), plainGre, plainJul), 1, date(impl.CJul, 150, 6, 1), date(impl.CJul, 150, 6, 1))
	askLostRow(t, changeRegime(julDay(50, 6, 3), plainGre, plainJul), 1, date(impl.CJul, 50, 6, 1), date(impl.CJul, 50, 6, 2))
	askLost(t, changeRegime(julDay(50, 6, 3), plainJul, plainGre), 1)
	// The second segment and the last one of three.
	both := impl.Regime{Name: "both", From: rome.From, To: rome.To, Segs: []impl.Segment{rome.Segs[0], rome.Segs[1], rome.Segs[1]}}
	both.Segs[1].To = greDay(1583, 2, 28)
	both.Segs[2].From, both.Segs[2].Off = greDay(1583, 3, 1), 2
	askLostRow(t, both, 1, date(impl.CGre, 1582, 10, 5), date(impl.CGre, 1582, 10, 14))
	askLostRow(t, both, 2, date(impl.CGre, 1583, 3, 1), date(impl.CGre, 1583, 3, 2))
	askLost(t, both, 0)
	askLost(t, both, 3)
	askLost(t, both, -1)
}

// An Off that changes alone loses as many dates as it goes on, and none where it goes back.
func TestLostByEachChangeOfOff(t *testing.T) {
	n := julDay(1700, 2, 29)
	for a := -3; a <= 3; a++ {
		for b := -3; b <= 3; b++ {
			r := changeRegime(n, impl.Segment{Off: a}, impl.Segment{Off: b, Style: impl.YMarch})
			var want []impl.Date
			for k := a; k < b; k++ {
				want = append(want, dateByWalk(impl.CJul, n+k))
			}
			askLost(t, r, 1, want...)
			askLost(t, r, 0)
		}
	}
	askLost(t, changeRegime(n, plainJul, impl.Segment{Off: 1}), 1, date(impl.CJul, 1700, 2, 29))
	askLost(t, swedenRegime(), 1)
	unpatched := swedenRegime()
	unpatched.Patches = nil
	askLost(t, unpatched, 1)
	// Both calendars and both Offs together.
	askLostRow(t, changeRegime(greDay(2984, 6, 1), impl.Segment{Off: -3}, impl.Segment{Cal: impl.CGre, Off: 3}), 1, date(impl.CGre, 2984, 5, 9), date(impl.CGre, 2984, 6, 3))
}

// Patches may lead as far off as makes forty dates lost, and more.
func TestLostByPatches(t *testing.T) {
	n := julDay(1345, 6, 1)
	first := func(month, dom int) impl.Regime {
		return changeRegime(n, plainJul, impl.Segment{Style: impl.YLady}, impl.Patch{Day: n, Month: month, Dom: dom})
	}
	ahead := func(month, dom int) impl.Regime {
		return changeRegime(n, plainJul, impl.Segment{Style: impl.YLady}, impl.Patch{Day: n - 1, Month: month, Dom: dom})
	}
	june, july := date(impl.CJul, 1345, 6, 1), func(d int) impl.Date { return date(impl.CJul, 1345, 7, d) }
	for dom, count := range map[int]int{10: 39, 11: 40, 12: 40, 13: 40, 31: 40} {
		askLostRow(t, first(7, dom), 1, june, july(min(dom-1, 10)))
		if got := len(impl.Lost(first(7, dom), 1)); got != count {
			t.Errorf("%d dates are lost up to %d July", got, dom)
		}
	}
	askLostRow(t, first(12, 31), 1, june, july(10))
	askLost(t, first(6, 2), 1, june)
	askLost(t, first(6, 1), 1)
	askLost(t, first(5, 31), 1)
	askLost(t, first(5, 30), 1)
	askLost(t, first(1, 1), 1)
	askLostRow(t, ahead(1, 12), 1, date(impl.CJul, 1345, 1, 13), date(impl.CJul, 1345, 2, 21))
	askLostRow(t, ahead(4, 20), 1, date(impl.CJul, 1345, 4, 21), date(impl.CJul, 1345, 5, 30))
	askLostRow(t, ahead(4, 21), 1, date(impl.CJul, 1345, 4, 22), date(impl.CJul, 1345, 5, 31))
	askLost(t, ahead(5, 30), 1, date(impl.CJul, 1345, 5, 31))
	askLost(t, ahead(5, 31), 1)
	askLost(t, ahead(6, 1), 1)
	askLost(t, ahead(6, 2), 1)
	askLost(t, ahead(12, 31), 1)
	// Both days patched, and none of both.
	both := changeRegime(n, plainJul, plainJul, impl.Patch{Day: n - 1, Month: 8, Dom: 1}, impl.Patch{Day: n, Month: 8, Dom: 4})
	askLostRow(t, both, 1, date(impl.CJul, 1345, 8, 2), date(impl.CJul, 1345, 8, 3))
	beside := changeRegime(n, plainJul, plainJul, impl.Patch{Day: n - 2, Month: 1, Dom: 1}, impl.Patch{Day: n + 1, Month: 12, Dom: 31})
	askLost(t, beside, 1)
	// A month and a day that is no date is not told behind or ahead of any.
	for _, dom := range []int{29, 30, 31} {
		askLost(t, first(2, dom), 1)
		askLost(t, ahead(2, dom), 1)
	}
	askLost(t, first(9, 31), 1)
	askLost(t, ahead(4, 31), 1)
	// By their solar years, the patched day may be far ahead.
	k := julDay(1346, 1, 1)
	over := changeRegime(k, plainJul, plainJul, impl.Patch{Day: k, Month: 1, Dom: 3})
	askLostRow(t, over, 1, date(impl.CJul, 1346, 1, 1), date(impl.CJul, 1346, 1, 2))
	over.Patches[0] = impl.Patch{Day: k - 1, Month: 12, Dom: 1}
	askLostRow(t, over, 1, date(impl.CJul, 1345, 12, 2), date(impl.CJul, 1345, 12, 31))
	over.Patches[0] = impl.Patch{Day: k, Month: 12, Dom: 31}
	askLostRow(t, over, 1, date(impl.CJul, 1346, 1, 1), date(impl.CJul, 1346, 2, 9))
}

// The day ahead is asked for by the calendar of the first day, in which its date may be none; or one alone there.
func TestLostByDatesOfOneCalendar(t *testing.T) {
	eve := julDay(1700, 2, 29)
	askLost(t, changeRegime(eve+1, plainJul, plainGre), 1)
	askLostRow(t, changeRegime(eve, plainJul, plainGre), 1, date(impl.CGre, 1700, 3, 1), date(impl.CGre, 1700, 3, 10))
	askLostRow(t, changeRegime(eve+2, plainJul, plainGre), 1, date(impl.CGre, 1700, 3, 2), date(impl.CGre, 1700, 3, 12))
	askLostRow(t, changeRegime(greDay(1700, 3, 1), plainJul, plainGre), 1, date(impl.CGre, 1700, 2, 19), date(impl.CGre, 1700, 2, 28))
	leap := julDay(1600, 2, 29)
	askLostRow(t, changeRegime(leap+1, plainJul, plainGre), 1, date(impl.CGre, 1600, 3, 1), date(impl.CGre, 1600, 3, 10))
	// A patch may name a day of CGre as a date that CJul alone has.
	n := greDay(1700, 3, 21)
	askLostRow(t, changeRegime(n, plainGre, plainJul, impl.Patch{Day: n - 1, Month: 2, Dom: 29}), 1, date(impl.CJul, 1700, 3, 1), date(impl.CJul, 1700, 3, 9))
	askLost(t, changeRegime(n, plainGre, plainGre, impl.Patch{Day: n - 1, Month: 2, Dom: 29}), 1)
	askLost(t, changeRegime(n, plainJul, plainGre, impl.Patch{Day: n - 1, Month: 2, Dom: 29}), 1)
	// The first day is asked for by its own calendar.
	k := julDay(1700, 2, 10)
	askLostRow(t, changeRegime(k, plainJul, plainJul, impl.Patch{Day: k, Month: 2, Dom: 29}), 1, date(impl.CJul, 1700, 2, 10), date(impl.CJul, 1700, 2, 28))
	askLost(t, changeRegime(k, plainJul, plainGre, impl.Patch{Day: k, Month: 2, Dom: 29}), 1)
}

func TestTwiceOfKnownDays(t *testing.T) {
	paris := parisRegime()
	n, k := julDay(1345, 3, 27), julDay(1346, 3, 27)
	pairs := func(from, to int) [][2]int {
		var list [][2]int
		for i := from; i <= to; i++ {
			list = append(list, [2]int{n + i, k + i})
		}
		return list
	}
	askTwice(t, paris, n-20, k+40, pairs(0, 19)...)
	askTwice(t, paris, n, k+19, pairs(0, 19)...)
	askTwice(t, paris, n+1, k+18, pairs(1, 18)...)
	askTwice(t, paris, n+19, k+19, pairs(19, 19)...)
	askTwice(t, paris, n, k, pairs(0, 0)...)
	askTwice(t, paris, n, k-1)
	askTwice(t, paris, n+1, k)
	askTwice(t, paris, n, n)
	askTwice(t, paris, k, n)
	askTwice(t, paris, n+1, n)
	// 500 days and one more, at either end.
	askTwice(t, paris, n, n+499, pairs(0, 19)...)
	askTwice(t, paris, n-1, n+498, pairs(0, 19)...)
	askTwice(t, paris, n, n+500)
	askTwice(t, paris, k+19-499, k+19, pairs(0, 19)...)
	askTwice(t, paris, k+19-500, k+19)
	askTwice(t, veniceRegime(), n, n+499)
	askTwice(t, romeRegime(), greDay(1582, 10, 1), greDay(1583, 10, 31))
}

// Of three days of one name, each two are a pair; their calendars and solar years may be different ones.
func TestTwiceOfThreeDays(t *testing.T) {
	r := marksRegime()
	var want [][2]int
	for _, row := range [][2]int{{0, 1}, {0, 2}, {1, 2}} {
		days := [3]int{julDay(1345, 3, 24), julDay(1345, 4, 1), julDay(1346, 4, 1)}
		want = append(want, [2]int{days[row[0]], days[row[1]]})
	}
	got := impl.Twice(r, julDay(1345, 3, 24), julDay(1346, 4, 1))
	for _, p := range want {
		if !slices.Contains(got, p) {
			t.Errorf("Twice(%v) is %v, without %v", r, got, p)
		}
	}
	// One name by patches, beside the day that has it by itself.
	n := julDay(1345, 6, 24)
	same := impl.Regime{Name: "same", From: n - 9, To: n + 9, Segs: []impl.Segment{span(n-9, n+9)}, Patches: []impl.Patch{{Day: n - 4, Month: 6, Dom: 24}, {Day: n + 2, Month: 6, Dom: 24}}}
	askTwice(t, same, n-9, n+9, [2]int{n - 4, n}, [2]int{n - 4, n + 2}, [2]int{n, n + 2})
	askTwice(t, same, n-3, n+9, [2]int{n, n + 2})
	askTwice(t, same, n-4, n+1, [2]int{n - 4, n})
	askTwice(t, same, n-400, n+99, [2]int{n - 4, n}, [2]int{n - 4, n + 2}, [2]int{n, n + 2})
	askTwice(t, same, n-401, n+99)
	same.Patches = append(same.Patches, impl.Patch{Day: n + 5, Month: 6, Dom: 24})
	askTwice(t, same, n-4, n+5, [2]int{n - 4, n}, [2]int{n - 4, n + 2}, [2]int{n - 4, n + 5}, [2]int{n, n + 2}, [2]int{n, n + 5}, [2]int{n + 2, n + 5})
	// A year of another name parts two days that are alike in month and day.
	same.Segs = []impl.Segment{span(n-9, n+1), {From: n + 2, To: n + 9, Style: impl.YPisa}}
	askTwice(t, same, n-9, n+9, [2]int{n - 4, n}, [2]int{n + 2, n + 5})
}

// A patch may take a day its own name, give it another day's, or the one that it has.
func TestTwiceBesidePatches(t *testing.T) {
	r, n := patchedRegime(), julDay(1345, 6, 24)
	askTwice(t, r, r.From, r.To, [2]int{n, n + 2}, [2]int{n + 5, n + 6})
	askTwice(t, r, n, n+2, [2]int{n, n + 2})
	askTwice(t, r, n+1, n+5)
	askTwice(t, swedenRegime(), julDay(1712, 1, 1), julDay(1712, 12, 31))
	unpatched := swedenRegime()
	unpatched.Patches = nil
	k := julDay(1712, 2, 29)
	askTwice(t, unpatched, julDay(1712, 1, 1), julDay(1712, 12, 31), [2]int{k, k + 1})
}

// An Off that goes back names as many days twice, and so does a change of the calendar; each in order of their days.
func TestTwiceByChanges(t *testing.T) {
	n := julDay(1345, 6, 24)
	for by := 1; by <= 6; by++ {
		r := changeRegime(n, impl.Segment{Off: 3}, impl.Segment{Off: 3 - by})
		var want [][2]int
		for i := range by {
			want = append(want, [2]int{n - by + i, n + i})
		}
		askTwice(t, r, r.From, r.To, want...)
		askTwice(t, r, r.From-250, r.To+50, want...)
		askTwice(t, r, n, r.To)
		askTwice(t, r, r.From, n-1)
	}
	k := greDay(1752, 9, 14)
	back := changeRegime(k, plainGre, plainJul)
	var want [][2]int
	for i := range 11 {
		want = append(want, [2]int{k - 11 + i, k + i})
	}
	askTwice(t, back, back.From, back.To, want...)
	askTwice(t, changeRegime(k, plainJul, plainGre), k-100, k+99)
}

// The line has both ends, and days of no regime are none of a pair.
func TestTwiceAtTheEndsOfTheLine(t *testing.T) {
	first, last := impl.FirstDay, impl.LastDay
	r := daysRegime(first, last)
	r.Patches = []impl.Patch{{Day: first, Month: 2, Dom: 9}, {Day: last, Month: 4, Dom: 1}}
	low := [][2]int{{first, first + 3}}
	high := [][2]int{{julDay(2985, 4, 1), last}}
	askTwice(t, r, first, first+499, low...)
	askTwice(t, r, first-1, first+9)
	askTwice(t, r, first, first+500)
	askTwice(t, r, last-499, last, high...)
	askTwice(t, r, last-9, last+1)
	askTwice(t, r, last-500, last)
	askTwice(t, r, 0, 499)
	askTwice(t, r, first, last)
	for _, far := range append(farNumbers, farDays...) {
		askTwice(t, r, far, far)
		askTwice(t, r, far, first)
		askTwice(t, r, first, far)
		askTwice(t, r, far, last)
		askTwice(t, r, last, far)
		askTwice(t, r, far, far+1)
		for _, other := range farNumbers {
			askTwice(t, r, far, other)
		}
	}
}

func TestLengthOfKnownYears(t *testing.T) {
	rome, paris := romeRegime(), parisRegime()
	askLength(t, rome, 1582, 355)
	askLength(t, rome, 1583, 365)
	askLength(t, rome, 1581, 0)
	askLength(t, rome, 1584, 0)
	askLength(t, paris, 1343, 94) // up to 3 April 1344
	askLength(t, paris, 1344, 357)
	askLength(t, paris, 1345, 385)
	askLength(t, paris, 1346, 350)
	askLength(t, paris, 1347, 275)
	askLength(t, swedenRegime(), 1711, 30)
	askLength(t, swedenRegime(), 1712, 367)
	askLength(t, longYearRegime(), 1345, 750)
	askLength(t, brokenYearRegime(), 1345, 242)
	askLength(t, brokenYearRegime(), 1346, 133)
	askLength(t, changeRegime(greDay(1752, 9, 14), plainJul, plainGre), 1752, 200)
	askLength(t, changeRegime(greDay(1753, 1, 1), plainJul, plainGre), 1752, 100)
	askLength(t, changeRegime(greDay(1753, 1, 1), plainGre, plainJul), 1752, 111)
	askLength(t, changeRegime(greDay(1753, 1, 1), plainGre, plainJul), 1753, 89)
	for _, n := range []int{impl.FirstDay, impl.LastDay} {
		for off := -3; off <= 3; off++ {
			r := plainRegime(daysRegime(n, n), impl.CGre, impl.YJan, off)
			y := 2
			if n == impl.LastDay {
				y = 2985
			}
			askLength(t, r, y-1, 0)
			askLength(t, r, y, 1)
			askLength(t, r, y+1, 0)
		}
	}
	whole := plainRegime(daysRegime(impl.FirstDay, impl.LastDay), impl.CGre, impl.YJan, 0)
	askLength(t, whole, 1, 0)
	askLength(t, whole, 2, 331) // from 4 February on
	askLength(t, whole, 3, 365)
	askLength(t, whole, 2000, 366)
	askLength(t, whole, 1900, 365)
	askLength(t, whole, 2985, 116) // up to 26 April
	askLength(t, whole, 2986, 0)
}

// As many days of one year as there can be: by YPisa from the 25 March ahead of it on, by YEaster to the Easter behind it, by the calendars that lie farther apart late.
func TestLengthOfTheLongestYears(t *testing.T) {
	longest := 0
	for y := 2900; y <= 2983; y++ {
		from, lady, june, to := greDay(y-1, 3, 20), greDay(y, 3, 22), julDay(y, 6, 1), julDay(y+1, 5, 1)
		r := impl.Regime{Name: "longest", From: from, To: to, Segs: []impl.Segment{
			{From: from, To: lady - 1, Cal: impl.CGre, Style: impl.YPisa, Off: 3},
			{From: lady, To: june - 1, Cal: impl.CGre},
			{From: june, To: to, Style: impl.YEaster, Off: -3},
		}}
		x := auditSegments(r)
		askLength(t, r, y, len(x.ofYear(y)))
		askFeastsIn(t, r, y, x.feastsIn(y)...)
		longest = max(longest, len(x.ofYear(y)))
	}
	if longest < 770 {
		t.Errorf("no year has more than %d days", longest)
	}
}

func TestYearsOfNoDay(t *testing.T) {
	for _, r := range append(auditRegimes()[:12], wholeRegime()) {
		first, _ := impl.ReadingOf(r, r.From)
		last, _ := impl.ReadingOf(r, r.To)
		for _, y := range append([]int{first.Year - 9, last.Year + 9, first.Year + 1<<32, -first.Year, 3000}, append(otherYears, farNumbers...)...) {
			if y < first.Year-2 || y > last.Year+2 {
				askLength(t, r, y, 0)
				askFeastsIn(t, r, y)
			}
		}
	}
}

func TestFitsOfKnownDays(t *testing.T) {
	paris := parisRegime()
	n, k := julDay(1345, 4, 1), julDay(1346, 4, 1)
	rows := map[string][2][]int{
		"1 apr 1345":      {{n}, {k}},
		"kal apr 1345":    {{n}, {k}},
		"1 apr 1345/1345": {{n}, nil},
		"1 apr 1345/1346": {nil, {k}},
		"1 apr 1345/1344": {nil, nil},
		"1 apr 1345 jul":  {{n}, {k}},
		"1 apr 1345 gre":  {nil, nil},
		"easter+5 1345":   {{n}, nil},
		"ash+31 1345":     {nil, {k}},
		"1 apr 1344":      {nil, nil},
		"31 feb 1345":     {nil, nil},
	}
	for text, want := range rows {
		for w := range 7 {
			var days []int
			if w == 5 || w == 6 {
				days = want[w-5]
			}
			askFits(t, paris, text, w, days...)
			for kk := -1; kk <= 17; kk++ {
				var agreed []int
				if w == 5 && kk == 13 || w == 6 && kk == 14 {
					agreed = days
				}
				askAgree(t, paris, text, w, kk, agreed...)
			}
		}
		for _, w := range otherWeekdays {
			askFits(t, paris, text, w)
			askAgree(t, paris, text, w, 13)
			askAgree(t, paris, text, w, 14)
		}
		for _, far := range append([]int{-13, 0, 16, 28, 13 + 1<<32, 14 + 256}, farNumbers...) {
			askAgree(t, paris, text, 5, far)
			askAgree(t, paris, text, 6, far)
		}
	}
	// More than one day of one weekday, in order.
	m := julDay(1345, 6, 24)
	same := impl.Regime{Name: "same", From: m - 20, To: m + 20, Segs: []impl.Segment{span(m-20, m+20)}, Patches: []impl.Patch{{Day: m - 14, Month: 6, Dom: 24}, {Day: m - 8, Month: 6, Dom: 24}, {Day: m + 7, Month: 6, Dom: 24}, {Day: m + 8, Month: 6, Dom: 24}}}
	askFits(t, same, "24 jun 1345", m%7, m-14, m, m+7)
	askFits(t, same, "24 jun 1345", (m+1)%7, m+8)
	askFits(t, same, "24 jun 1345", (m+6)%7, m-8)
	askFits(t, same, "24 jun 1345", (m+2)%7)
	askAgree(t, same, "24 jun 1345", m%7, 13, m-14, m, m+7)
	askAgree(t, same, "24 jun 1345", m%7, 12)
}

// The weekday and the indiction are those of the day itself, whatever its Off; the indiction is by its segment's calendar.
func TestAgreeAndDatedByTheDayItself(t *testing.T) {
	n := julDay(1345, 9, 1) // a Thursday, on which the indiction XIV begins
	for off := -3; off <= 3; off++ {
		r := plainRegime(daysRegime(n-20, n+20), impl.CJul, impl.YJan, off)
		for by := -4; by <= 4; by++ {
			k := 13
			if by >= 0 {
				k = 14
			}
			text := julText(n + by + off)
			w := (4 + by + 7) % 7
			askFits(t, r, text, w, n+by)
			askFits(t, r, text, (w+1)%7)
			askAgree(t, r, text, w, k, n+by)
			askAgree(t, r, text, w, 27-k)
			askDated(t, r, n+by, text+","+weekdayWords[w]+",indiction "+numeral(k)+",-")
		}
	}
	// 1 September by CGre was 22 August by CJul.
	k := greDay(1600, 9, 1)
	for cal, number := range []int{13, 14} {
		r := plainRegime(daysRegime(k-5, k+5), cal, impl.YJan, 0)
		text := impl.Write(r, k, impl.WDay)
		askAgree(t, r, text, k%7, number, k)
		askAgree(t, r, text, k%7, 27-number)
		askDated(t, r, k, text+",fri,indiction "+numeral(number)+",-")
		askDated(t, r, k-1, impl.Write(r, k-1, impl.WDay)+",thu,indiction XIII,-")
	}
}

func TestDatedOfKnownDays(t *testing.T) {
	paris := parisRegime()
	askDated(t, paris, julDay(1345, 5, 1), "1 may 1345,sun,indiction XIII,-")
	askDated(t, paris, julDay(1345, 4, 1), "1 apr 1345/1345,fri,indiction XIII,-")
	askDated(t, paris, julDay(1346, 4, 1), "1 apr 1345/1346,sat,indiction XIV,-")
	paris.Reigns = []impl.Reign{{Name: "philip", From: paris.From, To: julDay(1346, 1, 1)}, {Name: "john", From: julDay(1346, 1, 3), To: julDay(1346, 1, 3)}}
	askDated(t, paris, paris.From, "1 jan 1343,thu,indiction XII,I philip")
	askDated(t, paris, julDay(1345, 5, 1), "1 may 1345,sun,indiction XIII,II philip")
	askDated(t, paris, julDay(1346, 1, 1), "1 jan 1345,sun,indiction XIV,III philip")
	askDated(t, paris, julDay(1346, 1, 2), "2 jan 1345,mon,indiction XIV,-")
	askDated(t, paris, julDay(1346, 1, 3), "3 jan 1345,tue,indiction XIV,I john")
	askDated(t, paris, julDay(1346, 1, 4), "4 jan 1345,wed,indiction XIV,-")
	askDated(t, paris, julDay(1347, 1, 1), "1 jan 1346,mon,indiction XV,-")
	askDated(t, paris, julDay(1347, 12, 31), "31 dec 1347,mon,indiction I,-")
	// By RStyle the years are those of the segment's style.
	paris.Rule = impl.RStyle
	askDated(t, paris, julDay(1344, 4, 3), "3 apr 1343,sat,indiction XII,I philip")
	askDated(t, paris, julDay(1344, 4, 4), "4 apr 1344,sun,indiction XII,II philip")
	askDated(t, paris, julDay(1346, 1, 1), "1 jan 1345,sun,indiction XIV,III philip")
	paris.Segs[0].Style = impl.YJan
	askDated(t, paris, julDay(1344, 4, 3), "3 apr 1344,sat,indiction XII,I philip")
	askDated(t, paris, julDay(1345, 4, 3), "3 apr 1345,sun,indiction XIII,II philip")
	// The patched day is told by its patch; by a reign it is the day that it is.
	sweden := swedenRegime()
	sweden.Reigns = []impl.Reign{{Name: "charles", From: julDay(1697, 4, 5), To: julDay(1718, 11, 30)}}
	askDated(t, sweden, julDay(1712, 2, 28), "29 feb 1712,thu,indiction V,XV charles")
	askDated(t, sweden, julDay(1712, 2, 29), "30 feb 1712,fri,indiction V,XV charles")
	askDated(t, sweden, julDay(1712, 3, 1), "1 mar 1712,sat,indiction V,XV charles")
	askDated(t, sweden, julDay(1712, 4, 4), "4 apr 1712,fri,indiction V,XV charles")
	askDated(t, sweden, julDay(1712, 4, 5), "5 apr 1712,sat,indiction V,XVI charles")
	askDated(t, sweden, julDay(1711, 11, 30), "")
	askDated(t, sweden, julDay(1713, 1, 1), "")
}

// A day that nothing makes the only one has no writing, but all else.
func TestDatedWithoutWriting(t *testing.T) {
	r, n := offRegime(), julDay(1345, 12, 30)
	askDated(t, r, n, "-,fri,indiction XIV,-")
	askDated(t, r, n+5, "-,wed,indiction XIV,-")
	r.Reigns = []impl.Reign{{Name: "otto", From: n, To: n}}
	askDated(t, r, n, "-,fri,indiction XIV,I otto")
	askDated(t, r, n+5, "-,wed,indiction XIV,-")
	askDated(t, r, n-10, impl.Write(r, n-10, impl.WDay)+",tue,indiction XIV,-")
	r.Reigns = []impl.Reign{{Name: "otto", From: julDay(1340, 12, 30), To: n + 400}}
	askDated(t, r, n, "-,fri,indiction XIV,VI otto")
	askDated(t, r, n-1, "-,thu,indiction XIV,V otto")
	// The reign's years are by the calendar of the segment, and by the day itself.
	k := greDay(1600, 9, 1)
	for cal, year := range []string{"X", "XI"} {
		r := plainRegime(daysRegime(k-5, k+20), cal, impl.YJan, 3)
		r.Reigns = []impl.Reign{{Name: "otto", From: greDay(1590, 9, 1), To: greDay(1610, 9, 1)}}
		if cal == impl.CJul {
			// 1 September 1590 by CGre was 22 August by CJul, as ten years later.
			year = "XI"
		}
		askDated(t, r, k, impl.Write(r, k, impl.WDay)+",fri,indiction "+numeral(13+cal)+","+year+" otto")
		askDated(t, r, k-1, impl.Write(r, k-1, impl.WDay)+",thu,indiction XIII,X otto")
	}
}

func TestDatedAtTheEndsOfTheLine(t *testing.T) {
	first, last := impl.FirstDay, impl.LastDay
	r := plainRegime(daysRegime(first, last), impl.CGre, impl.YJan, 0)
	r.Reigns = []impl.Reign{{Name: "a", From: 1, To: first}, {Name: "b", From: first + 2, To: last}}
	askDated(t, r, first, "4 feb 2,mon,indiction V,II a")
	askDated(t, r, first+1, "5 feb 2,tue,indiction V,-")
	askDated(t, r, first+2, "6 feb 2,wed,indiction V,I b")
	askDated(t, r, last, "26 apr 2985,tue,indiction III,MMCMLXXXIV b")
	for _, n := range append([]int{first - 1, last + 1, 0, -1, 1, -first, first + 1<<32}, farDays...) {
		askDated(t, r, n, "")
	}
	for _, n := range []int{first, last} {
		for off := -3; off <= 3; off++ {
			one := plainRegime(daysRegime(n, n), impl.CJul, impl.YJan, off)
			askDated(t, one, n, impl.Write(one, n, impl.WDay)+","+weekdayWords[n%7]+","+impl.EraText(impl.CJul, "indiction", n)+",-")
			askDated(t, one, n-1, "")
			askDated(t, one, n+1, "")
		}
	}
}

func TestFeastsInKnownYears(t *testing.T) {
	paris := parisRegime()
	askFeastsIn(t, paris, 1345, "easter", "quasimodo", "rogation", "ascension", "pentecost", "trinity", "corpus", "septuagesima", "ash", "palm")
	askFeastsIn(t, paris, 1343, "septuagesima", "ash", "palm")
	askFeastsIn(t, paris, 1347, "easter", "quasimodo", "rogation", "ascension", "pentecost", "trinity", "corpus")
	askFeastsIn(t, paris, 1342)
	askFeastsIn(t, paris, 1348)
	inOrder := []string{"septuagesima", "ash", "palm", "easter", "quasimodo", "rogation", "ascension", "pentecost", "trinity", "corpus"}
	askFeastsIn(t, romeRegime(), 1582, inOrder...)
	askFeastsIn(t, romeRegime(), 1583, inOrder...)
	// By YLady a year has Palm Sunday twice or not at all, and by YMarch it is so with Ash Wednesday.
	lady, march := paris, paris
	lady.Segs, march.Segs = slices.Clone(paris.Segs), slices.Clone(paris.Segs)
	lady.Segs[0].Style, march.Segs[0].Style = impl.YLady, impl.YMarch
	askFeastsIn(t, lady, 1345, "easter", "quasimodo", "rogation", "ascension", "pentecost", "trinity", "corpus", "septuagesima", "ash")
	askFeastsIn(t, lady, 1344, "palm", "easter", "quasimodo", "rogation", "ascension", "pentecost", "trinity", "corpus", "septuagesima", "ash", "palm")
	askFeastsIn(t, march, 1345, "palm", "easter", "quasimodo", "rogation", "ascension", "pentecost", "trinity", "corpus", "septuagesima")
	askFeastsIn(t, march, 1346, "ash", "palm", "easter", "quasimodo", "rogation", "ascension", "pentecost", "trinity", "corpus", "septuagesima", "ash")
}

// A feast that does not move is none of them, though it be on one day with one that moves.
func TestFeastsInOnOneDay(t *testing.T) {
	found := 0
	for _, cal := range calendars {
		for y := 1300; y <= 1900; y++ {
			for _, f := range feastRows[:10] {
				day := feastDay(cal, y, f)
				if names := feastsHere(cal, y, day); len(names) < 2 {
					continue
				}
				found++
				r := plainRegime(daysRegime(day, day), cal, impl.YJan, 0)
				askFeastsIn(t, r, y, f.Name)
				askFeastsIn(t, r, y+1)
			}
		}
	}
	if found < 100 {
		t.Errorf("%d days have two feasts", found)
	}
	christmas := plainRegime(daysRegime(julDay(1345, 12, 1), julDay(1346, 1, 15)), impl.CJul, impl.YJan, 0)
	askFeastsIn(t, christmas, 1345)
	askFeastsIn(t, christmas, 1346)
}

// An Off moves a feast to another day of the regime, into the regime or out of it, or to two days of it or none.
func TestFeastsInMovedByOffs(t *testing.T) {
	easter := julDay(1345, 3, 27)
	for off := -3; off <= 3; off++ {
		for by := -4; by <= 4; by++ {
			names := map[int][]string{-7: {"palm"}, 0: {"easter"}, 7: {"quasimodo"}}
			askFeastsIn(t, plainRegime(daysRegime(easter+by, easter+by), impl.CJul, impl.YJan, off), 1345, names[by+off]...)
		}
		askFeastsIn(t, plainRegime(daysRegime(easter-off-6, easter-off+6), impl.CJul, impl.YJan, off), 1345, "easter")
		askFeastsIn(t, plainRegime(daysRegime(easter-off-7, easter-off+7), impl.CJul, impl.YJan, off), 1345, "palm", "easter", "quasimodo")
	}
	cut := func(r impl.Regime) impl.Regime {
		r.From, r.To = easter-5, easter+5
		r.Segs[0].From, r.Segs[1].To = r.From, r.To
		return r
	}
	askFeastsIn(t, cut(changeRegime(easter, impl.Segment{Off: 1}, plainJul)), 1345, "easter", "easter")
	askFeastsIn(t, cut(changeRegime(easter, plainJul, impl.Segment{Off: 1})), 1345)
	askFeastsIn(t, cut(changeRegime(easter+1, plainJul, impl.Segment{Off: -1})), 1345, "easter", "easter")
	askFeastsIn(t, cut(changeRegime(easter+1, plainJul, impl.Segment{Off: 1})), 1345, "easter")
	askFeastsIn(t, cut(changeRegime(easter+1, plainJul, impl.Segment{Off: 2})), 1345, "easter", "quasimodo")
	// A patch names the day otherwise, and leaves it the feast.
	patched := changeRegime(easter+40, plainJul, plainJul, impl.Patch{Day: easter, Month: 2, Dom: 30}, impl.Patch{Day: easter + 1, Month: 3, Dom: 27})
	askFeastsIn(t, patched, 1345, "ash", "palm", "easter", "quasimodo", "rogation", "ascension", "pentecost", "trinity", "corpus")
}

// Easter of 1701 was on 27 March by CGre, and on 20 April by CJul, 35 days later.
func TestFeastsInYearsOfTwoCalendars(t *testing.T) {
	n := greDay(1701, 4, 8)
	askFeastsIn(t, changeRegime(n, plainJul, plainGre), 1701, "septuagesima", "ash", "rogation", "ascension", "pentecost", "trinity", "corpus")
	askFeastsIn(t, changeRegime(n, plainGre, plainJul), 1701, "septuagesima", "ash", "palm", "easter", "quasimodo", "palm", "easter", "quasimodo", "rogation", "ascension", "pentecost", "trinity", "corpus")
	// The year of the feast is that of the date, whatever the Year by the styles.
	askFeastsIn(t, changeRegime(n, impl.Segment{Style: impl.YEaster}, impl.Segment{Cal: impl.CGre, Style: impl.YPisa}), 1700, "septuagesima", "ash")
	askFeastsIn(t, changeRegime(n, impl.Segment{Style: impl.YEaster}, impl.Segment{Cal: impl.CGre, Style: impl.YPisa}), 1702, "rogation", "ascension", "pentecost", "trinity", "corpus")
	askFeastsIn(t, changeRegime(n, impl.Segment{Style: impl.YEaster}, impl.Segment{Cal: impl.CGre, Style: impl.YPisa}), 1701)
}

func TestOddTextsThatAreNoSaying(t *testing.T) {
	paris, full := parisRegime(), fullRegime()
	for _, text := range append([]string{""}, noSayingTexts...) {
		for _, w := range []int{-1, 0, 5, 6, 7} {
			askFits(t, paris, text, w)
			askAgree(t, paris, text, w, 13)
			askFits(t, full, text, w)
			askAgree(t, full, text, w, 6)
		}
	}
}

// A regime that is not right has nothing odd, wherever it is wrong.
func TestOddInWrongRegimes(t *testing.T) {
	full := fullRegime()
	x := auditSegments(full)
	texts := map[int]string{}
	for _, n := range []int{600000, 600050, 600099, 600100, 600101, 600200, 600303, 600399, 600400} {
		texts[n] = impl.Write(full, n, impl.WDay)
		askDated(t, full, n, x.dated(n))
		askFits(t, full, texts[n], n%7, n)
		askAgree(t, full, texts[n], n%7, x.taxYear(n), n)
	}
	lost := 0
	for i := range full.Segs {
		lost += len(impl.Lost(full, i))
	}
	if lost == 0 || len(impl.Twice(full, 600000, 600400)) == 0 || impl.Length(full, 1643) == 0 || len(impl.FeastsIn(full, 1644)) == 0 {
		t.Error("the right regime has nothing odd")
	}
	for _, r := range wrongRegimes() {
		askRegimeOk(t, "wrong", r, false)
		for _, i := range append([]int{-1, 0, 1, 2, 3, 4, 5, len(r.Segs)}, farNumbers...) {
			askLost(t, r, i)
		}
		for _, days := range [][2]int{{600000, 600400}, {600050, 600050}, {600050, 600150}, {600300, 600400}, {r.From, r.To}} {
			askTwice(t, r, days[0], days[1])
		}
		for _, y := range []int{0, 1641, 1642, 1643, 1644, 1645, 3000} {
			askLength(t, r, y, 0)
			askFeastsIn(t, r, y)
		}
		for n, text := range texts {
			askDated(t, r, n, "")
			askFits(t, r, text, n%7)
			askAgree(t, r, text, n%7, x.taxYear(n))
		}
		for _, n := range append([]int{0, r.From, r.To}, farNumbers...) {
			askDated(t, r, n, "")
		}
		askFits(t, r, "", 0)
		askAgree(t, r, "x", 0, 0)
	}
}

// Nothing is written into a regime, nor into the spare room behind its lists.
func TestOddLeavesItsArguments(t *testing.T) {
	room := fullRegime()
	kept := copyRegime(room)
	cut := room
	cut.Segs, cut.Patches, cut.Reigns, cut.To = room.Segs[:3], room.Patches[:2], room.Reigns[:2], 600299
	for _, r := range []impl.Regime{room, cut} {
		askRegimeOk(t, "cut", r, true)
		x := auditSegments(r)
		askOddSegments(t, x)
		askOddYears(t, x)
		for _, w := range x.oddWindows(rand.New(rand.NewSource(1))) {
			askTwice(t, r, w[0], w[1], x.twice(w[0], w[1])...)
		}
		for n := r.From; n <= r.To; n++ {
			askOddDay(t, x, n)
		}
		askSame(t, "the argument", room, kept, true)
	}
}

func TestOddAnswersAreNewMemory(t *testing.T) {
	rome, paris := romeRegime(), parisRegime()
	n, k := julDay(1345, 3, 27), julDay(1346, 3, 27)
	for range 3 {
		dates, pairs, names := impl.Lost(rome, 1), impl.Twice(paris, n, k+1), impl.FeastsIn(paris, 1343)
		for i := range dates[:cap(dates)] {
			dates[:cap(dates)][i] = impl.Date{Year: -1}
		}
		for i := range pairs[:cap(pairs)] {
			pairs[:cap(pairs)][i] = [2]int{-1, -1}
		}
		for i := range names[:cap(names)] {
			names[:cap(names)][i] = "x"
		}
		for _, days := range [][]int{impl.Fits(paris, "1 apr 1345", 5), impl.Agree(paris, "1 apr 1345", 5, 13)} {
			for i := range days[:cap(days)] {
				days[:cap(days)][i] = -1
			}
		}
		askLostRow(t, rome, 1, date(impl.CGre, 1582, 10, 5), date(impl.CGre, 1582, 10, 14))
		askTwice(t, paris, n, k+1, [2]int{n, k}, [2]int{n + 1, k + 1})
		askFeastsIn(t, paris, 1343, "septuagesima", "ash", "palm")
		askFits(t, paris, "1 apr 1345", 5, n+5)
		askAgree(t, paris, "1 apr 1345", 5, 13, n+5)
		askSame(t, "the argument", rome, romeRegime(), true)
		askSame(t, "the argument", paris, parisRegime(), true)
	}
}

// What is twice is told in one order, however often and by how many it is asked.
func TestTwiceOfManyAtOnce(t *testing.T) {
	r := evenRegime(490000, 25, impl.MaxSegs)
	want := auditSegments(r).twice(490000, 490499)
	if len(want) < 40 {
		t.Errorf("%d pairs are too few", len(want))
	}
	var asked sync.WaitGroup
	for range 32 {
		asked.Go(func() {
			for range 10 {
				askTwice(t, r, 490000, 490499, want...)
			}
		})
	}
	asked.Wait()
}
