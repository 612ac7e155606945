package tests

import (
	"fmt"
	"math/rand"
	"slices"
	"strconv"
	"testing"

	"loop.example/g00638/impl"
)

var kinds = []int{impl.WDay, impl.WRoman, impl.WFeast}

var otherKinds = append([]int{-3, -2, -1, 3, 4, 5, 256, 257, 258, 1<<32 + 1, 1<<32 + 2}, farNumbers...)

var otherMarks = append([]int{-4, -3, -2, -1, 4, 5, 6, 7, 8, 256, 257, 1<<32 + 1, 1<<32 + 3}, farNumbers...)

// writtenRegime tells by which When each of its days is written.
type writtenRegime struct {
	saidRegime
	romans map[impl.Date]impl.Roman
}

func writeSegments(r impl.Regime) writtenRegime {
	return writtenRegime{saidRegime: saySegments(r), romans: map[impl.Date]impl.Roman{}}
}

// when is false where a kind tells nothing of a day.
func (x writtenRegime) when(n, kind int) (impl.When, bool) {
	y := x.on(n)
	patched := slices.ContainsFunc(x.Patches, func(p impl.Patch) bool { return p.Day == n })
	switch {
	case kind == impl.WDay:
		return whenDay(y.Month, y.Day), true
	case patched:
		return impl.When{}, false
	case kind == impl.WRoman:
		return whenRoman(x.roman(date(y.Cal, y.Solar, y.Month, y.Day))), true
	}
	return x.movable(n)
}

// roman goes back through the year of a date, once a year.
func (x writtenRegime) roman(d impl.Date) impl.Roman {
	if _, ok := x.romans[d]; !ok {
		for _, day := range romanWalk(d.Cal, d.Year) {
			x.romans[day.d] = day.r
		}
	}
	return x.romans[d]
}

// movable takes, of the feasts that move, the one of the day's own solar year that is the fewest days ahead.
func (x writtenRegime) movable(n int) (impl.When, bool) {
	y, best, found := x.on(n), impl.When{}, false
	at := slices.IndexFunc(x.Segs, func(s impl.Segment) bool { return s.From <= n && n <= s.To })
	for _, f := range feastRows {
		k := n + x.Segs[at].Off - feastDay(y.Cal, y.Solar, f)
		if f.Moves && k >= 0 && k <= 99 && (!found || k < best.Plus) {
			best, found = whenFeast(f.Name, k), true
		}
	}
	return best, found
}

// marks tries them in order; -1 where none makes the day the only one, or the kind tells nothing of it.
func (x writtenRegime) marks(n, kind int) int {
	w, ok := x.when(n, kind)
	for marks := 0; ok && marks < 4; marks++ {
		if slices.Equal(x.meant(markedSaying(w, x.on(n), marks)), []int{n}) {
			return marks
		}
	}
	return -1
}

func (x writtenRegime) text(n, kind int) string {
	marks := x.marks(n, kind)
	if marks < 0 {
		return ""
	}
	w, _ := x.when(n, kind)
	return sayingWords(markedSaying(w, x.on(n), marks))
}

func (x writtenRegime) all(n int) []string {
	var texts []string
	for _, kind := range kinds {
		if s := x.text(n, kind); s != "" {
			texts = append(texts, s)
		}
	}
	return texts
}

// has tells the days of from .. to that are the regime's.
func (x writtenRegime) has(from, to int) []int {
	return daysFromTo(max(from, x.From), min(to, x.To))
}

// doubtful asks each day of from .. to by itself, of however many.
func (x writtenRegime) doubtful(from, to, kind int) []int {
	return slices.DeleteFunc(x.has(from, to), func(n int) bool { return x.marks(n, kind) == 0 })
}

// rewritten has a text for each day that a saying means, empty ones too.
func (x writtenRegime) rewritten(s impl.Saying, kind int) []string {
	var texts []string
	for _, n := range x.meant(s) {
		texts = append(texts, x.text(n, kind))
	}
	return texts
}

// marksRegime has 27 March to 3 April of 1345 three times: by CGre, and, by years from Easter on, twice by CJul.
func marksRegime() impl.Regime {
	from, n, to := julDay(1345, 2, 1), julDay(1345, 3, 27), julDay(1346, 12, 31)
	return impl.Regime{Name: "marks", From: from, To: to, Segs: []impl.Segment{{From: from, To: n - 1, Cal: impl.CGre}, {From: n, To: to, Style: impl.YEaster}}}
}

// offRegime names days three days back, three ahead, and two back again, over the end of a year.
func offRegime() impl.Regime {
	n := julDay(1345, 12, 31)
	return impl.Regime{Name: "off", From: n - 20, To: n + 20, Segs: []impl.Segment{{From: n - 20, To: n - 10, Off: -3}, {From: n - 9, To: n, Off: 3}, {From: n + 1, To: n + 20, Style: impl.YYule, Off: -2}}}
}

// patchedRegime gives days the names of others, of themselves, of each other, and names that are no date's.
func patchedRegime() impl.Regime {
	n := julDay(1345, 6, 24)
	r := impl.Regime{Name: "patched", From: n - 60, To: n + 60, Segs: []impl.Segment{span(n-60, n+60)}}
	r.Patches = []impl.Patch{{Day: n - 1, Month: 6, Dom: 24}, {Day: n, Month: 6, Dom: 26}, {Day: n + 4, Month: 6, Dom: 28}, {Day: n + 5, Month: 2, Dom: 31}, {Day: n + 6, Month: 2, Dom: 31}, {Day: n + 7, Month: 12, Dom: 25}}
	return r
}

func writingRegimes() []impl.Regime {
	return append(readingRegimes(), marksRegime(), offRegime(), patchedRegime())
}

func askWhens(t *testing.T, r impl.Regime, n, kind int, want impl.When, right bool) {
	t.Helper()
	if got, ok := impl.Whens(r, n, kind); got != want || ok != right {
		t.Errorf("Whens(%v, %d, %d) = %+v, %v, want %+v, %v", r, n, kind, got, ok, want, right)
	}
}

func askMarked(t *testing.T, r impl.Regime, n, kind, marks int, want impl.Saying, right bool) {
	t.Helper()
	if got, ok := impl.Marked(r, n, kind, marks); got != want || ok != right {
		t.Errorf("Marked(%v, %d, %d, %d) = %+v, %v, want %+v, %v", r, n, kind, marks, got, ok, want, right)
	}
}

func askMarks(t *testing.T, r impl.Regime, n, kind, want int) {
	t.Helper()
	if got := impl.Marks(r, n, kind); got != want {
		t.Errorf("Marks(%v, %d, %d) = %d, want %d", r, n, kind, got, want)
	}
}

func askWrite(t *testing.T, r impl.Regime, n, kind int, want string) {
	t.Helper()
	if got := impl.Write(r, n, kind); got != want {
		t.Errorf("Write(%v, %d, %d) = %q, want %q", r, n, kind, got, want)
	}
}

func askAll(t *testing.T, r impl.Regime, n int, want ...string) {
	t.Helper()
	if got := impl.All(r, n); !slices.Equal(got, want) {
		t.Errorf("All(%v, %d) = %q, want %q", r, n, got, want)
	}
}

func askDoubtful(t *testing.T, r impl.Regime, from, to, kind int, want []int) {
	t.Helper()
	askDays(t, fmt.Sprintf("Doubtful(%v, %d, %d, %d)", r, from, to, kind), impl.Doubtful(r, from, to, kind), want)
}

func askRewrite(t *testing.T, r impl.Regime, s string, kind int, want ...string) {
	t.Helper()
	if got := impl.Rewrite(r, s, kind); !slices.Equal(got, want) {
		t.Errorf("Rewrite(%v, %.99q, %d) = %q, want %q", r, s, kind, got, want)
	}
}

// askUntold asks all that takes a day and a kind where nothing is told.
func askUntold(t *testing.T, r impl.Regime, n, kind int) {
	t.Helper()
	askWhens(t, r, n, kind, impl.When{}, false)
	for marks := -1; marks <= 4; marks++ {
		askMarked(t, r, n, kind, marks, impl.Saying{}, false)
	}
	askMarks(t, r, n, kind, -1)
	askWrite(t, r, n, kind, "")
}

// askUnwritten asks for a day that has no reading.
func askUnwritten(t *testing.T, r impl.Regime, n int) {
	t.Helper()
	for _, kind := range kinds {
		askUntold(t, r, n, kind)
	}
	for _, kind := range otherKinds {
		askUntold(t, r, n, kind)
	}
	askAll(t, r, n)
}

// askAlone is promise 13 by the program's own answers: what is written means the day alone, and whatever has fewer marks means others too.
func askAlone(t *testing.T, r impl.Regime, n, kind int) {
	t.Helper()
	text, fewer := impl.Write(r, n, kind), impl.Marks(r, n, kind)
	if fewer < 0 {
		// Then no marks at all make the day the only one.
		fewer = 4
	} else if days, ok := impl.Read(r, text); !ok || !slices.Equal(days, []int{n}) {
		t.Errorf("Write(%v, %d, %d) is %q, which means %v, %v", r, n, kind, text, days, ok)
	}
	for marks := range fewer {
		s, ok := impl.Marked(r, n, kind, marks)
		days := impl.DaysSaid(r, s)
		if ok && (len(days) < 2 || !slices.Contains(days, n)) {
			t.Errorf("day %d of %v has marks of %d by %d, but %+v means %v", n, r, fewer, kind, s, days)
		}
	}
}

// askWriting asks all of one day that has a reading, and tells its marks by each kind.
func askWriting(t *testing.T, x writtenRegime, n int) [3]int {
	t.Helper()
	var found [3]int
	for _, kind := range kinds {
		w, ok := x.when(n, kind)
		found[kind] = x.marks(n, kind)
		if !ok {
			askUntold(t, x.Regime, n, kind)
			continue
		}
		askWhens(t, x.Regime, n, kind, w, true)
		for marks := range 4 {
			askMarked(t, x.Regime, n, kind, marks, markedSaying(w, x.on(n), marks), true)
		}
		askMarks(t, x.Regime, n, kind, found[kind])
		askWrite(t, x.Regime, n, kind, x.text(n, kind))
		askAlone(t, x.Regime, n, kind)
	}
	askAll(t, x.Regime, n, x.all(n)...)
	return found
}

// Promise 13 for each day of right regimes, by each kind; and there are days of each number of marks, by each kind.
func TestWritingOfEachDay(t *testing.T) {
	list := writingRegimes()
	counts := make([][3][5]int, len(list))
	t.Run("each", func(t *testing.T) {
		for i, r := range list {
			t.Run(strconv.Itoa(i)+" "+r.Name, func(t *testing.T) {
				t.Parallel()
				askRegimeOk(t, "right", r, true)
				x := writeSegments(r)
				for n := r.From; n <= r.To; n++ {
					for kind, marks := range askWriting(t, x, n) {
						counts[i][kind][marks+1]++
					}
				}
				for _, by := range []int{1, 2, 3, 4, 365, 400 + i} {
					askUnwritten(t, r, r.From-by)
					askUnwritten(t, r, r.To+by)
				}
				for _, n := range append([]int{0, 1, -1, impl.FirstDay - 1, impl.LastDay + 1, -r.From, r.From + 1<<32}, farDays...) {
					askUnwritten(t, r, n)
				}
			})
		}
	})
	for _, kind := range kinds {
		for marks := -1; marks <= 3; marks++ {
			if !slices.ContainsFunc(counts, func(row [3][5]int) bool { return row[kind][marks+1] > 0 }) {
				t.Errorf("no day has marks of %d by kind %d", marks, kind)
			}
		}
	}
}

// Promise 13 by both calendars, all styles and all Offs, each with patches and without.
func TestWritingByEachStyleAndOff(t *testing.T) {
	eachStyle(func(cal, style int) {
		t.Run(calWords[cal]+" "+styleWords[style], func(t *testing.T) {
			t.Parallel()
			for off := -3; off <= 3; off++ {
				for i, y := range []int{1344, 1499} {
					r := oneSegment(cal, style, off, y, 950)
					if (off+style+cal+i)%2 == 0 {
						r.Patches = manyPatches(impl.DayOf(date(cal, y+1, 3, 24))-off, impl.MaxPatches)
					}
					x := writeSegments(r)
					for n := r.From + (off+3)%3; n <= r.To; n += 3 {
						askWriting(t, x, n)
					}
					for _, p := range r.Patches {
						askWriting(t, x, p.Day)
					}
					askWriting(t, x, r.From)
					askWriting(t, x, r.To)
				}
			}
		})
	})
}

// The whole line in twenty segments: days around each change and at both ends, patched ones, and some between.
func TestWritingOnTheWholeLine(t *testing.T) {
	t.Parallel()
	r := wholeRegime()
	r.Patches = []impl.Patch{{Day: impl.FirstDay, Month: 2, Dom: 31}, {Day: 490904, Month: 6, Dom: 24}, {Day: impl.LastDay, Month: 4, Dom: 31}}
	x := writeSegments(r)
	days := []int{r.From, r.From + 1, r.To - 1, r.To, 490903, 490904, 490905}
	for _, n := range impl.Changes(r) {
		days = append(days, daysFromTo(n-20, n+20)...)
	}
	for n := r.From; n <= r.To; n += 5003 {
		days = append(days, n)
	}
	for _, n := range days {
		askWriting(t, x, n)
	}
	for _, kind := range kinds {
		for _, n := range append(impl.Changes(r), impl.FirstDay+199, impl.LastDay-200) {
			askDoubtful(t, r, n-199, n+200, kind, x.doubtful(n-199, n+200, kind))
		}
	}
	for _, n := range append([]int{impl.FirstDay - 1, impl.LastDay + 1, 0, -1, 1, -490904, 490904 + 1<<32}, farDays...) {
		askUnwritten(t, r, n)
	}
}

func TestKnownWhensOfDays(t *testing.T) {
	paris, sweden := parisRegime(), swedenRegime()
	n := julDay(1345, 4, 1)
	askWhens(t, paris, n, impl.WDay, whenDay(4, 1), true)
	askWhens(t, paris, n, impl.WRoman, whenRoman(impl.Roman{Count: 1, Mark: impl.MKal, Month: 4}), true)
	askWhens(t, paris, n, impl.WFeast, whenFeast("easter", 5), true)
	n = julDay(1346, 3, 1)
	askWhens(t, paris, n, impl.WFeast, whenFeast("ash", 0), true)
	askWhens(t, paris, n-1, impl.WFeast, whenFeast("septuagesima", 16), true)
	// A feast that does not move tells no day, though the day be that feast.
	askWhens(t, paris, julDay(1345, 6, 24), impl.WFeast, whenFeast("corpus", 29), true)
	askWhens(t, paris, julDay(1345, 12, 25), impl.WDay, whenDay(12, 25), true)
	askUntold(t, paris, julDay(1345, 12, 25), impl.WFeast)
	// By its Off a day is told as the next one would be.
	n = julDay(1712, 2, 28)
	askWhens(t, sweden, n, impl.WDay, whenDay(2, 29), true)
	askWhens(t, sweden, n, impl.WRoman, whenRoman(impl.Roman{Count: 2, Mark: impl.MKal, Month: 3}), true)
	askWhens(t, sweden, n, impl.WFeast, whenFeast("septuagesima", 12), true)
	askWhens(t, sweden, n+1, impl.WDay, whenDay(2, 30), true)
	askUntold(t, sweden, n+1, impl.WRoman)
	askUntold(t, sweden, n+1, impl.WFeast)
	askWhens(t, sweden, n+2, impl.WRoman, whenRoman(impl.Roman{Count: 1, Mark: impl.MKal, Month: 3}), true)
	askWhens(t, sweden, n+2, impl.WFeast, whenFeast("septuagesima", 13), true)
}

// Cal is told where marks has 1 in it, Solar where it has 2, each other one is -1.
func TestKnownMarked(t *testing.T) {
	paris, rome := parisRegime(), romeRegime()
	n := julDay(1346, 4, 1)
	for _, w := range []impl.When{whenDay(4, 1), whenRoman(impl.Roman{Count: 1, Month: 4}), whenFeast("ash", 31)} {
		askMarked(t, paris, n, w.Kind, 0, impl.Saying{When: w, Year: 1345, Solar: -1, Cal: -1}, true)
		askMarked(t, paris, n, w.Kind, 1, impl.Saying{When: w, Year: 1345, Solar: -1, Cal: impl.CJul}, true)
		askMarked(t, paris, n, w.Kind, 2, impl.Saying{When: w, Year: 1345, Solar: 1346, Cal: -1}, true)
		askMarked(t, paris, n, w.Kind, 3, impl.Saying{When: w, Year: 1345, Solar: 1346, Cal: impl.CJul}, true)
	}
	n = greDay(1582, 10, 15)
	askMarked(t, rome, n, impl.WDay, 1, impl.Saying{When: whenDay(10, 15), Year: 1582, Solar: -1, Cal: impl.CGre}, true)
	askMarked(t, rome, n, impl.WRoman, 2, impl.Saying{When: whenRoman(impl.Roman{Count: 1, Mark: impl.MIdes, Month: 10}), Year: 1582, Solar: 1582, Cal: -1}, true)
	askMarked(t, rome, n-1, impl.WDay, 3, impl.Saying{When: whenDay(10, 4), Year: 1582, Solar: 1582, Cal: impl.CJul}, true)
	// A day that no marks make the only one is marked all the same.
	off := offRegime()
	askMarked(t, off, julDay(1345, 12, 30), impl.WDay, 3, impl.Saying{When: whenDay(1, 2), Year: 1346, Solar: 1346, Cal: impl.CJul}, true)
}

// Days of one name want marks of 1, 3 and 2, where the calendar, both or the solar year tell them apart.
func TestDaysThatWantEachOfTheMarks(t *testing.T) {
	r := marksRegime()
	rows := []struct {
		n, day, roman, feast int
		texts                []string
	}{
		{julDay(1345, 3, 24), 1, 1, 1, []string{"1 apr 1345 gre", "kal apr 1345 gre", "easter+4 1345 gre"}},
		{julDay(1345, 4, 1), 3, 3, 1, []string{"1 apr 1345/1345 jul", "kal apr 1345/1345 jul", "easter+5 1345 jul"}},
		{julDay(1346, 4, 1), 2, 2, 1, []string{"1 apr 1345/1346", "kal apr 1345/1346", "ash+31 1345 jul"}},
		{julDay(1345, 4, 3), 3, 3, 0, []string{"3 apr 1345/1345 jul", "III non apr 1345/1345 jul", "quasimodo 1345"}},
		{julDay(1345, 4, 4), 2, 2, 0, []string{"4 apr 1345/1345", "prid non apr 1345/1345", "quasimodo+1 1345"}},
		{julDay(1345, 4, 16), 0, 0, 0, []string{"16 apr 1345", "XVI kal may 1345", "quasimodo+13 1345"}},
		{julDay(1346, 2, 9), 1, 1, -1, []string{"9 feb 1345 jul", "V id feb 1345 jul"}},
		{julDay(1346, 2, 8), 0, 0, -1, []string{"8 feb 1345", "VI id feb 1345"}},
	}
	for _, row := range rows {
		askMarks(t, r, row.n, impl.WDay, row.day)
		askMarks(t, r, row.n, impl.WRoman, row.roman)
		askMarks(t, r, row.n, impl.WFeast, row.feast)
		askAll(t, r, row.n, row.texts...)
	}
	// By feasts alone: with years from 25 March on, and an Easter ahead of the one of the year ahead, Lent comes twice.
	n := julDay(1346, 3, 25)
	lady := impl.Regime{Name: "lady", From: n - 83, To: n + 600, Segs: []impl.Segment{{From: n - 83, To: n - 1, Cal: impl.CGre}, {From: n, To: n + 600, Style: impl.YLady}}}
	askMarks(t, lady, n, impl.WFeast, 3)
	askWrite(t, lady, n, impl.WFeast, "ash+24 1346/1346 jul")
	askMarks(t, lady, julDay(1347, 3, 10), impl.WFeast, 2)
	askWrite(t, lady, julDay(1347, 3, 10), impl.WFeast, "ash+24 1346/1347")
	askWrite(t, lady, n, impl.WDay, "25 mar 1346 jul")
	lady.From, lady.Segs = n, lady.Segs[1:]
	askMarks(t, lady, n, impl.WFeast, 2)
	askWrite(t, lady, n, impl.WFeast, "ash+24 1346/1346")
	askWrite(t, lady, n, impl.WDay, "25 mar 1346")
}

// In years from Easter on, a day may come twice, which a count tells no better; a feast that moves does.
func TestWritingOfDaysThatComeTwice(t *testing.T) {
	paris := parisRegime()
	for by := range 20 {
		for _, n := range []int{julDay(1345, 3, 27) + by, julDay(1346, 3, 27) + by} {
			askMarks(t, paris, n, impl.WDay, 2)
			askMarks(t, paris, n, impl.WRoman, 2)
			askMarks(t, paris, n, impl.WFeast, 0)
		}
	}
	askAll(t, paris, julDay(1345, 3, 27), "27 mar 1345/1345", "VI kal apr 1345/1345", "easter 1345")
	askAll(t, paris, julDay(1346, 3, 27), "27 mar 1345/1346", "VI kal apr 1345/1346", "ash+26 1345")
	askAll(t, paris, julDay(1345, 4, 15), "15 apr 1345/1345", "XVII kal may 1345/1345", "quasimodo+12 1345")
	askAll(t, paris, julDay(1346, 4, 15), "15 apr 1345/1346", "XVII kal may 1345/1346", "palm+6 1345")
	askAll(t, paris, julDay(1345, 3, 26), "26 mar 1344", "VII kal apr 1344", "palm+6 1344")
	askAll(t, paris, julDay(1346, 3, 26), "26 mar 1345", "VII kal apr 1345", "ash+25 1345")
	askAll(t, paris, julDay(1345, 4, 16), "16 apr 1345", "XVI kal may 1345", "quasimodo+13 1345")
	askAll(t, paris, julDay(1346, 4, 16), "16 apr 1346", "XVI kal may 1346", "easter 1346")
	// Where the regime ends ahead of the second time, the first one is told without marks.
	cut := parisRegime()
	cut.To = julDay(1346, 4, 1)
	cut.Segs[0].To = cut.To
	askWrite(t, cut, julDay(1345, 4, 1), impl.WDay, "1 apr 1345/1345")
	askWrite(t, cut, julDay(1345, 4, 2), impl.WDay, "2 apr 1345")
	askWrite(t, cut, julDay(1346, 4, 1), impl.WRoman, "kal apr 1345/1346")
}

// Two days with one reading have no writing at all; so it is where segments of two Offs name a day alike.
func TestDaysThatNoMarkMakesOne(t *testing.T) {
	n := julDay(1345, 12, 31)
	r := offRegime()
	for _, day := range []int{n - 2, n - 1, n, n + 3, n + 4, n + 5} {
		for _, kind := range kinds {
			askMarks(t, r, day, kind, -1)
			askWrite(t, r, day, kind, "")
		}
		askAll(t, r, day)
		askMarkedTwice(t, r, day, impl.WDay)
		askMarkedTwice(t, r, day, impl.WRoman)
	}
	askAll(t, r, n-3, "31 dec 1345", "prid kal jan 1345")
	askAll(t, r, n+2, "31 dec 1346", "prid kal jan 1346") // by YYule
	askAll(t, r, n+6, "4 jan 1346", "prid non jan 1346")
	// By a feast too, where a segment that is back by six days begins in Lent.
	k := julDay(1345, 3, 1)
	lent := impl.Regime{Name: "lent", From: k - 30, To: k + 30, Segs: []impl.Segment{{From: k - 30, To: k - 1, Off: 3}, {From: k, To: k + 30, Off: -3}}}
	for by := -6; by <= 5; by++ {
		askMarks(t, lent, k+by, impl.WFeast, -1)
		askMarkedTwice(t, lent, k+by, impl.WFeast)
		askAll(t, lent, k+by)
	}
	askAll(t, lent, k-7, "25 feb 1345", "V kal mar 1345", "ash+16 1345")
	askAll(t, lent, k+6, "4 mar 1345", "IV non mar 1345", "ash+23 1345")
}

// askMarkedTwice asks that all marks make a saying of the day and of one other day.
func askMarkedTwice(t *testing.T, r impl.Regime, n, kind int) {
	t.Helper()
	for marks := range 4 {
		s, ok := impl.Marked(r, n, kind, marks)
		days := impl.DaysSaid(r, s)
		if !ok || len(days) != 2 || !slices.Contains(days, n) {
			t.Errorf("Marked(%v, %d, %d, %d) = %+v, %v, which means %v", r, n, kind, marks, s, ok, days)
		}
	}
}

// A patched day is written by its month and day alone; the day whose name it took, by a count or a feast alone.
func TestWritingOfPatchedDays(t *testing.T) {
	r, n := patchedRegime(), julDay(1345, 6, 24)
	askAll(t, r, n-2, "22 jun 1345", "X kal jul 1345", "corpus+27 1345")
	askAll(t, r, n-1, "24 jun 1345") // the day of that name is patched itself
	askAll(t, r, n)
	askAll(t, r, n+2, "VI kal jul 1345", "corpus+31 1345")
	askAll(t, r, n+4, "28 jun 1345") // named as without its patch, which still hides its date
	askAll(t, r, n+5)                // two patches of one name
	askAll(t, r, n+6)
	askAll(t, r, n+7, "25 dec 1345")
	for _, p := range r.Patches {
		askWhens(t, r, p.Day, impl.WDay, whenDay(p.Month, p.Dom), true)
		askUntold(t, r, p.Day, impl.WRoman)
		askUntold(t, r, p.Day, impl.WFeast)
	}
	for _, day := range []int{n, n + 2, n + 5, n + 6} {
		askMarks(t, r, day, impl.WDay, -1)
		askMarkedTwice(t, r, day, impl.WDay)
	}
	askDoubtful(t, r, r.From, r.To, impl.WDay, []int{n, n + 2, n + 5, n + 6})
	askDoubtful(t, r, r.From, r.To, impl.WRoman, []int{n - 1, n, n + 4, n + 5, n + 6, n + 7})
	askDoubtful(t, r, r.From, r.To, impl.WFeast, []int{n - 1, n, n + 4, n + 5, n + 6, n + 7})
	plain := copyRegime(r)
	plain.Patches = nil
	askAll(t, plain, n, "24 jun 1345", "VIII kal jul 1345", "corpus+29 1345")
	sweden := swedenRegime()
	askAll(t, sweden, julDay(1712, 2, 28), "29 feb 1712", "prid kal mar 1712", "septuagesima+12 1712")
	askAll(t, sweden, julDay(1712, 2, 29), "30 feb 1712")
	askAll(t, sweden, julDay(1712, 3, 1), "1 mar 1712", "kal mar 1712", "septuagesima+13 1712")
	// In another solar year or calendar, marks tell a patched day from the one whose name it took.
	paris := parisRegime()
	paris.Patches = []impl.Patch{{Day: julDay(1346, 1, 10), Month: 5, Dom: 1}}
	askAll(t, paris, julDay(1345, 5, 1), "1 may 1345/1345", "kal may 1345", "rogation 1345")
	askAll(t, paris, julDay(1346, 1, 10), "1 may 1345/1346")
	rome := romeRegime()
	rome.Patches = []impl.Patch{{Day: greDay(1582, 11, 1), Month: 10, Dom: 4}}
	askAll(t, rome, greDay(1582, 11, 1), "4 oct 1582 gre")
	askAll(t, rome, julDay(1582, 10, 4), "4 oct 1582 jul", "IV non oct 1582")
}

// No feast that moves tells days ahead of the first one of a year, nor those more than 99 behind the last one.
func TestWritingBeyondTheFeastsThatMove(t *testing.T) {
	r := oneSegment(impl.CJul, impl.YJan, 0, 1344, 800)
	first, last := julDay(1345, 1, 23), julDay(1345, 5, 26)
	askWrite(t, r, first, impl.WFeast, "septuagesima 1345")
	askWrite(t, r, first+1, impl.WFeast, "septuagesima+1 1345")
	askWrite(t, r, last, impl.WFeast, "corpus 1345")
	askWrite(t, r, last+98, impl.WFeast, "corpus+98 1345")
	askWrite(t, r, last+99, impl.WFeast, "corpus+99 1345")
	untold := append(daysFromTo(julDay(1345, 1, 1), first-1), daysFromTo(last+100, julDay(1346, 2, 11))...)
	for _, n := range untold {
		askUntold(t, r, n, impl.WFeast)
	}
	askAll(t, r, first-1, "22 jan 1345", "XI kal feb 1345")
	askAll(t, r, last+100, "3 sep 1345", "III non sep 1345")
	askWrite(t, r, julDay(1346, 2, 12), impl.WFeast, "septuagesima 1346")
	askDoubtful(t, r, julDay(1345, 1, 1), julDay(1346, 1, 31), impl.WFeast, slices.DeleteFunc(untold, func(n int) bool { return n > julDay(1346, 1, 31) }))
	// With an Off it is the date that counts, not the day.
	for off := -3; off <= 3; off++ {
		r := oneSegment(impl.CJul, impl.YSept, off, 1344, 800)
		askUntold(t, r, first-off-1, impl.WFeast)
		askWrite(t, r, first-off, impl.WFeast, "septuagesima 1345")
		askWrite(t, r, last-off+99, impl.WFeast, "corpus+99 1346")
		askUntold(t, r, last-off+100, impl.WFeast)
	}
}

func TestWritingOfTheSixthDayTwice(t *testing.T) {
	jul, gre := oneSegment(impl.CJul, impl.YJan, 0, 1499, 950), oneSegment(impl.CGre, impl.YJan, 0, 1499, 950)
	askWrite(t, jul, julDay(1500, 2, 23), impl.WRoman, "VII kal mar 1500")
	askWrite(t, jul, julDay(1500, 2, 24), impl.WRoman, "bis VI kal mar 1500")
	askWrite(t, jul, julDay(1500, 2, 25), impl.WRoman, "VI kal mar 1500")
	askWrite(t, jul, julDay(1500, 2, 26), impl.WRoman, "V kal mar 1500")
	askWrite(t, jul, julDay(1501, 2, 24), impl.WRoman, "VI kal mar 1501")
	askWrite(t, gre, greDay(1500, 2, 24), impl.WRoman, "VI kal mar 1500")
	askWrite(t, gre, greDay(1500, 2, 25), impl.WRoman, "V kal mar 1500")
	for off := -3; off <= 3; off++ {
		r := oneSegment(impl.CJul, impl.YMarch, off, 1499, 950)
		askAll(t, r, julDay(1500, 2, 24)-off, "24 feb 1499", "bis VI kal mar 1499", "septuagesima+8 1499")
		askAll(t, r, julDay(1500, 2, 25)-off, "25 feb 1499", "VI kal mar 1499", "septuagesima+9 1499")
	}
}

// The first and the last day of each segment, whose date may lie beyond it, beyond the regime, or in another year.
func TestWritingAtTheEndsOfSegments(t *testing.T) {
	t.Parallel()
	n := julDay(1345, 12, 31)
	r := offRegime()
	askAll(t, r, n-20, "8 dec 1345", "VI id dec 1345")
	askAll(t, r, n-10, "18 dec 1345", "XV kal jan 1345")
	askAll(t, r, n-9, "25 dec 1345", "VIII kal jan 1345")
	askAll(t, r, n-3, "31 dec 1345", "prid kal jan 1345")
	askAll(t, r, n)
	askAll(t, r, n+1, "30 dec 1346", "III kal jan 1346")
	askAll(t, r, n+20, "18 jan 1346", "XV kal feb 1346")
	askUnwritten(t, r, n-21)
	askUnwritten(t, r, n+21)
	rome := romeRegime()
	askAll(t, rome, rome.From, "1 jan 1582", "kal jan 1582")
	askAll(t, rome, rome.Segs[0].To, "4 oct 1582", "IV non oct 1582")
	askAll(t, rome, rome.Segs[1].From, "15 oct 1582", "id oct 1582")
	askAll(t, rome, rome.To, "31 dec 1583", "prid kal jan 1583")
	askUnwritten(t, rome, rome.From-1)
	askUnwritten(t, rome, rome.To+1)
	// By each Off around new year, the last day of a segment and the first one of the next.
	for off := -3; off <= 3; off++ {
		for next := -3; next <= 3; next++ {
			for by := -4; by <= 4; by++ {
				for cal := range 2 {
					from := n - 30 + by
					x := writeSegments(impl.Regime{Name: "ends", From: from, To: from + 60, Segs: []impl.Segment{{From: from, To: from + 29, Off: off}, {From: from + 30, To: from + 60, Cal: cal, Off: next}}})
					for day := n - 7; day <= n+7; day++ {
						askWriting(t, x, day)
					}
					askWriting(t, x, x.From)
					askWriting(t, x, x.To)
				}
			}
		}
	}
}

// The line ends within the years that sayings tell.
func TestWritingAtTheEndsOfTheLine(t *testing.T) {
	t.Parallel()
	eachStyle(func(cal, style int) {
		for off := -3; off <= 3; off++ {
			for _, ends := range [][2]int{{impl.FirstDay, impl.FirstDay}, {impl.LastDay, impl.LastDay}, {impl.FirstDay, impl.FirstDay + 399}, {impl.LastDay - 399, impl.LastDay}} {
				x := writeSegments(impl.Regime{Name: "ends", From: ends[0], To: ends[1], Segs: []impl.Segment{{From: ends[0], To: ends[1], Cal: cal, Style: style, Off: off}}})
				askWriting(t, x, ends[0])
				askWriting(t, x, ends[1])
				askUnwritten(t, x.Regime, ends[0]-1)
				askUnwritten(t, x.Regime, ends[1]+1)
				for _, kind := range kinds {
					want := x.doubtful(ends[0], ends[1], kind)
					askDoubtful(t, x.Regime, ends[0], ends[1], kind, want)
					askDoubtful(t, x.Regime, ends[0]-1, ends[1], kind, keepIf(ends[0] > impl.FirstDay && ends[1]-ends[0] < 399, want))
					askDoubtful(t, x.Regime, ends[0], ends[1]+1, kind, keepIf(ends[1] < impl.LastDay && ends[1]-ends[0] < 399, want))
				}
			}
		}
	})
	first := evenRegime(impl.FirstDay, 1, 1)
	first.Segs[0] = impl.Segment{From: impl.FirstDay, To: impl.FirstDay, Style: impl.YMarch}
	askAll(t, first, impl.FirstDay, "6 feb 1", "VIII id feb 1")
}

// keepIf is nothing where a list is not wanted.
func keepIf(wanted bool, list []int) []int {
	if wanted {
		return list
	}
	return nil
}

// Doubtful days are those that want marks, one by one; days that are none of the regime's are left out.
func TestDoubtfulByMarks(t *testing.T) {
	for i, r := range writingRegimes() {
		t.Run(strconv.Itoa(i)+" "+r.Name, func(t *testing.T) {
			t.Parallel()
			x := writeSegments(r)
			random := rand.New(rand.NewSource(int64(i)))
			windows := [][2]int{{r.From - 100, r.From + 299}, {r.To - 299, r.To + 100}, {r.From, r.From}, {r.To, r.To}, {r.From - 1, r.From - 1}, {r.To + 1, r.To + 1}, {r.From - 1, r.From}, {r.To, r.To + 1}, {r.From - 399, r.From}, {r.To, r.To + 399}}
			for range 3 {
				from := r.From - 50 + random.Intn(r.To-r.From+100)
				windows = append(windows, [2]int{from, from + random.Intn(400)}, [2]int{from, from + 399}, [2]int{from, from + 400}, [2]int{from + 1, from})
			}
			for _, w := range windows {
				right := w[0] >= impl.FirstDay && w[1] <= impl.LastDay && w[1]-w[0] < 400
				for _, kind := range kinds {
					askDoubtful(t, r, w[0], w[1], kind, keepIf(right, x.doubtful(w[0], w[1], kind)))
				}
				// By a kind that there is not no day has marks of 0.
				kind := otherKinds[random.Intn(len(otherKinds))]
				askDoubtful(t, r, w[0], w[1], kind, keepIf(right, x.has(w[0], w[1])))
			}
		})
	}
}

func TestKnownDoubtfulDays(t *testing.T) {
	paris := parisRegime()
	twice := append(daysFromTo(julDay(1345, 3, 27), julDay(1345, 4, 15)), daysFromTo(julDay(1346, 3, 27), julDay(1346, 4, 15))...)
	first, last := twice[0], twice[len(twice)-1]
	for _, kind := range []int{impl.WDay, impl.WRoman} {
		askDoubtful(t, paris, first, last, kind, twice)
		askDoubtful(t, paris, first+1, last-1, kind, twice[1:39])
		askDoubtful(t, paris, first, first, kind, twice[:1])
		askDoubtful(t, paris, first-1, first-1, kind, nil)
		askDoubtful(t, paris, last, last, kind, twice[39:])
		askDoubtful(t, paris, last+1, last+1, kind, nil)
		askDoubtful(t, paris, last, first, kind, nil)
		askDoubtful(t, paris, first+1, first, kind, nil)
		// 400 days, and one more at either end.
		askDoubtful(t, paris, first, first+399, kind, twice)
		askDoubtful(t, paris, first, first+400, kind, nil)
		askDoubtful(t, paris, first-1, first+399, kind, nil)
		askDoubtful(t, paris, last-399, last, kind, twice)
		askDoubtful(t, paris, last-400, last, kind, nil)
		askDoubtful(t, paris, paris.From, paris.To, kind, nil)
		askDoubtful(t, paris, impl.FirstDay, impl.LastDay, kind, nil)
		askDoubtful(t, paris, impl.LastDay, impl.FirstDay, kind, nil)
	}
	askDoubtful(t, paris, first, first+399, impl.WFeast, daysFromTo(julDay(1345, 9, 3), julDay(1346, 2, 11)))
	rome := romeRegime()
	askDoubtful(t, rome, rome.From-10, rome.From+389, impl.WDay, nil)
	askDoubtful(t, rome, rome.From-10, rome.From+9, 3, daysFromTo(rome.From, rome.From+9))
	askDoubtful(t, rome, rome.To-9, rome.To+10, -1, daysFromTo(rome.To-9, rome.To))
	askDoubtful(t, rome, rome.From-20, rome.From-1, 3, nil)
	askDoubtful(t, rome, rome.To+1, rome.To+20, 3, nil)
	// A day that no marks make the only one is as doubtful as one that wants some.
	n := julDay(1345, 12, 31)
	askDoubtful(t, offRegime(), n-40, n+40, impl.WDay, []int{n - 2, n - 1, n, n + 3, n + 4, n + 5})
}

// Both ends of the line, of the 64 bits, and one of both right alone.
func TestDoubtfulOfWrongDays(t *testing.T) {
	whole := wholeRegime()
	// By no kind each day is told that may be asked for.
	askDoubtful(t, whole, impl.FirstDay, impl.FirstDay+399, 3, daysFromTo(impl.FirstDay, impl.FirstDay+399))
	askDoubtful(t, whole, impl.LastDay-399, impl.LastDay, 3, daysFromTo(impl.LastDay-399, impl.LastDay))
	askDoubtful(t, whole, impl.FirstDay, impl.FirstDay, 3, []int{impl.FirstDay})
	askDoubtful(t, whole, impl.LastDay, impl.LastDay, 3, []int{impl.LastDay})
	askDoubtful(t, whole, impl.FirstDay, impl.FirstDay+400, 3, nil)
	askDoubtful(t, whole, impl.LastDay-400, impl.LastDay, 3, nil)
	wrong := append([]int{impl.FirstDay - 1, impl.FirstDay - 2, impl.LastDay + 1, impl.LastDay + 2, 0, 1, -1, 399}, append(farDays, farNumbers...)...)
	for _, a := range wrong {
		for _, b := range append([]int{impl.FirstDay, impl.FirstDay + 10, 490904, impl.LastDay - 10, impl.LastDay}, wrong...) {
			for _, kind := range []int{impl.WDay, impl.WRoman, impl.WFeast, 3, -1} {
				askDoubtful(t, whole, a, b, kind, nil)
				askDoubtful(t, whole, b, a, kind, nil)
			}
		}
	}
}

// Rewrite is Write of what Read tells, by each kind, empty texts among them.
func TestRewriteByReadAndWrite(t *testing.T) {
	for i, r := range writingRegimes() {
		t.Run(strconv.Itoa(i)+" "+r.Name, func(t *testing.T) {
			t.Parallel()
			x := writeSegments(r)
			random := rand.New(rand.NewSource(int64(i)))
			days := []int{r.From, r.To}
			for _, p := range r.Patches {
				days = append(days, p.Day)
			}
			for range 25 {
				days = append(days, r.From+random.Intn(r.To-r.From+1))
			}
			for _, n := range days {
				for _, s := range x.sayingsOn(n)[:min(12, len(x.sayingsOn(n)))] {
					text := sayingWords(s)
					for _, kind := range kinds {
						askRewrite(t, r, text, kind, x.rewritten(s, kind)...)
					}
					askRewrite(t, r, text, otherKinds[random.Intn(len(otherKinds))], make([]string, len(x.meant(s)))...)
				}
				// What is written is rewritten as itself.
				for _, kind := range kinds {
					if text := x.text(n, kind); text != "" {
						askRewrite(t, r, text, kind, text)
					}
				}
			}
		})
	}
}

func TestKnownRewrites(t *testing.T) {
	paris := parisRegime()
	askRewrite(t, paris, "1 apr 1345", impl.WDay, "1 apr 1345/1345", "1 apr 1345/1346")
	askRewrite(t, paris, "1 apr 1345", impl.WRoman, "kal apr 1345/1345", "kal apr 1345/1346")
	askRewrite(t, paris, "1 apr 1345", impl.WFeast, "easter+5 1345", "ash+31 1345")
	askRewrite(t, paris, "1 apr 1345/1346 jul", impl.WDay, "1 apr 1345/1346")
	askRewrite(t, paris, "palm 1345", impl.WDay, "9 apr 1345/1346")
	askRewrite(t, paris, "annunciation+10 1345", impl.WFeast, "quasimodo+1 1345", "ash+34 1345")
	askRewrite(t, paris, "1 may 1345 jul", impl.WDay, "1 may 1345") // needless marks are left out
	// A saying that means no day, and days without a writing, which keep their places.
	askRewrite(t, paris, "1 apr 1345 gre", impl.WDay)
	askRewrite(t, paris, "31 feb 1345", impl.WDay)
	askRewrite(t, paris, "1 apr 1400", impl.WRoman)
	askRewrite(t, paris, "1 jan 1345", impl.WFeast, "")
	askRewrite(t, paris, "1 jan 1345", impl.WDay, "1 jan 1345")
	askRewrite(t, paris, "1 apr 1345", 3, "", "")
	askRewrite(t, paris, "1 may 1345", -1, "")
	askRewrite(t, paris, "31 feb 1345", 3)
	patched := patchedRegime()
	askRewrite(t, patched, "26 jun 1345", impl.WDay, "", "")
	askRewrite(t, patched, "26 jun 1345", impl.WRoman, "", "VI kal jul 1345")
	askRewrite(t, patched, "26 jun 1345", impl.WFeast, "", "corpus+31 1345")
	askRewrite(t, patched, "24 jun 1345", impl.WRoman, "")
	askRewrite(t, patched, "VI kal jul 1345", impl.WDay, "")
	askRewrite(t, swedenRegime(), "30 feb 1712", impl.WDay, "30 feb 1712")
	askRewrite(t, swedenRegime(), "30 feb 1712", impl.WRoman, "")
	askRewrite(t, romeRegime(), "id oct 1582", impl.WDay, "15 oct 1582")
	askRewrite(t, romeRegime(), "10 oct 1582", impl.WDay)
}

func TestRewriteOfTextsThatAreNoSaying(t *testing.T) {
	rome := romeRegime()
	for _, text := range append([]string{"", "15 oct 1582 ", " 15 oct 1582", "15 oct 1582/", "15 oct 1582 x", "15 oct", "015 oct 1582", "15 oct 1582\n", "15 OCT 1582", "easter+0 1583", "I kal nov 1582"}, noSayingTexts...) {
		for _, kind := range kinds {
			askRewrite(t, rome, text, kind)
		}
		askRewrite(t, rome, text, 3)
	}
	for _, kind := range otherKinds {
		askRewrite(t, rome, "", kind)
		askRewrite(t, rome, "x", kind)
		askRewrite(t, rome, "15 oct 1582", kind, "")
	}
}

// A kind that there is not tells nothing, of whatever day.
func TestWritingByOtherKinds(t *testing.T) {
	for _, r := range []impl.Regime{romeRegime(), parisRegime(), swedenRegime(), fullRegime(), patchedRegime(), wholeRegime()} {
		days := []int{r.From, r.From + 1, r.To - 1, r.To, r.From - 1, r.To + 1}
		for _, p := range r.Patches {
			days = append(days, p.Day)
		}
		for _, kind := range otherKinds {
			for _, n := range days {
				askUntold(t, r, n, kind)
			}
			for _, marks := range otherMarks {
				askMarked(t, r, r.From, kind, marks, impl.Saying{}, false)
			}
		}
	}
}

func TestOtherMarks(t *testing.T) {
	for _, r := range []impl.Regime{romeRegime(), parisRegime(), swedenRegime(), fullRegime(), patchedRegime(), offRegime(), wholeRegime()} {
		for _, n := range []int{r.From, r.From + 10, r.To - 10, r.To, r.From - 1, r.To + 1} {
			for _, kind := range kinds {
				for _, marks := range otherMarks {
					askMarked(t, r, n, kind, marks, impl.Saying{}, false)
				}
			}
		}
	}
}

// A regime that is not right writes nothing, wherever it is wrong.
func TestWritingInWrongRegimes(t *testing.T) {
	full := fullRegime()
	days := []int{600000, 600001, 600050, 600100, 600101, 600250, 600300, 600399, 600400}
	x := writeSegments(full)
	var texts []string
	for _, n := range days {
		askWriting(t, x, n)
		texts = append(texts, x.all(n)...)
	}
	for _, text := range texts {
		if len(impl.Rewrite(full, text, impl.WDay)) != 1 {
			t.Errorf("%q means no day of the right regime, or more", text)
		}
	}
	for _, r := range wrongRegimes() {
		askRegimeOk(t, "wrong", r, false)
		for _, n := range append(days, r.From, r.To) {
			for _, kind := range append([]int{3, -1}, kinds...) {
				askUntold(t, r, n, kind)
			}
			askAll(t, r, n)
		}
		for _, kind := range append([]int{3, -1}, kinds...) {
			askDoubtful(t, r, 600000, 600399, kind, nil)
			askDoubtful(t, r, 600100, 600100, kind, nil)
			askDoubtful(t, r, r.From, r.To, kind, nil)
			for _, text := range append([]string{"", "x", "1 jan 1643"}, texts...) {
				askRewrite(t, r, text, kind)
			}
		}
	}
}

// Nothing is written into a regime, nor into the spare room behind its lists.
func TestWritingLeavesItsArguments(t *testing.T) {
	room := fullRegime()
	kept := copyRegime(room)
	cut := room
	cut.Segs, cut.Patches, cut.Reigns, cut.To = room.Segs[:3], room.Patches[:2], room.Reigns[:2], 600299
	for _, r := range []impl.Regime{room, cut} {
		x := writeSegments(r)
		for n := r.From; n <= r.To; n++ {
			askWriting(t, x, n)
		}
		for _, kind := range kinds {
			askDoubtful(t, r, 600000, 600399, kind, x.doubtful(600000, 600399, kind))
			for _, text := range x.all(600050) {
				askRewrite(t, r, text, kind, x.text(600050, kind))
			}
		}
		askSame(t, "the argument", room, kept, true)
	}
}

func TestWritingAnswersAreNewMemory(t *testing.T) {
	paris := parisRegime()
	n := julDay(1345, 3, 27)
	for range 3 {
		texts, rewritten, days := impl.All(paris, n), impl.Rewrite(paris, "27 mar 1345", impl.WDay), impl.Doubtful(paris, n, n+9, impl.WDay)
		for _, list := range [][]string{texts, rewritten} {
			for i := range list[:cap(list)] {
				list[:cap(list)][i] = "x"
			}
		}
		for i := range days[:cap(days)] {
			days[:cap(days)][i] = -1
		}
		askAll(t, paris, n, "27 mar 1345/1345", "VI kal apr 1345/1345", "easter 1345")
		askRewrite(t, paris, "27 mar 1345", impl.WDay, "27 mar 1345/1345", "27 mar 1345/1346")
		askDoubtful(t, paris, n, n+9, impl.WDay, daysFromTo(n, n+9))
		askSame(t, "the argument", paris, parisRegime(), true)
	}
}
