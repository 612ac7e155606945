package tests

import (
	"fmt"
	"math"
	"math/rand"
	"slices"
	"strconv"
	"testing"

	"loop.example/g00638/impl"
)

// place is a regime with what each of its days is written as and by how much it is off, told by walks and ahead of all asking, so that many may ask one at once.
type place struct {
	writtenRegime
	texts  [][3]string
	shifts []shifted
}

type shifted struct {
	by int
	ok bool
}

// shiftTable has the day of each month and day of those years of CGre that were asked for.
type shiftTable map[int]map[[2]int]int

// shift walks through the solar year once; it is false where that year has no such month and day.
func (table shiftTable) shift(x impl.Reading, n int) (int, bool) {
	if table[x.Solar] == nil {
		table[x.Solar] = map[[2]int]int{}
		day := styleLines()[impl.CGre][impl.YJan][x.Solar]
		for d := date(impl.CGre, x.Solar, 1, 1); d.Year == x.Solar; d = nextDate(d) {
			table[x.Solar][[2]int{d.Month, d.Day}] = day
			day++
		}
	}
	day, ok := table[x.Solar][[2]int{x.Month, x.Day}]
	if !ok {
		return 0, false
	}
	return day - n, true
}

func tellPlace(r impl.Regime) place {
	p, table := place{writtenRegime: writeSegments(r)}, shiftTable{}
	for n := r.From; n <= r.To; n++ {
		var texts [3]string
		for _, kind := range kinds {
			texts[kind] = p.text(n, kind)
		}
		by, ok := table.shift(p.on(n), n)
		p.texts, p.shifts = append(p.texts, texts), append(p.shifts, shifted{by, ok})
	}
	return p
}

// write is empty for a day that is none of the place's, and by a kind that there is not.
func (p place) write(n, kind int) string {
	if n < p.From || n > p.To || kind < 0 || kind > 2 {
		return ""
	}
	return p.texts[n-p.From][kind]
}

// shift is for days of the place.
func (p place) shift(n int) (int, bool) { return p.shifts[n-p.From].by, p.shifts[n-p.From].ok }

// arrived tells what a place writes of the days that a saying means in another one, and by days more.
func arrived(a, b place, s impl.Saying, by, kind int) []string {
	var texts []string
	for _, n := range a.meant(s) {
		if text := b.write(n+by, kind); text != "" {
			texts = append(texts, text)
		}
	}
	return texts
}

// windowOf tells the days of from .. to that both have; none where so many may not be asked for. It wants no ends that are far off.
func windowOf(a, b impl.Regime, from, to int) (int, int) {
	if from < impl.FirstDay || from > impl.LastDay || to < impl.FirstDay || to > impl.LastDay || to-from+1 > 1000 {
		return 1, 0
	}
	return max(from, a.From, b.From), min(to, a.To, b.To)
}

// runsOf goes day by day from first to last.
func runsOf(first, last int, a, b func(int) (int, bool)) []impl.Run {
	var list []impl.Run
	for n := first; n <= last; n++ {
		x, hasA := a(n)
		y, hasB := b(n)
		if !hasA || !hasB {
			continue
		}
		if k := len(list) - 1; k >= 0 && list[k] == (impl.Run{From: list[k].From, To: n - 1, A: x, B: y}) {
			list[k].To = n
			continue
		}
		list = append(list, impl.Run{From: n, To: n, A: x, B: y})
	}
	return list
}

func sameOf(first, last int, a, b func(int) impl.Reading) []int {
	var days []int
	for n := first; n <= last; n++ {
		if x, y := a(n), b(n); x.Year == y.Year && x.Month == y.Month && x.Day == y.Day {
			days = append(days, n)
		}
	}
	return days
}

// beforeOf holds each day against each.
func beforeOf(x, y []int) int {
	ahead, behind := true, true
	for _, n := range x {
		for _, k := range y {
			ahead, behind = ahead && n < k, behind && n > k
		}
	}
	switch {
	case len(x) == 0 || len(y) == 0:
		return 3
	case ahead:
		return -1
	case behind:
		return 1
	case len(x) == 1 && len(y) == 1:
		return 0
	}
	return 2
}

func askConvert(t *testing.T, a, b impl.Regime, s string, kind int, want ...string) {
	t.Helper()
	if got := impl.Convert(a, b, s, kind); !slices.Equal(got, want) {
		t.Errorf("Convert(%v, %v, %.99q, %d) = %q, want %q", a, b, s, kind, got, want)
	}
}

func askConcord(t *testing.T, a, b impl.Regime, from, to int, want ...impl.Run) {
	t.Helper()
	if got := impl.Concord(a, b, from, to); !slices.Equal(got, want) {
		t.Errorf("Concord(%v, %v, %d, %d) = %v, want %v", a, b, from, to, got, want)
	}
}

func askSameDays(t *testing.T, a, b impl.Regime, from, to int, want ...int) {
	t.Helper()
	if got := impl.Same(a, b, from, to); !slices.Equal(got, want) {
		t.Errorf("Same(%v, %v, %d, %d) = %v, want %v", a, b, from, to, got, want)
	}
}

func askMeet(t *testing.T, a, b impl.Regime, first, last int) {
	t.Helper()
	if x, y := impl.Meet(a, b); x != first || y != last {
		t.Errorf("Meet(%v, %v) = %d, %d, want %d, %d", a, b, x, y, first, last)
	}
}

func askLetters(t *testing.T, a, b impl.Regime, s string, days int, want ...string) {
	t.Helper()
	if got := impl.Letters(a, b, s, days); !slices.Equal(got, want) {
		t.Errorf("Letters(%v, %v, %.99q, %d) = %q, want %q", a, b, s, days, got, want)
	}
}

// askBefore asks from both sides: what is ahead from one is behind from the other.
func askBefore(t *testing.T, a impl.Regime, s string, b impl.Regime, text string, want int) {
	t.Helper()
	if got := impl.Before(a, s, b, text); got != want {
		t.Errorf("Before(%v, %.99q, %v, %.99q) = %d, want %d", a, s, b, text, got, want)
	}
	if want == 1 || want == -1 {
		want = -want
	}
	if got := impl.Before(b, text, a, s); got != want {
		t.Errorf("Before(%v, %.99q, %v, %.99q) = %d, want %d", b, text, a, s, got, want)
	}
}

// askWindow asks what both places tell of the days of from .. to.
func askWindow(t *testing.T, a, b place, from, to int) {
	t.Helper()
	first, last := windowOf(a.Regime, b.Regime, from, to)
	askConcord(t, a.Regime, b.Regime, from, to, runsOf(first, last, a.shift, b.shift)...)
	askSameDays(t, a.Regime, b.Regime, from, to, sameOf(first, last, a.on, b.on)...)
}

// askMeeting asks for the days that both have, one by one.
func askMeeting(t *testing.T, a, b impl.Regime) {
	t.Helper()
	var both []int
	for n := a.From; n <= a.To; n++ {
		if n >= b.From && n <= b.To {
			both = append(both, n)
		}
	}
	first, last := 0, 0
	if len(both) > 0 {
		first, last = both[0], both[len(both)-1]
	}
	askMeet(t, a, b, first, last)
	askMeet(t, b, a, first, last)
}

// askRuns is promise 14 by the program's own answers: each day is in one run just where both have a Shift, and no two runs could be one.
func askRuns(t *testing.T, a, b impl.Regime, from, to int) {
	t.Helper()
	runs := impl.Concord(a, b, from, to)
	for i, x := range runs {
		if x.From > x.To || x.From < from || x.To > to {
			t.Errorf("Concord(%v, %v, %d, %d) has the run %v", a, b, from, to, x)
		}
		if i == 0 {
			continue
		}
		w := runs[i-1]
		if x.From <= w.To || x.From == w.To+1 && x.A == w.A && x.B == w.B {
			t.Errorf("Concord(%v, %v, %d, %d) has %v behind %v", a, b, from, to, x, w)
		}
	}
	for n := from; n <= to; n++ {
		x, hasA := impl.Shift(a, n)
		y, hasB := impl.Shift(b, n)
		count := 0
		for _, run := range runs {
			if run.From <= n && n <= run.To {
				count++
				if run.A != x || run.B != y {
					t.Errorf("day %d of %v and %v is in the run %v, off by %d and %d", n, a, b, run, x, y)
				}
			}
		}
		if hasA && hasB && count != 1 || !(hasA && hasB) && count != 0 {
			t.Errorf("day %d of %v and %v (%v, %v) is in %d runs", n, a, b, hasA, hasB, count)
		}
	}
}

// askThere is promise 14 by the program's own answers: what the second place writes is a day that the first one can mean.
func askThere(t *testing.T, a, b impl.Regime, s string, kind int) {
	t.Helper()
	days, _ := impl.Read(a, s)
	for _, text := range impl.Convert(a, b, s, kind) {
		there, ok := impl.Read(b, text)
		if !ok || len(there) != 1 || !slices.Contains(days, there[0]) {
			t.Errorf("%q of %v, which means %v, is %q in %v, which means %v", s, a, days, text, b, there)
		}
		// And it comes back as what the first place writes of that day.
		if own := impl.Write(a, there[0], kind); own != "" {
			askConvert(t, b, a, text, kind, own)
		}
	}
}

// whensOn are all by which a day of the place is told, by each kind.
func (p place) whensOn(n int) []impl.When {
	var list []impl.When
	for _, kind := range kinds {
		if w, ok := p.when(n, kind); ok {
			list = append(list, w)
		}
	}
	return list
}

// someSaying is of a day of first .. last, by any kind and any marks; at times it is one of no day.
func (p place) someSaying(random *rand.Rand, first, last int) impl.Saying {
	n := first + random.Intn(last-first+1)
	whens := p.whensOn(n)
	s := markedSaying(whens[random.Intn(len(whens))], p.on(n), random.Intn(2)*random.Intn(4))
	switch random.Intn(12) {
	case 0:
		s.Year++
	case 1:
		s.When = whenDay(2, 29+random.Intn(3))
	case 2:
		s.Solar, s.Cal = s.Year-1, -1
	}
	return s
}

// askConverting asks for what a day of the first place is in the second one, by the kinds in turn.
func askConverting(t *testing.T, a, b place, n int) {
	t.Helper()
	for i, w := range a.whensOn(n) {
		s := markedSaying(w, a.on(n), (n+i)%4)
		kind := (n/4 + i) % 3
		askConvert(t, a.Regime, b.Regime, sayingWords(s), kind, arrived(a, b, s, 0, kind)...)
	}
}

// askSayings asks for sayings by chance, and counts what Before tells of them.
func askSayings(t *testing.T, a, b place, random *rand.Rand, times int, counts *[5]int) {
	t.Helper()
	for range times {
		x, y := a.someSaying(random, a.From, a.To), b.someSaying(random, b.From, b.To)
		// Days near each other are alike more often.
		if first, last := max(a.From, b.From), min(a.To, b.To); first <= last && random.Intn(2) == 0 {
			n := first + random.Intn(last-first+1)
			x, y = a.someSaying(random, n, n), b.someSaying(random, n, min(n+random.Intn(2), b.To))
		}
		kind := random.Intn(3)
		askConvert(t, a.Regime, b.Regime, sayingWords(x), kind, arrived(a, b, x, 0, kind)...)
		for _, days := range []int{random.Intn(401), random.Intn(5)} {
			askLetters(t, a.Regime, b.Regime, sayingWords(x), days, arrived(a, b, x, days, impl.WDay)...)
		}
		want := beforeOf(a.meant(x), b.meant(y))
		counts[want+1]++
		askBefore(t, a.Regime, sayingWords(x), b.Regime, sayingWords(y), want)
	}
}

// askWindows asks for days around those that both have, by chance and as many as may be.
func askWindows(t *testing.T, a, b place, random *rand.Rand) {
	t.Helper()
	low, high := max(a.From, b.From), min(a.To, b.To)
	windows := [][2]int{{low, high}, {high, low}, {low - 1, high + 1}, {low - 500, low + 499}, {high - 499, high + 500}, {low, low}, {high, high}, {low - 999, low}, {high, high + 999}, {low - 1000, low}, {high, high + 1000}, {low + 1, low}, {low - 1, low - 1}, {high + 1, high + 1}, {a.From, a.To}, {b.From, b.To}}
	for range 3 {
		from := min(low, high) - 20 + random.Intn(max(high-low, low-high)+40)
		windows = append(windows, [2]int{from, from + random.Intn(1000)}, [2]int{from, from + 999}, [2]int{from, from + 1000})
	}
	for _, w := range windows {
		askWindow(t, a, b, w[0], w[1])
	}
}

// besideRegime is one by chance that begins some days ahead of another one or within it.
func besideRegime(random *rand.Rand, r impl.Regime) impl.Regime {
	x := chanceRegime(random)
	from := r.From - 60 + random.Intn(min(r.To-r.From, 400)+61)
	from = max(impl.FirstDay, min(from, impl.LastDay-(x.To-x.From)))
	by := from - x.From
	x.From, x.To = x.From+by, x.To+by
	for i := range x.Segs {
		x.Segs[i].From, x.Segs[i].To = x.Segs[i].From+by, x.Segs[i].To+by
	}
	for i := range x.Patches {
		x.Patches[i].Day += by
	}
	return x
}

// plainRegime has the days of another one, by one calendar alone.
func plainRegime(r impl.Regime, cal, style, off int) impl.Regime {
	return impl.Regime{Name: "plain", From: r.From, To: r.To, Segs: []impl.Segment{{From: r.From, To: r.To, Cal: cal, Style: style, Off: off}}}
}

// Promise 14 for pairs of right regimes of one to twenty segments: all days there and back.
func TestTwoPlacesByRegimes(t *testing.T) {
	list := writingRegimes()
	counts := make([][5]int, len(list))
	meetings := make([]int, len(list))
	t.Run("each", func(t *testing.T) {
		for i, r := range list {
			t.Run(strconv.Itoa(i)+" "+r.Name, func(t *testing.T) {
				t.Parallel()
				random := rand.New(rand.NewSource(int64(i)))
				own := tellPlace(r)
				others := []place{tellPlace(besideRegime(random, r)), tellPlace(plainRegime(r, i%2, i%impl.Styles, i%7-3)), own}
				for _, other := range others {
					askRegimeOk(t, "beside", other.Regime, true)
					askMeeting(t, own.Regime, other.Regime)
					if max(own.From, other.From) <= min(own.To, other.To) {
						meetings[i]++
					}
					for n := own.From; n <= own.To; n++ {
						askConverting(t, own, other, n)
					}
					askWindows(t, own, other, random)
					askWindows(t, other, own, random)
					askSayings(t, own, other, random, 60, &counts[i])
					askSayings(t, other, own, random, 60, &counts[i])
				}
			})
		}
	})
	for k := range 5 {
		if !slices.ContainsFunc(counts, func(row [5]int) bool { return row[k] > 0 }) {
			t.Errorf("Before is nowhere %d", k-1)
		}
	}
	if slices.ContainsFunc(meetings, func(k int) bool { return k < 2 }) {
		t.Errorf("some regimes meet few others: %v", meetings)
	}
}

// Promise 14 as it stands, by the program's own answers.
func TestTwoPlacesByTheirOwnAnswers(t *testing.T) {
	for i, r := range writingRegimes() {
		t.Run(strconv.Itoa(i)+" "+r.Name, func(t *testing.T) {
			t.Parallel()
			random := rand.New(rand.NewSource(int64(i)))
			for _, other := range []impl.Regime{besideRegime(random, r), plainRegime(r, (i+1)%2, i%impl.Styles, 0)} {
				from := max(impl.FirstDay, max(r.From, other.From)-20)
				askRuns(t, r, other, from, min(from+400, impl.LastDay))
				for range 40 {
					n := r.From + random.Intn(r.To-r.From+1)
					for _, text := range impl.All(r, n) {
						askThere(t, r, other, text, random.Intn(3))
					}
					x, _ := impl.ReadingOf(r, n)
					askThere(t, r, other, fmt.Sprintf("%d %s %d", x.Day, monthWords[x.Month-1], x.Year), random.Intn(3))
				}
			}
		})
	}
}

// Promise 14 for each pair of a calendar, a style and an Off, with patches and without.
func TestTwoPlacesByEachStyleAndOff(t *testing.T) {
	var places [2][]place
	eachStyle(func(cal, style int) {
		for off := -3; off <= 3; off++ {
			for i, y := range []int{1344, 1499} {
				r := oneSegment(cal, style, off, y, 950)
				if (off+style+cal+i)%2 == 0 {
					r.Patches = manyPatches(impl.DayOf(date(cal, y+1, 3, 24))-off, impl.MaxPatches)
				}
				places[i] = append(places[i], tellPlace(r))
			}
		}
	})
	for k := range places[0] {
		t.Run(strconv.Itoa(k), func(t *testing.T) {
			t.Parallel()
			random := rand.New(rand.NewSource(int64(k)))
			var counts [5]int
			for i := range places[0] {
				a, b := places[(i+k)%2][k], places[(i+k)%2][i]
				askMeeting(t, a.Regime, b.Regime)
				from := min(a.From, b.From) - 20 + random.Intn(20)
				askWindow(t, a, b, from, from+999)
				askConverting(t, a, b, a.From+random.Intn(950))
				askSayings(t, a, b, random, 4, &counts)
			}
		})
	}
}

// The whole line, where two places change at other days: windows around each change and at both ends.
func TestTwoPlacesOnTheWholeLine(t *testing.T) {
	t.Parallel()
	one, two := wholeRegime(), wholeRegime()
	one.Patches = []impl.Patch{{Day: impl.FirstDay, Month: 2, Dom: 31}, {Day: 490904, Month: 6, Dom: 24}, {Day: impl.LastDay, Month: 4, Dom: 31}}
	for i := range two.Segs {
		two.Segs[i].Cal, two.Segs[i].Style, two.Segs[i].Off = 1-two.Segs[i].Cal, (two.Segs[i].Style+3)%impl.Styles, (i+3)%7-3
		if i > 0 {
			two.Segs[i-1].To, two.Segs[i].From = two.Segs[i-1].To+i*20, two.Segs[i].From+i*20
		}
	}
	askRegimeOk(t, "moved", two, true)
	askMeet(t, one, two, impl.FirstDay, impl.LastDay)
	a, b, table := tellRegime(one), tellRegime(two), shiftTable{}
	ask := func(from, to int) {
		t.Helper()
		first, last := windowOf(one, two, from, to)
		shift := func(x toldRegime) func(int) (int, bool) {
			return func(n int) (int, bool) { return table.shift(x.on(n), n) }
		}
		askConcord(t, one, two, from, to, runsOf(first, last, shift(a), shift(b))...)
		askSameDays(t, one, two, from, to, sameOf(first, last, a.on, b.on)...)
	}
	days := append(impl.Changes(one), impl.Changes(two)...)
	for y := 99; y <= 2950; y += 190 {
		days = append(days, julDay(y/100*100+100, 2, 28))
	}
	for _, n := range days {
		ask(n-499, n+500)
		ask(n-999, n)
		ask(n-1, n)
		ask(n, n)
	}
	for _, by := range []int{0, 1, 2, 998, 999, 1000, 1001} {
		ask(impl.FirstDay, impl.FirstDay+by)
		ask(impl.FirstDay-1, impl.FirstDay+by)
		ask(impl.LastDay-by, impl.LastDay)
		ask(impl.LastDay-by, impl.LastDay+1)
	}
	ask(impl.FirstDay, impl.LastDay)
	ask(impl.LastDay, impl.FirstDay)
}

// veniceRegime has the days of parisRegime, in years from 1 March on.
func veniceRegime() impl.Regime {
	r := parisRegime()
	r.Name, r.Segs[0].Style = "venice", impl.YMarch
	return r
}

func TestKnownConversions(t *testing.T) {
	paris, venice := parisRegime(), veniceRegime()
	askConvert(t, paris, venice, "1 apr 1345", impl.WDay, "1 apr 1345", "1 apr 1346")
	askConvert(t, paris, venice, "1 apr 1345/1346", impl.WDay, "1 apr 1346")
	askConvert(t, paris, venice, "1 apr 1345", impl.WRoman, "kal apr 1345", "kal apr 1346")
	askConvert(t, paris, venice, "1 apr 1345", impl.WFeast, "easter+5 1345", "ash+31 1346")
	askConvert(t, venice, paris, "1 apr 1345", impl.WDay, "1 apr 1345/1345")
	askConvert(t, venice, paris, "1 apr 1346", impl.WRoman, "kal apr 1345/1346")
	askConvert(t, venice, paris, "1 mar 1345", impl.WDay, "1 mar 1344")
	askConvert(t, paris, venice, "20 mar 1345", impl.WRoman, "XIII kal apr 1346")
	askConvert(t, venice, paris, "1 jan 1345", impl.WDay, "1 jan 1345")
	// Days without a writing by that kind are left out, one of two as well as all.
	askConvert(t, paris, venice, "1 jan 1345", impl.WFeast)
	askConvert(t, paris, venice, "31 aug 1345", impl.WFeast, "corpus+97 1345")
	askConvert(t, paris, venice, "31 feb 1345", impl.WDay)
	patched := parisRegime()
	patched.Patches = []impl.Patch{{Day: julDay(1345, 4, 1), Month: 5, Dom: 5}}
	askConvert(t, paris, patched, "1 apr 1345", impl.WRoman, "kal apr 1345")
	askConvert(t, paris, patched, "1 apr 1345", impl.WDay, "1 apr 1345") // 5 May 1345 is two days, and is not told
	askConvert(t, patched, paris, "5 may 1345", impl.WRoman, "kal apr 1345/1345", "III non may 1345")
	// A saying by whatever kind becomes one by another.
	askConvert(t, paris, venice, "easter 1345", impl.WDay, "27 mar 1345")
	askConvert(t, venice, paris, "prid kal apr 1345", impl.WFeast, "easter+4 1345")
	rome := romeRegime()
	old, now := plainRegime(rome, impl.CJul, impl.YJan, 0), plainRegime(rome, impl.CGre, impl.YJan, 0)
	askConvert(t, rome, now, "4 oct 1582", impl.WDay, "14 oct 1582")
	askConvert(t, now, rome, "14 oct 1582", impl.WDay, "4 oct 1582")
	askConvert(t, rome, old, "15 oct 1582", impl.WDay, "5 oct 1582")
	askConvert(t, old, rome, "5 oct 1582", impl.WDay, "15 oct 1582")
	askConvert(t, old, rome, "5 oct 1582", impl.WRoman, "id oct 1582")
	askConvert(t, old, rome, "easter 1583", impl.WDay, "10 apr 1583")
	askConvert(t, now, rome, "10 oct 1582", impl.WDay, "30 sep 1582")
	askConvert(t, rome, now, "10 oct 1582", impl.WDay) // a date that is lost means no day
	askConvert(t, swedenRegime(), plainRegime(swedenRegime(), impl.CGre, impl.YJan, 0), "30 feb 1712", impl.WDay, "11 mar 1712")
	askConvert(t, plainRegime(swedenRegime(), impl.CGre, impl.YJan, 0), swedenRegime(), "11 mar 1712", impl.WDay, "30 feb 1712")
	askConvert(t, plainRegime(swedenRegime(), impl.CGre, impl.YJan, 0), swedenRegime(), "11 mar 1712", impl.WRoman)
}

// A date of one calendar alone is told by the other one's own; of days as such it is left out of all runs.
func TestDateThatTheOtherCalendarHasNot(t *testing.T) {
	jul, gre := oneSegment(impl.CJul, impl.YJan, 0, 1699, 200), oneSegment(impl.CGre, impl.YJan, 0, 1699, 200)
	n := julDay(1700, 2, 29)
	askMeet(t, jul, gre, julDay(1699, 11, 1), gre.To)
	askConcord(t, jul, gre, n-3, n+3, impl.Run{From: n - 3, To: n - 1, A: -10}, impl.Run{From: n + 1, To: n + 3, A: -11})
	askConcord(t, gre, jul, n-3, n+3, impl.Run{From: n - 3, To: n - 1, B: -10}, impl.Run{From: n + 1, To: n + 3, B: -11})
	askConcord(t, jul, jul, n-1, n+1, impl.Run{From: n - 1, To: n - 1, A: -10, B: -10}, impl.Run{From: n + 1, To: n + 1, A: -11, B: -11})
	askConcord(t, gre, gre, n-1, n+1, impl.Run{From: n - 1, To: n + 1})
	askConcord(t, jul, gre, n, n)
	askConcord(t, gre, jul, n, n)
	askConvert(t, jul, gre, "29 feb 1700", impl.WDay, "11 mar 1700")
	askConvert(t, jul, gre, "prid kal mar 1700", impl.WRoman, "V id mar 1700")
	askConvert(t, jul, gre, "bis VI kal mar 1700", impl.WDay, "6 mar 1700")
	askConvert(t, gre, jul, "11 mar 1700", impl.WDay, "29 feb 1700")
	askConvert(t, gre, jul, "28 feb 1700", impl.WDay, "18 feb 1700")
	askConvert(t, gre, jul, "1 mar 1700", impl.WDay, "19 feb 1700")
	askConvert(t, gre, jul, "29 feb 1700", impl.WDay)
	askConvert(t, gre, jul, "bis VI kal mar 1700", impl.WDay)
	askLetters(t, jul, gre, "28 feb 1700", 1, "11 mar 1700")
	askLetters(t, jul, jul, "28 feb 1700", 1, "29 feb 1700")
	askLetters(t, gre, jul, "10 mar 1700", 1, "29 feb 1700")
	askBefore(t, jul, "29 feb 1700", gre, "10 mar 1700", 1)
	askBefore(t, jul, "29 feb 1700", gre, "11 mar 1700", 0)
	askBefore(t, jul, "29 feb 1700", gre, "12 mar 1700", -1)
	askBefore(t, jul, "29 feb 1700", gre, "29 feb 1700", 3)
	askSameDays(t, jul, gre, n-100, n+100)
	askSameDays(t, jul, jul, n-1, n+1, n-1, n, n+1)
	// Where a segment has that date by its Off, or a patch names a day so, it has no Shift either.
	for off := -3; off <= 3; off++ {
		moved := oneSegment(impl.CJul, impl.YLady, off, 1699, 200)
		k := n - off
		askConcord(t, moved, gre, k-2, k+2, impl.Run{From: k - 2, To: k - 1, A: off - 10}, impl.Run{From: k + 1, To: k + 2, A: off - 11})
	}
	named := oneSegment(impl.CGre, impl.YJan, 0, 1699, 200)
	named.Patches = []impl.Patch{{Day: n + 20, Month: 2, Dom: 29}}
	askConcord(t, gre, named, n+18, n+22, impl.Run{From: n + 18, To: n + 19}, impl.Run{From: n + 21, To: n + 22})
	askConvert(t, named, jul, "29 feb 1700", impl.WDay, "20 mar 1700")
}

// daysRegime names the days of from .. to as they are named by CJul, from 1 January on.
func daysRegime(from, to int) impl.Regime {
	return impl.Regime{Name: "days", From: from, To: to, Segs: []impl.Segment{span(from, to)}}
}

// julText is what each daysRegime writes of a day that it has.
func julText(n int) string {
	d, _ := impl.DateOf(impl.CJul, n)
	return fmt.Sprintf("%d %s %d", d.Day, monthWords[d.Month-1], d.Year)
}

// julTexts leaves out the days that a daysRegime has not.
func julTexts(r impl.Regime, days ...int) []string {
	var texts []string
	for _, n := range days {
		if n >= r.From && n <= r.To {
			texts = append(texts, julText(n))
		}
	}
	return texts
}

// A day that one place has alone, at both ends: it has no run, is not converted, and no letter comes on it.
func TestDaysOfOnePlaceAlone(t *testing.T) {
	n, k := julDay(1345, 6, 1), julDay(1345, 8, 1)
	a := daysRegime(n, k)
	for _, b := range []impl.Regime{daysRegime(n+1, k+1), daysRegime(n+1, k-1), daysRegime(n-1, k-1), daysRegime(n-1, k+1), daysRegime(n+10, k+30), daysRegime(n, k)} {
		first, last := max(n, b.From), min(k, b.To)
		askMeet(t, a, b, first, last)
		askMeet(t, b, a, first, last)
		askConcord(t, a, b, n-50, k+50, impl.Run{From: first, To: last, A: -8, B: -8})
		askConcord(t, b, a, n-50, k+50, impl.Run{From: first, To: last, A: -8, B: -8})
		askConcord(t, a, b, first-1, first, impl.Run{From: first, To: first, A: -8, B: -8})
		askConcord(t, a, b, last, last+1, impl.Run{From: last, To: last, A: -8, B: -8})
		askConcord(t, a, b, first-9, first-1)
		askConcord(t, a, b, last+1, last+9)
		askSameDays(t, a, b, n-50, k+50, daysFromTo(first, last)...)
		askSameDays(t, a, b, first-9, first, first)
		askSameDays(t, a, b, last, last+9, last)
		askSameDays(t, a, b, first-9, first-1)
		askSameDays(t, a, b, last+1, last+9)
		for _, day := range []int{n, n + 1, first, last, last - 1, k - 1, k} {
			askConvert(t, a, b, julText(day), impl.WDay, julTexts(b, day)...)
			for _, by := range []int{0, 1, 2, 29, 30, 31, 60, 61, 62, 399, 400} {
				askLetters(t, a, b, julText(day), by, julTexts(b, day+by)...)
			}
			// What only the other place has means no day here.
			askConvert(t, a, b, julText(n-1), impl.WDay)
			askLetters(t, a, b, julText(n-1), 1)
			askConvert(t, a, b, julText(k+1), impl.WDay)
			askLetters(t, a, b, julText(k+1), 0)
		}
	}
}

func TestPlacesThatShareOneDayOrNone(t *testing.T) {
	n := julDay(1345, 6, 1)
	a := daysRegime(n-30, n)
	for _, b := range []impl.Regime{daysRegime(n, n+30), daysRegime(n, n)} {
		askMeet(t, a, b, n, n)
		askMeet(t, b, a, n, n)
		askConcord(t, a, b, n-400, n+400, impl.Run{From: n, To: n, A: -8, B: -8})
		askConcord(t, a, b, n, n, impl.Run{From: n, To: n, A: -8, B: -8})
		askConcord(t, a, b, n-1, n-1)
		askConcord(t, a, b, n+1, n+1)
		askSameDays(t, b, a, n-400, n+400, n)
		askConvert(t, a, b, julText(n), impl.WDay, julText(n))
		askConvert(t, a, b, julText(n-1), impl.WDay)
		askLetters(t, a, b, julText(n-1), 1, julText(n))
		askBefore(t, a, julText(n), b, julText(n), 0)
		askBefore(t, a, julText(n-1), b, julText(n), -1)
	}
	// The next day and a day far off; and each with itself.
	for _, b := range []impl.Regime{daysRegime(n+1, n+30), daysRegime(n+2, n+30), daysRegime(n-90, n-31), romeRegime(), daysRegime(impl.FirstDay, impl.FirstDay), daysRegime(impl.LastDay, impl.LastDay)} {
		askMeet(t, a, b, 0, 0)
		askMeet(t, b, a, 0, 0)
		askMeet(t, b, b, b.From, b.To)
		askConcord(t, a, b, n-400, n+400)
		askConcord(t, b, a, n, n)
		askSameDays(t, a, b, n-400, n+400)
		askSameDays(t, b, a, n, n+1)
		askConvert(t, a, b, julText(n), impl.WDay)
		askLetters(t, a, b, julText(n), 0)
	}
	askLetters(t, a, daysRegime(n+1, n+30), julText(n), 1, julText(n+1))
	askLetters(t, a, daysRegime(n+400, n+430), julText(n), 400, julText(n+400))
	askLetters(t, a, daysRegime(n+401, n+430), julText(n), 400)
	askBefore(t, a, julText(n), daysRegime(n+1, n+30), julText(n+1), -1)
	askBefore(t, a, julText(n), daysRegime(n-90, n-31), julText(n-31), 1)
}

// A hole, a change of calendar and an Off in one place, each within what is one run of the other.
func TestRunsByEachChange(t *testing.T) {
	n := julDay(1345, 6, 1)
	a := plainRegime(daysRegime(n, n+99), impl.CGre, impl.YJan, 0)
	b := impl.Regime{Name: "parts", From: n - 10, To: n + 109, Segs: []impl.Segment{
		{From: n - 10, To: n + 9, Cal: impl.CGre}, {From: n + 10, To: n + 19, Cal: impl.CGre, Style: impl.YLady}, {From: n + 20, To: n + 29, Cal: impl.CGre, Off: 1},
		{From: n + 30, To: n + 39}, {From: n + 40, To: n + 40, Off: -3}, {From: n + 41, To: n + 59}, {From: n + 60, To: n + 109, Cal: impl.CGre, Off: -2},
	}}
	// The last one names a day as it is named without it.
	b.Patches = []impl.Patch{{Day: n + 4, Month: 2, Dom: 30}, {Day: n + 35, Month: 6, Dom: 7}, {Day: n + 50, Month: 4, Dom: 31}, {Day: n + 51, Month: 4, Dom: 31}, {Day: n + 62, Month: 8, Dom: 8}}
	askRegimeOk(t, "parts", b, true)
	x, _ := impl.ReadingOf(b, n+62)
	if d, _ := impl.DateOf(impl.CGre, n+60); x.Month != d.Month || x.Day != d.Day {
		t.Errorf("day %d is %v, a patch or not", n+62, x)
	}
	run := func(first, last, shift int) impl.Run { return impl.Run{From: n + first, To: n + last, B: shift} }
	patched, _ := impl.Shift(b, n+35)
	want := []impl.Run{
		run(0, 3, 0), run(5, 19, 0), run(20, 29, 1), run(30, 34, -8), run(35, 35, patched), run(36, 39, -8),
		run(40, 40, -11), run(41, 49, -8), run(52, 59, -8), run(60, 99, -2),
	}
	askConcord(t, a, b, n, n+99, want...)
	askConcord(t, a, b, n-50, n+200, want...)
	askConcord(t, a, b, n+2, n+6, run(2, 3, 0), run(5, 6, 0))
	askConcord(t, a, b, n+18, n+21, run(18, 19, 0), run(20, 21, 1))
	askConcord(t, a, b, n+10, n+15, run(10, 15, 0))
	askConcord(t, a, b, n+50, n+51)
	askConcord(t, a, b, n+99, n+120, run(99, 99, -2))
	for i := range want {
		want[i].A, want[i].B = want[i].B, want[i].A
	}
	askConcord(t, b, a, n, n+99, want...)
	// Both places change on one day, once as much in one as in the other; what is alike on both sides of a hole is two runs.
	both := copyRegime(b)
	both.Patches = nil
	askConcord(t, b, both, n+48, n+60, impl.Run{From: n + 48, To: n + 49, A: -8, B: -8}, impl.Run{From: n + 52, To: n + 59, A: -8, B: -8}, impl.Run{From: n + 60, To: n + 60, A: -2, B: -2})
	askConcord(t, both, both, n+29, n+30, impl.Run{From: n + 29, To: n + 29, A: 1, B: 1}, impl.Run{From: n + 30, To: n + 30, A: -8, B: -8})
	// One changes where the other one does not, by turns, so that no run is longer than a day.
	short := evenRegime(n, 2, 10)
	for i := range short.Segs {
		short.Segs[i].Cal, short.Segs[i].Off = impl.CGre, i%2
	}
	other := copyRegime(short)
	other.From, other.To = n+1, n+20
	for i := range other.Segs {
		other.Segs[i].From, other.Segs[i].To = other.Segs[i].From+1, other.Segs[i].To+1
	}
	runs := impl.Concord(short, other, n, n+30)
	for i, run := range runs {
		if run != (impl.Run{From: n + 1 + i, To: n + 1 + i, A: (i + 1) / 2 % 2, B: i / 2 % 2}) {
			t.Errorf("run %d is %v", i, run)
		}
	}
	if len(runs) != 19 {
		t.Errorf("runs are %v", runs)
	}
}

// Runs end at the last day of a segment, of a regime, and of what is asked for.
func TestRunsOfKnownPlaces(t *testing.T) {
	rome := romeRegime()
	n := greDay(1582, 10, 15)
	old, now := plainRegime(rome, impl.CJul, impl.YJan, 0), plainRegime(rome, impl.CGre, impl.YJan, 0)
	askConcord(t, rome, now, rome.From, rome.To, impl.Run{From: rome.From, To: n - 1, A: -10}, impl.Run{From: n, To: rome.To})
	askConcord(t, now, rome, rome.From, rome.To, impl.Run{From: rome.From, To: n - 1, B: -10}, impl.Run{From: n, To: rome.To})
	askConcord(t, rome, old, rome.From-100, rome.To+100, impl.Run{From: rome.From, To: n - 1, A: -10, B: -10}, impl.Run{From: n, To: rome.To, B: -10})
	askConcord(t, old, now, rome.From, rome.To, impl.Run{From: rome.From, To: rome.To, A: -10})
	askConcord(t, rome, now, n-1, n-1, impl.Run{From: n - 1, To: n - 1, A: -10})
	askConcord(t, rome, now, n, n, impl.Run{From: n, To: n})
	askSameDays(t, rome, now, n-5, n+5, daysFromTo(n, n+5)...)
	askSameDays(t, rome, old, n-5, n+5, daysFromTo(n-5, n-1)...)
	askSameDays(t, old, now, rome.From, rome.To)
	sweden, k := swedenRegime(), julDay(1712, 2, 29)
	gre := plainRegime(sweden, impl.CGre, impl.YJan, 0)
	askConcord(t, sweden, gre, k-3, k+3, impl.Run{From: k - 3, To: k - 1, A: -10}, impl.Run{From: k + 1, To: k + 3, A: -11})
	askConcord(t, sweden, sweden, sweden.From, sweden.To, impl.Run{From: sweden.From, To: k - 1, A: -10, B: -10}, impl.Run{From: k + 1, To: sweden.To, A: -11, B: -11})
	askSameDays(t, sweden, plainRegime(sweden, impl.CJul, impl.YJan, 1), k-2, k+2, k-2, k-1)
	askSameDays(t, sweden, plainRegime(sweden, impl.CJul, impl.YJan, 0), k-2, k+2, k+1, k+2)
}

// One Month, Day and Year are asked for, whatever the calendar and the solar year.
func TestSameByWhatItNames(t *testing.T) {
	paris, venice := parisRegime(), veniceRegime()
	n := julDay(1345, 3, 27)
	// From 1 March to Easter the years are two.
	askSameDays(t, paris, venice, julDay(1345, 2, 20), julDay(1345, 4, 10), append(daysFromTo(julDay(1345, 2, 20), julDay(1345, 2, 28)), daysFromTo(n, julDay(1345, 4, 10))...)...)
	a := impl.Regime{Name: "a", From: n, To: n + 50, Segs: []impl.Segment{span(n, n+50)}}
	b := copyRegime(a)
	b.Patches = []impl.Patch{{Day: n + 3, Month: 3, Dom: 30}, {Day: n + 4, Month: 3, Dom: 30}, {Day: n + 5, Month: 5, Dom: 1}, {Day: n + 6, Month: 2, Dom: 30}}
	askSameDays(t, a, b, n, n+10, n, n+1, n+2, n+3, n+7, n+8, n+9, n+10)
	askSameDays(t, b, b, n, n+10, daysFromTo(n, n+10)...)
	a.Patches = []impl.Patch{{Day: n + 6, Month: 2, Dom: 30}, {Day: n + 7, Month: 2, Dom: 30}}
	askSameDays(t, a, b, n, n+10, n, n+1, n+2, n+3, n+6, n+8, n+9, n+10)
	// Two calendars, by one day of which each has a date alike, and by an Off alike again.
	jul, gre := oneSegment(impl.CJul, impl.YJan, 0, 250, 400), oneSegment(impl.CGre, impl.YJan, 0, 250, 400)
	askMeet(t, jul, gre, max(jul.From, gre.From), min(jul.To, gre.To))
	askSameDays(t, jul, gre, jul.From, jul.From+300, daysFromTo(max(jul.From, gre.From), jul.From+300)...)
	early := plainRegime(daysRegime(julDay(1345, 6, 1), julDay(1345, 6, 30)), impl.CJul, impl.YJan, 1)
	late := plainRegime(early, impl.CJul, impl.YJan, -1)
	late.Segs[0].Off = 1
	askSameDays(t, early, late, early.From, early.To, daysFromTo(early.From, early.To)...)
	// One Year of two solar years: by YPisa 30 March 1344, by a patch of 30 March 1345.
	pisa := oneSegment(impl.CJul, impl.YPisa, 0, 1343, 900)
	jan := oneSegment(impl.CJul, impl.YJan, 0, 1343, 900)
	k := julDay(1344, 12, 25)
	askSameDays(t, pisa, jan, k, k+6)
	askSameDays(t, pisa, jan, julDay(1345, 1, 1), julDay(1345, 1, 9), daysFromTo(julDay(1345, 1, 1), julDay(1345, 1, 9))...)
	yule := oneSegment(impl.CJul, impl.YYule, 0, 1343, 900)
	askSameDays(t, pisa, yule, k-3, k+3, daysFromTo(k, k+3)...)
	next := plainRegime(daysRegime(k, k+20), impl.CJul, impl.YJan, 0)
	next.Patches = []impl.Patch{{Day: julDay(1345, 1, 2), Month: 12, Dom: 27}}
	other := plainRegime(next, impl.CJul, impl.YPisa, 0)
	other.Segs[0].Off = -3
	other.Patches = []impl.Patch{{Day: julDay(1345, 1, 2), Month: 12, Dom: 27}}
	x, _ := impl.ReadingOf(next, julDay(1345, 1, 2))
	y, _ := impl.ReadingOf(other, julDay(1345, 1, 2))
	if x.Solar == y.Solar || x.Year != y.Year {
		t.Errorf("%v and %v are not of two solar years and one Year", x, y)
	}
	askSameDays(t, next, other, julDay(1345, 1, 1), julDay(1345, 1, 3), julDay(1345, 1, 2))
}

// At most 1000 days may be asked for, be they of the regimes or not.
func TestWindowsOfTwoPlaces(t *testing.T) {
	a, b := parisRegime(), veniceRegime()
	// The shift is the same on all days, and the years are alike behind Easter, up to the end of February.
	run := func(first, last int) impl.Run { return impl.Run{From: first, To: last, A: -8, B: -8} }
	alike := slices.DeleteFunc(daysFromTo(a.From, a.To), func(n int) bool {
		x, _ := impl.ReadingOf(a, n)
		y, _ := impl.ReadingOf(b, n)
		return x.Year != y.Year
	})
	for _, from := range []int{a.From, a.From + 1, a.From - 1, a.From - 500, a.From - 998, a.From - 999, a.From + 200, a.To - 999, a.To - 998, a.To - 500, a.To - 1, a.To} {
		for _, length := range []int{1, 2, 3, 500, 998, 999, 1000} {
			to := from + length - 1
			first, last := max(from, a.From), min(to, a.To)
			if first > last {
				askConcord(t, a, b, from, to)
				askSameDays(t, a, b, from, to)
				continue
			}
			askConcord(t, a, b, from, to, run(first, last))
			askSameDays(t, a, b, from, to, slices.DeleteFunc(slices.Clone(alike), func(n int) bool { return n < first || n > last })...)
		}
		for _, length := range []int{0, -1, -999, -1000, -1001, 1001, 1002, 1461, 2000, 2001, 100000} {
			askConcord(t, a, b, from, from+length-1)
			askSameDays(t, a, b, from, from+length-1)
		}
	}
	askConcord(t, a, b, a.From-1000, a.From-1)
	askConcord(t, a, b, a.To+1, a.To+1000)
	askSameDays(t, a, b, a.From-1000, a.From-1)
	askSameDays(t, a, b, a.To+1, a.To+1000)
}

// FirstDay and LastDay are days like others; those beyond are none, whatever is asked besides.
func TestTwoPlacesAtTheEndsOfTheLine(t *testing.T) {
	whole := plainRegime(daysRegime(impl.FirstDay, impl.LastDay), impl.CGre, impl.YJan, 0)
	ahead := plainRegime(whole, impl.CGre, impl.YJan, 3)
	first, last := impl.FirstDay, impl.LastDay
	run := func(from, to int) impl.Run { return impl.Run{From: from, To: to, B: 3} }
	askMeet(t, whole, ahead, first, last)
	askMeet(t, whole, daysRegime(first, first), first, first)
	askMeet(t, daysRegime(last, last), whole, last, last)
	askMeet(t, daysRegime(first, first), daysRegime(last, last), 0, 0)
	for _, by := range []int{0, 1, 998, 999} {
		askConcord(t, whole, ahead, first, first+by, run(first, first+by))
		askConcord(t, whole, ahead, last-by, last, run(last-by, last))
		askSameDays(t, whole, whole, first, first+by, daysFromTo(first, first+by)...)
		askSameDays(t, whole, whole, last-by, last, daysFromTo(last-by, last)...)
		askConcord(t, whole, ahead, first-1, first+by)
		askConcord(t, whole, ahead, last-by, last+1)
		askSameDays(t, whole, whole, first-1, first+by)
		askSameDays(t, whole, whole, last-by, last+1)
	}
	askConcord(t, whole, ahead, first, first+1000)
	askConcord(t, whole, ahead, last-1000, last)
	askSameDays(t, whole, whole, first, first+1000)
	askSameDays(t, whole, whole, last-1000, last)
	begin, end := impl.Write(whole, first, impl.WDay), impl.Write(whole, last, impl.WDay)
	if begin != "4 feb 2" || end != "26 apr 2985" {
		t.Errorf("the line begins on %q and ends on %q", begin, end)
	}
	askConvert(t, whole, ahead, begin, impl.WDay, "7 feb 2")
	askConvert(t, whole, ahead, end, impl.WDay, "29 apr 2985")
	askConvert(t, whole, daysRegime(first, first), begin, impl.WDay, julText(first))
	askConvert(t, whole, daysRegime(last, last), end, impl.WRoman, impl.Write(daysRegime(last, last), last, impl.WRoman))
	askLetters(t, whole, ahead, begin, 0, "7 feb 2")
	askLetters(t, whole, ahead, begin, 400, impl.Write(ahead, first+400, impl.WDay))
	askLetters(t, whole, ahead, end, 0, "29 apr 2985")
	askLetters(t, whole, ahead, end, 1)
	askLetters(t, whole, ahead, end, 400)
	askLetters(t, whole, ahead, "22 mar 2984", 399, "28 apr 2985")
	askLetters(t, whole, ahead, "22 mar 2984", 400, "29 apr 2985")
	askLetters(t, whole, ahead, "23 mar 2984", 400)
	askBefore(t, whole, begin, whole, end, -1)
	askBefore(t, whole, end, ahead, "29 apr 2985", 0)
	askBefore(t, whole, begin, ahead, "7 feb 2", 0)
}

func TestKnownLettersUnderWay(t *testing.T) {
	rome := romeRegime()
	old, now := plainRegime(rome, impl.CJul, impl.YJan, 0), plainRegime(rome, impl.CGre, impl.YJan, 0)
	askLetters(t, rome, now, "4 oct 1582", 0, "14 oct 1582")
	askLetters(t, rome, now, "4 oct 1582", 1, "15 oct 1582")
	askLetters(t, rome, rome, "4 oct 1582", 1, "15 oct 1582")
	askLetters(t, rome, old, "15 oct 1582", 1, "6 oct 1582")
	askLetters(t, old, rome, "4 oct 1582", 11, "25 oct 1582")
	askLetters(t, old, rome, "id oct 1582", 3, "28 oct 1582") // written by the day, whatever it is dated by
	askLetters(t, rome, now, "10 oct 1582", 5)                // a date that is lost
	askLetters(t, rome, now, "1 jan 1582", 400, "15 feb 1583")
	askLetters(t, rome, now, "1 dec 1583", 30, "31 dec 1583")
	askLetters(t, rome, now, "1 dec 1583", 31)
	paris, venice := parisRegime(), veniceRegime()
	askLetters(t, paris, venice, "1 apr 1345", 0, "1 apr 1345", "1 apr 1346")
	askLetters(t, paris, venice, "1 apr 1345", 30, "1 may 1345", "1 may 1346")
	askLetters(t, paris, paris, "1 apr 1345", 14, "15 apr 1345/1345", "15 apr 1345/1346")
	askLetters(t, paris, paris, "1 apr 1345", 15, "16 apr 1345", "16 apr 1346")
	askLetters(t, paris, paris, "1 apr 1345", 365, "1 apr 1345/1346", "1 apr 1347") // Easter of 1347
	askLetters(t, paris, paris, "1 apr 1345/1346", 400, "6 may 1347")
	// Of two days one alone comes where the place has days; one without a writing is left out.
	askLetters(t, paris, daysRegime(julDay(1346, 4, 1), julDay(1346, 4, 30)), "1 apr 1345", 9, "10 apr 1346")
	askLetters(t, paris, daysRegime(julDay(1345, 4, 1), julDay(1345, 4, 30)), "1 apr 1345", 9, "10 apr 1345")
	patched := parisRegime()
	patched.Patches = []impl.Patch{{Day: julDay(1345, 4, 10), Month: 5, Dom: 5}}
	askLetters(t, paris, patched, "1 apr 1345", 9, "10 apr 1345")
	askLetters(t, paris, patched, "1 apr 1345", 34, "5 may 1346")
	// 0 .. 400 days, and no other number.
	for days := -3; days <= 403; days++ {
		n := julDay(1345, 5, 1) + days
		if days < 0 || days > 400 {
			askLetters(t, paris, venice, "1 may 1345", days)
			continue
		}
		askLetters(t, paris, venice, "1 may 1345", days, impl.Write(venice, n, impl.WDay))
	}
	for _, days := range append([]int{-400, -1345, 401, 402, 800, 1000, 1<<32 + 1, 1<<32 + 400}, farNumbers...) {
		for _, text := range []string{"1 may 1345", "1 apr 1345", "31 feb 1345", "x", ""} {
			askLetters(t, paris, venice, text, days)
			askLetters(t, rome, now, text, days)
		}
		askLetters(t, rome, now, "4 oct 1582", days)
	}
}

func TestKnownOrders(t *testing.T) {
	paris, venice := parisRegime(), veniceRegime()
	// In Paris 1 April 1345 is two days, in Venice it is the first one of them.
	askBefore(t, paris, "1 apr 1345", paris, "1 apr 1345", 2)
	askBefore(t, paris, "1 apr 1345", paris, "1 apr 1345/1345", 2)
	askBefore(t, paris, "1 apr 1345", paris, "1 apr 1345/1346", 2)
	askBefore(t, paris, "1 apr 1345/1345", paris, "1 apr 1345/1346", -1)
	askBefore(t, paris, "1 apr 1345/1345", paris, "1 apr 1345/1345", 0)
	askBefore(t, paris, "1 apr 1345", paris, "2 apr 1345", 2)
	askBefore(t, paris, "1 apr 1345", venice, "31 mar 1345", 1)
	askBefore(t, paris, "1 apr 1345", venice, "1 apr 1345", 2)
	askBefore(t, paris, "1 apr 1345", venice, "2 apr 1345", 2)
	askBefore(t, paris, "1 apr 1345", venice, "1 may 1345", 2)
	askBefore(t, paris, "1 apr 1345", venice, "31 mar 1346", 2)
	askBefore(t, paris, "1 apr 1345", venice, "1 apr 1346", 2)
	askBefore(t, paris, "1 apr 1345", venice, "2 apr 1346", -1)
	askBefore(t, paris, "1 apr 1345/1346", venice, "1 apr 1346", 0)
	askBefore(t, paris, "easter+5 1345", venice, "kal apr 1345", 0)
	askBefore(t, paris, "1 may 1345", venice, "1 may 1345", 0)
	askBefore(t, paris, "1 may 1345", venice, "2 may 1345", -1)
	askBefore(t, paris, "1 may 1345", venice, "30 apr 1345", 1)
	askBefore(t, paris, "1 mar 1345", venice, "1 mar 1345", 1) // by Paris of the year 1346
	askBefore(t, paris, "1 mar 1345", venice, "1 mar 1346", 0)
	// A saying that means no day, a text that is none, on one side or on both.
	for _, text := range []string{"31 feb 1345", "1 apr 1345 gre", "1 apr 1400", "1 apr 1345/1344", "30 feb 1345", "x", "", "1 apr", "1 apr 1345 ", "1 APR 1345"} {
		askBefore(t, paris, text, venice, "1 may 1345", 3)
		askBefore(t, paris, "1 apr 1345", venice, text, 3)
		askBefore(t, paris, text, venice, text, 3)
		askBefore(t, paris, text, paris, "31 feb 1345", 3)
	}
	// By three days and two, which touch, share one, and lie between.
	n := julDay(1345, 6, 24)
	three := daysRegime(n-60, n+60)
	three.Patches = []impl.Patch{{Day: n + 1, Month: 2, Dom: 30}, {Day: n + 10, Month: 2, Dom: 30}, {Day: n + 20, Month: 2, Dom: 30}}
	for first := -5; first <= 25; first++ {
		for last := first; last <= 25; last++ {
			two := daysRegime(n-60, n+60)
			two.Patches = []impl.Patch{{Day: n + first, Month: 2, Dom: 31}, {Day: n + last, Month: 2, Dom: 31}}
			if first == last {
				two.Patches = two.Patches[:1]
			}
			askBefore(t, three, "30 feb 1345", two, "31 feb 1345", beforeOf([]int{n + 1, n + 10, n + 20}, []int{n + first, n + last}))
		}
	}
	// Places that share no day at all.
	rome := romeRegime()
	askBefore(t, paris, "1 apr 1345", rome, "15 oct 1582", -1)
	askBefore(t, rome, "4 oct 1582", rome, "15 oct 1582", -1)
	askBefore(t, rome, "10 oct 1582", rome, "15 oct 1582", 3)
	askBefore(t, rome, "15 oct 1582", plainRegime(rome, impl.CJul, impl.YJan, 0), "5 oct 1582", 0)
	askBefore(t, rome, "14 oct 1583", plainRegime(rome, impl.CJul, impl.YJan, 0), "5 oct 1583", -1)
}

// A kind that there is not writes nothing.
func TestConvertByOtherKinds(t *testing.T) {
	paris, venice, rome := parisRegime(), veniceRegime(), romeRegime()
	for _, kind := range otherKinds {
		askConvert(t, paris, venice, "1 apr 1345", kind)
		askConvert(t, venice, paris, "1 may 1345", kind)
		askConvert(t, rome, rome, "15 oct 1582", kind)
		askConvert(t, rome, rome, "x", kind)
	}
}

// From and to at both ends of the 64 bits and of the line, in one of both places and in both.
func TestWrongDaysOfTwoPlaces(t *testing.T) {
	whole := wholeRegime()
	rome := romeRegime()
	wrong := append([]int{impl.FirstDay - 1, impl.FirstDay - 2, impl.LastDay + 1, impl.LastDay + 2, 0, 1, -1, 399, -impl.FirstDay}, append(farDays, farNumbers...)...)
	for _, a := range wrong {
		for _, b := range append([]int{impl.FirstDay, impl.FirstDay + 10, rome.From, rome.To, impl.LastDay - 10, impl.LastDay}, wrong...) {
			for _, other := range []impl.Regime{whole, rome} {
				askConcord(t, whole, other, a, b)
				askConcord(t, other, whole, b, a)
				askSameDays(t, whole, other, a, b)
				askSameDays(t, other, whole, b, a)
			}
		}
	}
	askConcord(t, whole, whole, math.MinInt, math.MaxInt)
	askConcord(t, whole, whole, math.MaxInt, math.MinInt)
}

func TestConvertOfTextsThatAreNoSaying(t *testing.T) {
	rome := romeRegime()
	texts := append([]string{"15 oct 1582 ", " 15 oct 1582", "15 oct 1582/", "15 oct 1582 x", "15 oct", "015 oct 1582", "15 oct 1582\n", "15 OCT 1582", "easter+0 1583", "I kal nov 1582"}, noSayingTexts...)
	for _, text := range texts {
		for _, kind := range append([]int{3, -1}, kinds...) {
			askConvert(t, rome, rome, text, kind)
		}
		for _, days := range []int{0, 1, 400, 401, -1} {
			askLetters(t, rome, rome, text, days)
		}
		askBefore(t, rome, text, rome, "15 oct 1582", 3)
		askBefore(t, rome, text, rome, text, 3)
	}
}

// A regime that is not right has no days, as the first one, as the second one, and as both.
func TestTwoPlacesInWrongRegimes(t *testing.T) {
	full := fullRegime()
	other := plainRegime(full, impl.CGre, impl.YJan, 0)
	texts := []string{impl.Write(full, 600050, impl.WDay), impl.Write(full, 600150, impl.WRoman), impl.Write(full, 600399, impl.WDay)}
	otherTexts := []string{impl.Write(other, 600050, impl.WDay), impl.Write(other, 600150, impl.WRoman), impl.Write(other, 600399, impl.WDay)}
	for i := range texts {
		askConvert(t, full, other, texts[i], impl.WDay, impl.Write(other, []int{600050, 600150, 600399}[i], impl.WDay))
		askConvert(t, other, full, otherTexts[i], impl.WDay, impl.Write(full, []int{600050, 600150, 600399}[i], impl.WDay))
		askBefore(t, full, texts[i], other, otherTexts[i], 0)
	}
	if len(impl.Concord(full, other, 600000, 600400)) < 4 || len(impl.Same(full, full, 600000, 600400)) != 401 {
		t.Error("the right regimes have no days alike")
	}
	list := wrongRegimes()
	for i, r := range list {
		askRegimeOk(t, "wrong", r, false)
		for _, pair := range [][2]impl.Regime{{r, other}, {other, r}, {r, full}, {full, r}, {r, r}, {r, list[(i+7)%len(list)]}} {
			a, b := pair[0], pair[1]
			askMeet(t, a, b, 0, 0)
			for _, days := range [][2]int{{600000, 600400}, {600050, 600050}, {600100, 600101}, {600399, 600400}, {r.From, r.To}} {
				askConcord(t, a, b, days[0], days[1])
				askSameDays(t, a, b, days[0], days[1])
			}
			for _, text := range append(append([]string{"", "x", "31 feb 1643"}, texts...), otherTexts...) {
				askConvert(t, a, b, text, impl.WDay)
				askLetters(t, a, b, text, 0)
				askBefore(t, a, text, b, text, 3)
			}
			askConvert(t, a, b, texts[0], impl.WRoman)
			askConvert(t, a, b, texts[0], 3)
			askLetters(t, a, b, otherTexts[0], 100)
			askLetters(t, a, b, otherTexts[0], 401)
		}
	}
}

// Nothing is written into either regime, nor into the spare room behind its lists.
func TestTwoPlacesLeaveTheirArguments(t *testing.T) {
	room, other := fullRegime(), evenRegime(600000, 40, 9)
	other.Patches = manyPatches(600100, 4)
	kept, keptOther := copyRegime(room), copyRegime(other)
	cut := room
	cut.Segs, cut.Patches, cut.Reigns, cut.To = room.Segs[:3], room.Patches[:2], room.Reigns[:2], 600299
	cutOther := other
	cutOther.Segs, cutOther.Patches, cutOther.To = other.Segs[:5], other.Patches[:2], 600199
	for _, pair := range [][2]impl.Regime{{room, other}, {cut, cutOther}, {cutOther, cut}, {room, room}} {
		a, b := tellPlace(pair[0]), tellPlace(pair[1])
		askMeeting(t, pair[0], pair[1])
		askWindow(t, a, b, 599900, 600500)
		for n := a.From; n <= a.To; n++ {
			askConverting(t, a, b, n)
		}
		askSayings(t, a, b, rand.New(rand.NewSource(1)), 200, new([5]int))
		askSame(t, "the first argument", room, kept, true)
		askSame(t, "the second argument", other, keptOther, true)
	}
}

func TestAnswersOfTwoPlacesAreNewMemory(t *testing.T) {
	paris, venice := parisRegime(), veniceRegime()
	n := julDay(1345, 3, 27)
	for range 3 {
		texts, letters := impl.Convert(paris, venice, "1 apr 1345", impl.WDay), impl.Letters(paris, venice, "1 apr 1345", 1)
		runs, days := impl.Concord(paris, venice, n, n+9), impl.Same(paris, venice, n, n+9)
		for _, list := range [][]string{texts, letters} {
			for i := range list[:cap(list)] {
				list[:cap(list)][i] = "x"
			}
		}
		for i := range runs[:cap(runs)] {
			runs[:cap(runs)][i] = impl.Run{From: -1}
		}
		for i := range days[:cap(days)] {
			days[:cap(days)][i] = -1
		}
		askConvert(t, paris, venice, "1 apr 1345", impl.WDay, "1 apr 1345", "1 apr 1346")
		askLetters(t, paris, venice, "1 apr 1345", 1, "2 apr 1345", "2 apr 1346")
		askConcord(t, paris, venice, n, n+9, impl.Run{From: n, To: n + 9, A: -8, B: -8})
		askSameDays(t, paris, venice, n, n+9, daysFromTo(n, n+9)...)
		askSame(t, "the argument", paris, parisRegime(), true)
		askSame(t, "the argument", venice, veniceRegime(), true)
	}
}
