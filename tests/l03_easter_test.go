package tests

import (
	"math"
	"slices"
	"testing"
	"time"

	"loop.example/g00638/impl"
)

// otherYears are none of MinYear .. MaxYear.
var otherYears = []int{0, -1, -2, -19, -1345, 3001, 3002, 3019, 10000, 1 << 32, math.MinInt, math.MinInt + 1, math.MaxInt - 1, math.MaxInt}

// moonMonth is a day of the tables: March, or April where it is told as one.
type moonMonth struct{ month, day int }

// julianMoons are the full moons of the golden numbers 1 .. 19, as old tables have them.
var julianMoons = []moonMonth{{4, 5}, {3, 25}, {4, 13}, {4, 2}, {3, 22}, {4, 10}, {3, 30}, {4, 18}, {4, 7}, {3, 27}, {4, 15}, {4, 4}, {3, 24}, {4, 12}, {4, 1}, {3, 21}, {4, 9}, {3, 29}, {4, 17}}

// gregorianMoons are those of 1900 .. 2199.
var gregorianMoons = []moonMonth{{4, 14}, {4, 3}, {3, 23}, {4, 11}, {3, 31}, {4, 18}, {4, 8}, {3, 28}, {4, 16}, {4, 5}, {3, 25}, {4, 13}, {4, 2}, {3, 22}, {4, 10}, {3, 30}, {4, 17}, {4, 7}, {3, 27}}

// rawEpact walks from the table of 1600 .. 1699, where golden number 1 has 1, by golden numbers and by centuries.
func rawEpact(y int) int {
	e := 1 + 11*(y%19)
	moonLater := []int{200, 500, 800, 1100, 1400, 1800, 2100, 2400, 2700, 3000}
	step := func(century int) int {
		n := 0
		if century%400 != 0 {
			n--
		}
		if slices.Contains(moonLater, century) {
			n++
		}
		return n
	}
	for c := 1700; c <= y; c += 100 {
		e += step(c)
	}
	for c := 1600; c > y; c -= 100 {
		e -= step(c)
	}
	return ((e % 30) + 30) % 30
}

// gaussEaster tells Easter as days behind 21 March, by the rule that is called after Gauss.
func gaussEaster(cal, y int) int {
	a, b, c := y%19, y%4, y%7
	m, n := 15, 6
	if cal == impl.CGre {
		k := y / 100
		p, q := (13+8*k)/25, k/4
		m = (15 - p + k - q + 30) % 30
		n = (4 + k - q) % 7
	}
	d := (19*a + m) % 30
	e := (2*b + 4*c + 6*d + n) % 7
	days := d + e + 1
	if cal == impl.CGre && d == 29 && e == 6 {
		days -= 7
	}
	if cal == impl.CGre && d == 28 && e == 6 && (11*m+11)%30 < 19 {
		days -= 7
	}
	return days
}

func march(cal, y, d int) int {
	return impl.DayOf(date(cal, y, 3, 1)) + d - 1
}

func TestGoldenOfEachYear(t *testing.T) {
	want := 2
	for y := impl.MinYear; y <= impl.MaxYear; y++ {
		if got := impl.Golden(y); got != want {
			t.Fatalf("Golden(%d) = %d, want %d", y, got, want)
		}
		want = want%19 + 1
	}
	for _, c := range [][2]int{{1, 2}, {18, 19}, {19, 1}, {532, 1}, {1066, 3}, {1345, 16}, {1954, 17}, {2014, 1}, {2026, 13}, {3000, 18}} {
		if got := impl.Golden(c[0]); got != c[1] {
			t.Errorf("Golden(%d) = %d, want %d", c[0], got, c[1])
		}
	}
	for _, y := range otherYears {
		if got := impl.Golden(y); got != 0 {
			t.Errorf("Golden(%d) = %d, want 0", y, got)
		}
	}
}

func TestEpactOfEachYear(t *testing.T) {
	for y := impl.MinYear; y <= impl.MaxYear; y++ {
		if got, want := impl.Epact(impl.CJul, y), 11*(y%19)%30; got != want {
			t.Errorf("Epact(CJul, %d) = %d, want %d", y, got, want)
		}
		want := rawEpact(y)
		if want == 24 || want == 25 && impl.Golden(y) > 11 {
			want++
		}
		if got := impl.Epact(impl.CGre, y); got != want {
			t.Errorf("Epact(CGre, %d) = %d, want %d", y, got, want)
		}
	}
}

func TestKnownEpacts(t *testing.T) {
	cases := []struct{ cal, y, want int }{
		{impl.CJul, 1, 11}, {impl.CJul, 19, 0}, {impl.CJul, 1345, 15}, {impl.CJul, 1501, 0}, {impl.CJul, 3000, 7},
		{impl.CGre, 1583, 7}, {impl.CGre, 1600, 15}, {impl.CGre, 1900, 29}, {impl.CGre, 1999, 13}, {impl.CGre, 2024, 19},
		// What would be 24, with a golden number not above 11 and one above it.
		{impl.CGre, 1962, 25}, {impl.CGre, 1981, 25}, {impl.CGre, 2000, 25}, {impl.CGre, 1609, 25},
		// What would be 25, with a golden number above 11.
		{impl.CGre, 1916, 26}, {impl.CGre, 1954, 26}, {impl.CGre, 2049, 26}, {impl.CGre, 1973, 26},
	}
	for _, c := range cases {
		if got := impl.Epact(c.cal, c.y); got != c.want {
			t.Errorf("Epact(%d, %d) = %d, want %d", c.cal, c.y, got, c.want)
		}
	}
}

// The two epacts that are put off, each side of golden number 11: the full moon of neither is behind 18 April.
func TestEpactsThatArePutOff(t *testing.T) {
	kinds := map[string]int{}
	for y := impl.MinYear; y <= impl.MaxYear; y++ {
		raw, high := rawEpact(y), impl.Golden(y) > 11
		want, kind := 0, ""
		switch {
		case raw == 24:
			want, kind = march(impl.CGre, y, 31)+18, "24"
		case raw == 25 && high:
			want, kind = march(impl.CGre, y, 31)+17, "25 above 11"
		case raw == 25:
			want, kind = march(impl.CGre, y, 31)+18, "25 not above 11"
		default:
			continue
		}
		kinds[kind]++
		if got := impl.FullMoon(impl.CGre, y); got != want {
			t.Errorf("FullMoon(CGre, %d), an epact of %s: %d, want %d", y, kind, got, want)
		}
	}
	if len(kinds) != 3 {
		t.Errorf("only %v was met", kinds)
	}
}

func TestFullMoonByOldTables(t *testing.T) {
	for y := impl.MinYear; y <= impl.MaxYear; y++ {
		m := julianMoons[y%19]
		if got, want := impl.FullMoon(impl.CJul, y), impl.DayOf(date(impl.CJul, y, m.month, m.day)); got != want {
			t.Errorf("FullMoon(CJul, %d) = %d, want %d", y, got, want)
		}
	}
	for y := 1900; y < 2200; y++ {
		m := gregorianMoons[y%19]
		if got, want := impl.FullMoon(impl.CGre, y), impl.DayOf(date(impl.CGre, y, m.month, m.day)); got != want {
			t.Errorf("FullMoon(CGre, %d) = %d, want %d", y, got, want)
		}
	}
}

func TestFullMoonIsWhereTheEpactHasIt(t *testing.T) {
	for y := impl.MinYear; y <= impl.MaxYear; y++ {
		for _, cal := range calendars {
			moon := impl.FullMoon(cal, y)
			if moon < march(cal, y, 21) || moon > march(cal, y, 31)+18 {
				t.Errorf("FullMoon(%d, %d) = %d", cal, y, moon)
			}
			// An age of 0 is a full moon on 5 April of CJul, on 13 April of CGre; each day older is a day earlier, by 30 around.
			base := march(cal, y, 31) + 5
			if cal == impl.CGre {
				base += 8
			}
			if (moon-base+impl.Epact(cal, y)+300)%30 != 0 {
				t.Errorf("FullMoon(%d, %d) = %d beside an Epact of %d", cal, y, moon, impl.Epact(cal, y))
			}
		}
	}
}

func TestEasterByFormAndByTables(t *testing.T) {
	for y := impl.MinYear; y <= impl.MaxYear; y++ {
		for _, cal := range calendars {
			easter := impl.Easter(cal, y)
			if got := impl.EasterTable(cal, y); got != easter {
				t.Fatalf("EasterTable(%d, %d) = %d, Easter %d", cal, y, got, easter)
			}
			if w := impl.Weekday(easter); w != 0 {
				t.Errorf("Easter(%d, %d) is weekday %d", cal, y, w)
			}
			if easter < march(cal, y, 22) || easter > impl.DayOf(date(cal, y, 4, 25)) {
				t.Errorf("Easter(%d, %d) = %d, beyond 22 March .. 25 April", cal, y, easter)
			}
			moon := impl.FullMoon(cal, y)
			if easter <= moon || easter > moon+7 {
				t.Errorf("Easter(%d, %d) = %d is not the first Sunday behind %d", cal, y, easter, moon)
			}
			if want := march(cal, y, 21) + gaussEaster(cal, y); easter != want {
				t.Errorf("Easter(%d, %d) = %d, want %d", cal, y, easter, want)
			}
		}
	}
}

func TestEasterIsASundayByTheLibrary(t *testing.T) {
	for y := impl.MinYear; y <= impl.MaxYear; y++ {
		d, ok := impl.DateOf(impl.CGre, impl.Easter(impl.CGre, y))
		if !ok || d.Year != y || time.Date(y, time.Month(d.Month), d.Day, 0, 0, 0, 0, time.UTC).Weekday() != time.Sunday {
			t.Errorf("Easter of %d: %v, %v", y, d, ok)
		}
	}
}

func TestKnownEasters(t *testing.T) {
	cases := []struct{ cal, y, m, d int }{
		{impl.CJul, 1066, 4, 16}, {impl.CJul, 1204, 4, 25}, {impl.CJul, 1300, 4, 10}, {impl.CJul, 1345, 3, 27},
		{impl.CJul, 1346, 4, 16}, {impl.CJul, 1453, 4, 1}, {impl.CJul, 1492, 4, 22}, {impl.CJul, 1582, 4, 15},
		{impl.CJul, 1983, 4, 25}, {impl.CJul, 2010, 3, 22}, {impl.CJul, 2016, 4, 18}, {impl.CJul, 2020, 4, 6},
		{impl.CJul, 2021, 4, 19}, {impl.CJul, 2022, 4, 11}, {impl.CJul, 2023, 4, 3}, {impl.CJul, 2024, 4, 22},
		{impl.CJul, 2025, 4, 7}, {impl.CJul, 2026, 3, 30}, {impl.CJul, 2078, 4, 25},
		{impl.CGre, 1583, 4, 10}, {impl.CGre, 1598, 3, 22}, {impl.CGre, 1609, 4, 19}, {impl.CGre, 1666, 4, 25},
		{impl.CGre, 1693, 3, 22}, {impl.CGre, 1734, 4, 25}, {impl.CGre, 1761, 3, 22}, {impl.CGre, 1818, 3, 22},
		{impl.CGre, 1886, 4, 25}, {impl.CGre, 1913, 3, 23}, {impl.CGre, 1916, 4, 23}, {impl.CGre, 1943, 4, 25},
		{impl.CGre, 1954, 4, 18}, {impl.CGre, 1961, 4, 2}, {impl.CGre, 1974, 4, 14}, {impl.CGre, 1981, 4, 19},
		{impl.CGre, 1999, 4, 4}, {impl.CGre, 2000, 4, 23}, {impl.CGre, 2001, 4, 15}, {impl.CGre, 2008, 3, 23},
		{impl.CGre, 2011, 4, 24}, {impl.CGre, 2016, 3, 27}, {impl.CGre, 2018, 4, 1}, {impl.CGre, 2019, 4, 21},
		{impl.CGre, 2020, 4, 12}, {impl.CGre, 2024, 3, 31}, {impl.CGre, 2025, 4, 20}, {impl.CGre, 2026, 4, 5},
		{impl.CGre, 2038, 4, 25}, {impl.CGre, 2049, 4, 18}, {impl.CGre, 2076, 4, 19}, {impl.CGre, 2285, 3, 22},
	}
	for _, c := range cases {
		want := impl.DayOf(date(c.cal, c.y, c.m, c.d))
		if got := impl.Easter(c.cal, c.y); got != want {
			t.Errorf("Easter(%d, %d) = %d, want %d", c.cal, c.y, got, want)
		}
		if got := impl.EasterTable(c.cal, c.y); got != want {
			t.Errorf("EasterTable(%d, %d) = %d, want %d", c.cal, c.y, got, want)
		}
	}
}

// A full moon on a Sunday puts Easter off by a week; one on the days beside it by a day and by six.
func TestFullMoonOnASundayAndBesideIt(t *testing.T) {
	behind := []int{7, 6, 5, 4, 3, 2, 1}
	for _, cal := range calendars {
		seen := [7]int{}
		for y := impl.MinYear; y <= impl.MaxYear; y++ {
			moon := impl.FullMoon(cal, y)
			w := impl.Weekday(moon)
			seen[w]++
			if got := impl.EasterTable(cal, y) - moon; got != behind[w] {
				t.Errorf("EasterTable(%d, %d): %d days behind a full moon on %s", cal, y, got, impl.WeekdayName(w))
			}
			if got := impl.Easter(cal, y) - moon; got != behind[w] {
				t.Errorf("Easter(%d, %d): %d days behind a full moon on %s", cal, y, got, impl.WeekdayName(w))
			}
		}
		if slices.Contains(seen[:], 0) {
			t.Errorf("calendar %d: full moons by weekday %v", cal, seen)
		}
	}
	// 1954: the moon was full on Saturday 17 April; 1981: on Saturday 18 April; 2001: on Sunday 8 April; 1994: on Sunday 27 March.
	for _, c := range []struct{ y, m, d, days int }{{1954, 4, 17, 1}, {1981, 4, 18, 1}, {2001, 4, 8, 7}, {1994, 3, 27, 7}} {
		moon := impl.DayOf(date(impl.CGre, c.y, c.m, c.d))
		if impl.FullMoon(impl.CGre, c.y) != moon || impl.EasterTable(impl.CGre, c.y) != moon+c.days {
			t.Errorf("%d: full moon %d, Easter %d", c.y, impl.FullMoon(impl.CGre, c.y)-moon, impl.EasterTable(impl.CGre, c.y)-moon)
		}
	}
}

func TestEasterAtTheEndsOfTheYears(t *testing.T) {
	for _, cal := range calendars {
		for _, y := range []int{impl.MinYear, impl.MaxYear} {
			d, ok := impl.DateOf(cal, impl.Easter(cal, y))
			if !ok || d.Year != y || impl.Golden(y) == 0 || impl.FullMoon(cal, y) == 0 || impl.Letter(cal, y) == "" || impl.EasterDays(cal, y) < 1 {
				t.Errorf("%d of calendar %d has Easter on %v, %v", y, cal, d, ok)
			}
		}
	}
	// By hand: the moons of the golden numbers 2 and 18 are on 25 and 29 March of CJul, and that of 18 is on 11 April of CGre in 3000.
	for _, c := range []struct{ cal, y, m, d int }{{impl.CJul, 1, 3, 27}, {impl.CJul, 3000, 3, 30}, {impl.CGre, 3000, 4, 13}} {
		if got, want := impl.Easter(c.cal, c.y), impl.DayOf(date(c.cal, c.y, c.m, c.d)); got != want {
			t.Errorf("Easter(%d, %d) = %d, want %d", c.cal, c.y, got, want)
		}
	}
}

func TestLetterOfEachYear(t *testing.T) {
	seen := map[string]int{}
	for y := impl.MinYear; y <= impl.MaxYear; y++ {
		for _, cal := range calendars {
			first := 1
			for impl.Weekday(impl.DayOf(date(cal, y, 1, first))) != 0 {
				first++
			}
			want := "ABCDEFG"[first-1 : first]
			kind := want
			if leapByBig(cal, y) {
				want = map[string]string{"A": "G", "B": "A", "C": "B", "D": "C", "E": "D", "F": "E", "G": "F"}[want]
				kind = want + " leap"
			}
			seen[kind]++
			if got := impl.Letter(cal, y); got != want {
				t.Errorf("Letter(%d, %d) = %q, want %q", cal, y, got, want)
			}
		}
	}
	if len(seen) != 14 {
		t.Errorf("only %v were met", seen)
	}
}

// From March on every Sunday has the year's letter, whether a leap day was ahead or not: so has Easter.
func TestEasterHasTheLetter(t *testing.T) {
	for y := impl.MinYear; y <= impl.MaxYear; y++ {
		for _, cal := range calendars {
			d, _ := impl.DateOf(cal, impl.Easter(cal, y))
			d.Year = 1999
			at := (impl.DayInYear(d) - 1) % 7
			if got := impl.Letter(cal, y); got != "ABCDEFG"[at:at+1] {
				t.Errorf("Letter(%d, %d) = %q, Easter on %v", cal, y, got, d)
			}
		}
	}
}

func TestKnownLetters(t *testing.T) {
	cases := []struct {
		cal, y int
		want   string
	}{
		{impl.CJul, 1345, "B"}, {impl.CJul, 1066, "A"}, {impl.CJul, 1300, "B"}, {impl.CJul, 1492, "G"}, {impl.CJul, 1582, "G"},
		{impl.CGre, 1999, "C"}, {impl.CGre, 2000, "A"}, {impl.CGre, 2012, "G"}, {impl.CGre, 2017, "A"}, {impl.CGre, 2018, "G"},
		{impl.CGre, 2023, "A"}, {impl.CGre, 2024, "F"}, {impl.CGre, 2026, "D"}, {impl.CGre, 1900, "G"},
	}
	for _, c := range cases {
		if got := impl.Letter(c.cal, c.y); got != c.want {
			t.Errorf("Letter(%d, %d) = %q, want %q", c.cal, c.y, got, c.want)
		}
	}
}

func TestEasterDaysOfEachYear(t *testing.T) {
	for _, cal := range calendars {
		seen := [36]int{}
		for y := impl.MinYear; y <= impl.MaxYear; y++ {
			k := impl.EasterDays(cal, y)
			if k < 1 || k > 35 || impl.DayOf(date(cal, y, 3, 21))+k != impl.Easter(cal, y) {
				t.Fatalf("EasterDays(%d, %d) = %d", cal, y, k)
			}
			seen[k]++
		}
		if slices.Contains(seen[1:], 0) {
			t.Errorf("calendar %d: not each of 1 .. 35 was met: %v", cal, seen)
		}
	}
	cases := []struct{ cal, y, want int }{
		{impl.CGre, 1818, 1}, {impl.CGre, 1943, 35}, {impl.CJul, 2010, 1}, {impl.CJul, 1983, 35}, {impl.CGre, 2024, 10}, {impl.CJul, 1300, 20},
	}
	for _, c := range cases {
		if got := impl.EasterDays(c.cal, c.y); got != c.want {
			t.Errorf("EasterDays(%d, %d) = %d, want %d", c.cal, c.y, got, c.want)
		}
	}
}

func TestMovesCountsTheYears(t *testing.T) {
	spans := [][2]int{{1, 1}, {3000, 3000}, {1300, 1300}, {1, 2}, {1, 1000}, {2, 1001}, {2001, 3000}, {1582, 1983}, {1500, 2031}, {2999, 3000}}
	for _, cal := range calendars {
		for _, s := range spans {
			want := make([]int, 36)
			for y := s[0]; y <= s[1]; y++ {
				want[impl.EasterDays(cal, y)]++
			}
			got := impl.Moves(cal, s[0], s[1])
			if !slices.Equal(got, want) {
				t.Errorf("Moves(%d, %d, %d) = %v, want %v", cal, s[0], s[1], got, want)
			}
			all := 0
			for _, n := range got {
				all += n
			}
			if all != s[1]-s[0]+1 || got[0] != 0 {
				t.Errorf("Moves(%d, %d, %d): %d years, %d with 0", cal, s[0], s[1], all, got[0])
			}
		}
	}
	// In 532 years of CJul each combination comes once: 22 March and 25 April have 4 years each, as is known.
	m := impl.Moves(impl.CJul, 1000, 1531)
	if len(m) != 36 || m[1] != 4 || m[35] != 4 || !slices.Equal(m, impl.Moves(impl.CJul, 533, 1064)) {
		t.Errorf("Moves of 532 years: %v", m)
	}
}

func TestMovesIsJoined(t *testing.T) {
	for _, cal := range calendars {
		whole := impl.Moves(cal, 1301, 1700)
		first, second := impl.Moves(cal, 1301, 1477), impl.Moves(cal, 1478, 1700)
		for k := range whole {
			if whole[k] != first[k]+second[k] {
				t.Errorf("calendar %d: %d years have %d, not %d and %d", cal, whole[k], k, first[k], second[k])
			}
		}
	}
}

func TestMovesOfNoYears(t *testing.T) {
	spans := [][2]int{
		{5, 4}, {2, 1}, {3000, 1}, {1, 1001}, {2000, 3000}, {1, 3000}, {0, 0}, {0, 5}, {-1, 5}, {3000, 3001}, {2999, 3001}, {3001, 3001}, {3001, 3000},
		{5, math.MaxInt}, {math.MinInt, 5}, {math.MinInt, math.MaxInt}, {math.MaxInt, math.MinInt}, {math.MaxInt, math.MaxInt}, {math.MinInt, math.MinInt}, {5, math.MinInt}, {math.MaxInt, 5},
	}
	for _, cal := range calendars {
		for _, s := range spans {
			if got := impl.Moves(cal, s[0], s[1]); len(got) != 0 {
				t.Errorf("Moves(%d, %d, %d) = %v", cal, s[0], s[1], got)
			}
		}
	}
	for _, cal := range otherCalendars {
		for _, s := range append(spans, [2]int{1, 1}, [2]int{1300, 1400}, [2]int{1, 1000}) {
			if got := impl.Moves(cal, s[0], s[1]); len(got) != 0 {
				t.Errorf("Moves(%d, %d, %d) = %v", cal, s[0], s[1], got)
			}
		}
	}
}

func TestMovesIsNewMemory(t *testing.T) {
	first := impl.Moves(impl.CGre, 1900, 2000)
	want := slices.Clone(first)
	for i := range first {
		first[i] = -1
	}
	if got := impl.Moves(impl.CGre, 1900, 2000); !slices.Equal(got, want) {
		t.Errorf("Moves hangs on what was written into an earlier answer: %v", got)
	}
}

func TestEasterOfNoYearOrCalendar(t *testing.T) {
	ask := func(cal, y int) {
		if e, f, a, b, k := impl.Epact(cal, y), impl.FullMoon(cal, y), impl.EasterTable(cal, y), impl.Easter(cal, y), impl.EasterDays(cal, y); e != 0 || f != 0 || a != 0 || b != 0 || k != 0 {
			t.Errorf("calendar %d, year %d: epact %d, full moon %d, Easter %d and %d, days %d", cal, y, e, f, a, b, k)
		}
		if s := impl.Letter(cal, y); s != "" {
			t.Errorf("Letter(%d, %d) = %q", cal, y, s)
		}
	}
	for _, y := range otherYears {
		for _, cal := range calendars {
			ask(cal, y)
		}
		for _, cal := range otherCalendars {
			ask(cal, y)
		}
	}
	for _, cal := range otherCalendars {
		for _, y := range []int{1, 2, 1300, 1345, 2000, 3000} {
			ask(cal, y)
		}
	}
}
