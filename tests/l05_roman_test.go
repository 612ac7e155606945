package tests

import (
	"math"
	"slices"
	"strings"
	"testing"

	"loop.example/g00638/impl"
)

// romanYears have leap years of both calendars, of one alone and of none, and both ends.
var romanYears = []int{1, 2, 3, 4, 5, 8, 96, 99, 100, 101, 200, 300, 400, 1066, 1344, 1345, 1500, 1582, 1600, 1700, 1752, 1800, 1896, 1899, 1900, 1904, 1999, 2000, 2023, 2024, 2100, 2996, 2999, 3000}

// romanCounts are the counts in words, from 1 on, as written out by hand.
var romanCounts = []string{"", "prid ", "III ", "IV ", "V ", "VI ", "VII ", "VIII ", "IX ", "X ", "XI ", "XII ", "XIII ", "XIV ", "XV ", "XVI ", "XVII ", "XVIII ", "XIX "}

var romanMonths = []string{"", "jan", "feb", "mar", "apr", "may", "jun", "jul", "aug", "sep", "oct", "nov", "dec"}

// romanMarks are the days of the nones and ides of each month, from month 1 on.
var romanMarks = [][2]int{{}, {5, 13}, {5, 13}, {7, 15}, {5, 13}, {7, 15}, {5, 13}, {7, 15}, {5, 13}, {5, 13}, {7, 15}, {5, 13}, {5, 13}}

type romanDay struct {
	d    impl.Date
	r    impl.Roman
	text string
}

func romanWords(r impl.Roman) string {
	s := romanCounts[r.Count-1] + []string{"kal ", "non ", "id "}[r.Mark] + romanMonths[r.Month]
	if r.Twice {
		s = "bis " + s
	}
	return s
}

// romanWalk goes back through a year from the kalends behind it: each day counts one more, until a mark is met, and the leap day none more.
func romanWalk(cal, y int) []romanDay {
	var dates []impl.Date
	for d := date(cal, y, 1, 1); d.Year == y; d = nextDate(d) {
		dates = append(dates, d)
	}
	r := impl.Roman{Count: 1, Mark: 0, Month: 1}
	var list []romanDay
	for _, d := range slices.Backward(dates) {
		r.Count++
		r.Twice = false
		mark := slices.Index([]int{1, romanMarks[d.Month][0], romanMarks[d.Month][1]}, d.Day)
		if mark >= 0 {
			r = impl.Roman{Count: 1, Mark: mark, Month: d.Month}
		}
		if d.Month == 2 && d.Day == 24 && leapByBig(cal, y) {
			r.Count--
			r.Twice = true
		}
		list = append(list, romanDay{d, r, romanWords(r)})
	}
	slices.Reverse(list)
	return list
}

// romansOfAll are all that are RomanOf of some date, by their texts.
func romansOfAll() map[string]impl.Roman {
	all := map[string]impl.Roman{}
	for _, y := range []int{1900, 1999, 2000} {
		for _, x := range romanWalk(impl.CGre, y) {
			all[x.text] = x.r
		}
	}
	return all
}

func askRoman(t *testing.T, x romanDay) {
	t.Helper()
	if got := impl.RomanOf(x.d); got != x.r {
		t.Errorf("RomanOf(%v) = %v, want %v", x.d, got, x.r)
	}
	if got := impl.DayOfRoman(x.d.Cal, x.d.Year, x.r); got != x.d {
		t.Errorf("DayOfRoman(%d, %d, %v) = %v, want %v", x.d.Cal, x.d.Year, x.r, got, x.d)
	}
	if got := impl.RomanText(x.r); got != x.text {
		t.Errorf("RomanText(%v) = %q, want %q", x.r, got, x.text)
	}
	if got, ok := impl.ReadRoman(x.text); !ok || got != x.r {
		t.Errorf("ReadRoman(%q) = %v, %v, want %v", x.text, got, ok, x.r)
	}
}

func TestMarksAreConstants(t *testing.T) {
	if impl.MKal != 0 || impl.MNones != 1 || impl.MIdes != 2 {
		t.Error(impl.MKal, impl.MNones, impl.MIdes)
	}
}

func TestRomanOfEachDay(t *testing.T) {
	for _, cal := range calendars {
		for _, y := range romanYears {
			list := romanWalk(cal, y)
			want := 365
			if leapByBig(cal, y) {
				want = 366
			}
			if len(list) != want {
				t.Errorf("year %d of calendar %d was walked in %d days", y, cal, len(list))
			}
			for _, x := range list {
				askRoman(t, x)
			}
		}
	}
}

// Promise 5, within a year: neither a Roman nor a text is told of two days.
func TestRomansOfAYearAreApart(t *testing.T) {
	for _, cal := range calendars {
		for _, y := range romanYears {
			romans, texts := map[impl.Roman]impl.Date{}, map[string]impl.Date{}
			for d := date(cal, y, 1, 1); d.Year == y; d = nextDate(d) {
				r := impl.RomanOf(d)
				s := impl.RomanText(r)
				if first, met := romans[r]; met || r == (impl.Roman{}) {
					t.Errorf("RomanOf(%v) = %v, as of %v", d, r, first)
				}
				if first, met := texts[s]; met || s == "" {
					t.Errorf("%v is told %q, as %v is", d, s, first)
				}
				romans[r], texts[s] = d, d
			}
		}
	}
}

// Promise 5, of the years that are not gone through day by day above too.
func TestDayCountedBackIsThatDay(t *testing.T) {
	for _, b := range bounds {
		for n := b.first; n <= b.last; n += 13 {
			d, _ := impl.DateOf(b.cal, n)
			r, ok := impl.ReadRoman(impl.RomanText(impl.RomanOf(d)))
			if got := impl.DayOfRoman(b.cal, d.Year, r); !ok || got != d {
				t.Fatalf("%v comes back as %v", d, got)
			}
		}
	}
}

func TestKnownRomans(t *testing.T) {
	cases := []struct {
		d    impl.Date
		text string
		r    impl.Roman
	}{
		{date(impl.CJul, 1345, 1, 1), "kal jan", impl.Roman{Count: 1, Mark: impl.MKal, Month: 1}},
		{date(impl.CJul, 1345, 1, 2), "IV non jan", impl.Roman{Count: 4, Mark: impl.MNones, Month: 1}},
		{date(impl.CJul, 1345, 1, 14), "XIX kal feb", impl.Roman{Count: 19, Mark: impl.MKal, Month: 2}},
		{date(impl.CJul, 1345, 3, 15), "id mar", impl.Roman{Count: 1, Mark: impl.MIdes, Month: 3}},
		{date(impl.CJul, 1344, 2, 24), "bis VI kal mar", impl.Roman{Count: 6, Mark: impl.MKal, Month: 3, Twice: true}},
		{date(impl.CJul, 1344, 2, 25), "VI kal mar", impl.Roman{Count: 6, Mark: impl.MKal, Month: 3}},
		{date(impl.CJul, 1345, 2, 24), "VI kal mar", impl.Roman{Count: 6, Mark: impl.MKal, Month: 3}},
		{date(impl.CJul, 800, 12, 25), "VIII kal jan", impl.Roman{Count: 8, Mark: impl.MKal, Month: 1}},
		{date(impl.CJul, 1066, 10, 14), "prid id oct", impl.Roman{Count: 2, Mark: impl.MIdes, Month: 10}},
		{date(impl.CJul, 1215, 6, 15), "XVII kal jul", impl.Roman{Count: 17, Mark: impl.MKal, Month: 7}},
		{date(impl.CJul, 1492, 10, 12), "IV id oct", impl.Roman{Count: 4, Mark: impl.MIdes, Month: 10}},
		{date(impl.CJul, 1582, 10, 4), "IV non oct", impl.Roman{Count: 4, Mark: impl.MNones, Month: 10}},
		{date(impl.CGre, 1582, 10, 15), "id oct", impl.Roman{Count: 1, Mark: impl.MIdes, Month: 10}},
		{date(impl.CGre, 1582, 2, 24), "VI kal mar", impl.Roman{Count: 6, Mark: impl.MKal, Month: 3}},
		{date(impl.CGre, 1776, 7, 4), "IV non jul", impl.Roman{Count: 4, Mark: impl.MNones, Month: 7}},
		{date(impl.CGre, 1789, 7, 14), "prid id jul", impl.Roman{Count: 2, Mark: impl.MIdes, Month: 7}},
		{date(impl.CGre, 2000, 2, 24), "bis VI kal mar", impl.Roman{Count: 6, Mark: impl.MKal, Month: 3, Twice: true}},
	}
	for _, c := range cases {
		askRoman(t, romanDay{c.d, c.r, c.text})
	}
}

func TestNonesAndIdesOfEachMonth(t *testing.T) {
	for m := 1; m <= 12; m++ {
		if nones, ides := impl.Nones(m), impl.Ides(m); nones != romanMarks[m][0] || ides != romanMarks[m][1] {
			t.Errorf("nones and ides of month %d: %d, %d", m, nones, ides)
		}
	}
	for _, m := range []int{0, 13, 14, -1, -3, -12, 15, 24, 256 + 3, 1<<32 + 3, math.MinInt, math.MinInt + 3, math.MaxInt, math.MaxInt - 1} {
		if nones, ides := impl.Nones(m), impl.Ides(m); nones != 0 || ides != 0 {
			t.Errorf("nones and ides of month %d: %d, %d", m, nones, ides)
		}
	}
}

// The marks of each month, the days ahead of them and the days behind them, as texts without their months.
func TestDaysBesideTheMarks(t *testing.T) {
	behindKal := []string{"", "IV", "IV", "VI", "IV", "VI", "IV", "VI", "IV", "IV", "VI", "IV", "IV"}
	behindIdes := []string{"", "XIX", "XVI", "XVII", "XVIII", "XVII", "XVIII", "XVII", "XIX", "XVIII", "XVII", "XVIII", "XIX"}
	lengths := []int{0, 31, 28, 31, 30, 31, 30, 31, 31, 30, 31, 30, 31}
	for _, cal := range calendars {
		for _, y := range []int{1, 4, 1345, 1900, 2000, 2999, 3000} {
			for m := 1; m <= 12; m++ {
				own, next := romanMonths[m], romanMonths[m%12+1]
				nones, ides := romanMarks[m][0], romanMarks[m][1]
				last := impl.MonthDays(cal, y, m)
				texts := map[int]string{
					1: "kal " + own, 2: behindKal[m] + " non " + own,
					nones - 1: "prid non " + own, nones: "non " + own, nones + 1: "VIII id " + own,
					ides - 1: "prid id " + own, ides: "id " + own, ides + 1: behindIdes[m] + " kal " + next,
					lengths[m] - 10: "XII kal " + next, last - 1: "III kal " + next, last: "prid kal " + next,
				}
				for day, want := range texts {
					d := date(cal, y, m, day)
					if got := impl.RomanText(impl.RomanOf(d)); got != want {
						t.Errorf("%v is told %q, want %q", d, got, want)
					}
					r, ok := impl.ReadRoman(want)
					if got := impl.DayOfRoman(cal, y, r); !ok || got != d {
						t.Errorf("%q in %d is %v, want %v", want, y, got, d)
					}
				}
			}
		}
	}
}

// The days behind the ides of December are counted to the kalends of January, but are of the year that is asked.
func TestDaysBehindTheIdesOfDecember(t *testing.T) {
	for _, cal := range calendars {
		for y := impl.MinYear; y <= impl.MaxYear; y += 11 {
			for day := 14; day <= 31; day++ {
				r := impl.Roman{Count: 33 - day, Mark: impl.MKal, Month: 1}
				askRoman(t, romanDay{date(cal, y, 12, day), r, romanWords(r)})
			}
			askRoman(t, romanDay{date(cal, y, 1, 1), impl.Roman{Count: 1, Mark: impl.MKal, Month: 1}, "kal jan"})
			askRoman(t, romanDay{date(cal, y, 12, 13), impl.Roman{Count: 1, Mark: impl.MIdes, Month: 12}, "id dec"})
		}
	}
}

var februaryTexts = []string{
	"", "kal feb", "IV non feb", "III non feb", "prid non feb", "non feb",
	"VIII id feb", "VII id feb", "VI id feb", "V id feb", "IV id feb", "III id feb", "prid id feb", "id feb",
	"XVI kal mar", "XV kal mar", "XIV kal mar", "XIII kal mar", "XII kal mar", "XI kal mar", "X kal mar", "IX kal mar", "VIII kal mar", "VII kal mar",
}

func TestFebruaryOfBothLengths(t *testing.T) {
	short := append(slices.Clone(februaryTexts), "VI kal mar", "V kal mar", "IV kal mar", "III kal mar", "prid kal mar", "kal mar")
	long := append(slices.Clone(februaryTexts), "bis VI kal mar", "VI kal mar", "V kal mar", "IV kal mar", "III kal mar", "prid kal mar", "kal mar")
	for _, cal := range calendars {
		for y := impl.MinYear; y <= impl.MaxYear; y++ {
			texts := short
			if leapByBig(cal, y) {
				texts = long
			}
			if got := impl.DateOk(impl.DayOfRoman(cal, y, impl.Roman{Count: 6, Mark: impl.MKal, Month: 3, Twice: true})); got != leapByBig(cal, y) {
				t.Errorf("year %d of calendar %d has a sixth day twice: %v", y, cal, got)
			}
			d := date(cal, y, 2, 1)
			for _, want := range texts[1:] {
				r := impl.RomanOf(d)
				if got := impl.RomanText(r); got != want || impl.DayOfRoman(cal, y, r) != d {
					t.Errorf("%v is told %q, want %q", d, got, want)
				}
				d = nextDate(d)
			}
		}
	}
}

// Years that are leap years of CJul alone.
func TestSixthDayOfOneCalendarAlone(t *testing.T) {
	sixth := impl.Roman{Count: 6, Mark: impl.MKal, Month: 3}
	twice := impl.Roman{Count: 6, Mark: impl.MKal, Month: 3, Twice: true}
	for _, y := range []int{100, 200, 300, 500, 1500, 1700, 1800, 1900, 2100, 3000} {
		cases := []struct {
			cal  int
			r    impl.Roman
			want impl.Date
		}{
			{impl.CJul, sixth, date(impl.CJul, y, 2, 25)}, {impl.CJul, twice, date(impl.CJul, y, 2, 24)},
			{impl.CGre, sixth, date(impl.CGre, y, 2, 24)}, {impl.CGre, twice, impl.Date{}},
			{impl.CJul, impl.Roman{Count: 5, Month: 3}, date(impl.CJul, y, 2, 26)}, {impl.CGre, impl.Roman{Count: 5, Month: 3}, date(impl.CGre, y, 2, 25)},
			{impl.CJul, impl.Roman{Count: 2, Month: 3}, date(impl.CJul, y, 2, 29)}, {impl.CGre, impl.Roman{Count: 2, Month: 3}, date(impl.CGre, y, 2, 28)},
			{impl.CJul, impl.Roman{Count: 7, Month: 3}, date(impl.CJul, y, 2, 23)}, {impl.CGre, impl.Roman{Count: 7, Month: 3}, date(impl.CGre, y, 2, 23)},
			{impl.CJul, impl.Roman{Count: 16, Month: 3}, date(impl.CJul, y, 2, 14)}, {impl.CGre, impl.Roman{Count: 16, Month: 3}, date(impl.CGre, y, 2, 14)},
		}
		for _, c := range cases {
			if got := impl.DayOfRoman(c.cal, y, c.r); got != c.want {
				t.Errorf("DayOfRoman(%d, %d, %v) = %v, want %v", c.cal, y, c.r, got, c.want)
			}
		}
		if got := impl.RomanOf(date(impl.CGre, y, 2, 29)); got != (impl.Roman{}) {
			t.Errorf("RomanOf of 29 February %d of CGre: %v", y, got)
		}
	}
}

func TestRomanOfNoDate(t *testing.T) {
	wrong := []impl.Date{
		{}, date(0, 1345, 1, 0), date(1, 1345, 1, 32), date(0, 1345, 1, -1), date(0, 1345, 2, 29), date(1, 1345, 2, 29), date(1, 1900, 2, 29), date(0, 1344, 2, 30), date(0, 1345, 4, 31),
		date(0, 1345, 12, 32), date(0, 1345, 0, 1), date(0, 1345, 13, 1), date(1, 1345, -1, 5), date(0, 0, 1, 1), date(1, 0, 12, 31), date(0, -1, 3, 15), date(0, 3001, 1, 1), date(1, 3001, 1, 1),
	}
	ends := []int{math.MinInt, math.MinInt + 1, math.MaxInt - 1, math.MaxInt, -1 << 32, 1<<32 + 1}
	for _, n := range ends {
		wrong = append(wrong, date(n, 1345, 3, 15), date(0, n, 3, 15), date(1, 1345, n, 15), date(0, 1345, 3, n), date(n, n, n, n))
	}
	for _, cal := range otherCalendars {
		wrong = append(wrong, date(cal, 1345, 1, 1), date(cal, 1344, 2, 24), date(cal, 1345, 12, 31))
	}
	for _, y := range otherYears {
		wrong = append(wrong, date(0, y, 1, 1), date(1, y, 2, 24), date(0, y, 2, 24), date(1, y, 12, 31))
	}
	for _, d := range wrong {
		if got := impl.RomanOf(d); got != (impl.Roman{}) {
			t.Errorf("RomanOf(%v) = %v", d, got)
		}
	}
}

func TestDayOfRomanOfNoYearOrCalendar(t *testing.T) {
	ask := func(cal, y int) {
		for _, x := range romanWalk(impl.CJul, 1344) {
			if got := impl.DayOfRoman(cal, y, x.r); got != (impl.Date{}) {
				t.Errorf("DayOfRoman(%d, %d, %v) = %v", cal, y, x.r, got)
			}
		}
		if got := impl.DayOfRoman(cal, y, impl.Roman{}); got != (impl.Date{}) {
			t.Errorf("DayOfRoman(%d, %d, zero) = %v", cal, y, got)
		}
	}
	for _, y := range append([]int{-4, -400, 3004, 3200, math.MinInt + 4, math.MaxInt - 3, 1<<32 + 1344}, otherYears...) {
		for _, cal := range append(slices.Clone(calendars), otherCalendars...) {
			ask(cal, y)
		}
	}
	for _, cal := range otherCalendars {
		for _, y := range []int{1, 4, 1344, 1345, 3000} {
			ask(cal, y)
		}
	}
}

// askNoRoman holds a Roman that is none against each function that takes one.
func askNoRoman(t *testing.T, r impl.Roman) {
	t.Helper()
	if got := impl.RomanText(r); got != "" {
		t.Errorf("RomanText(%v) = %q", r, got)
	}
	for _, cal := range calendars {
		for _, y := range []int{1, 4, 1344, 1345, 1900, 3000} {
			if got := impl.DayOfRoman(cal, y, r); got != (impl.Date{}) {
				t.Errorf("DayOfRoman(%d, %d, %v) = %v", cal, y, r, got)
			}
		}
	}
}

// All Romans of small fields: those that are RomanOf of a date are right, the others are wrong.
func TestRomansAroundTheRightOnes(t *testing.T) {
	all := map[impl.Roman]string{}
	for s, r := range romansOfAll() {
		all[r] = s
	}
	if len(all) != 366 {
		t.Errorf("there are %d Romans", len(all))
	}
	for count := -35; count <= 40; count++ {
		for mark := -2; mark <= 4; mark++ {
			for month := -2; month <= 15; month++ {
				for _, twice := range []bool{false, true} {
					r := impl.Roman{Count: count, Mark: mark, Month: month, Twice: twice}
					s, right := all[r]
					if !right {
						askNoRoman(t, r)
					} else if got := impl.RomanText(r); got != s {
						t.Errorf("RomanText(%v) = %q, want %q", r, got, s)
					}
				}
			}
		}
	}
}

func TestRomansFarOff(t *testing.T) {
	far := []int{math.MinInt, math.MinInt + 1, math.MinInt + 6, math.MinInt + 31, -1 << 32, -1000, 1000, 3999, 4000, 1<<32 + 1, 1<<32 + 6, math.MaxInt - 31, math.MaxInt - 6, math.MaxInt - 1, math.MaxInt}
	for _, n := range far {
		for m := 0; m <= 13; m++ {
			for _, twice := range []bool{false, true} {
				for mark := -1; mark <= 3; mark++ {
					askNoRoman(t, impl.Roman{Count: n, Mark: mark, Month: m, Twice: twice})
				}
				for count := 0; count <= 7; count++ {
					askNoRoman(t, impl.Roman{Count: count, Mark: n, Month: m, Twice: twice})
				}
			}
		}
		for count := -1; count <= 20; count++ {
			for mark := 0; mark <= 2; mark++ {
				askNoRoman(t, impl.Roman{Count: count, Mark: mark, Month: n})
				askNoRoman(t, impl.Roman{Count: count, Mark: mark, Month: n, Twice: true})
			}
		}
		askNoRoman(t, impl.Roman{Count: n, Mark: n, Month: n, Twice: true})
	}
}

func TestTwiceWhereThereIsNone(t *testing.T) {
	for _, x := range romanWalk(impl.CJul, 1344) {
		if x.r.Count == 6 && x.r.Mark == impl.MKal && x.r.Month == 3 {
			continue
		}
		r := x.r
		r.Twice = true
		askNoRoman(t, r)
		if got, ok := impl.ReadRoman("bis " + x.text); ok || got != (impl.Roman{}) {
			t.Errorf("ReadRoman(%q) = %v, %v", "bis "+x.text, got, ok)
		}
	}
	twice := impl.Roman{Count: 6, Mark: impl.MKal, Month: 3, Twice: true}
	for _, y := range []int{1, 2, 3, 1345, 1999, 2999} {
		for _, cal := range calendars {
			if got := impl.DayOfRoman(cal, y, twice); got != (impl.Date{}) {
				t.Errorf("DayOfRoman(%d, %d, %v) = %v", cal, y, twice, got)
			}
		}
	}
	if got := impl.RomanText(twice); got != "bis VI kal mar" {
		t.Errorf("RomanText(%v) = %q", twice, got)
	}
}

var noRomanTexts = []string{
	"", " ", "  ", "   ", "bis", "bis ", " bis", "kal", "non", "id", "jan", "kal ", " jan", "prid", "prid ", "VI", "prid kal", "VI kal", "VI kal ", "VI jan", "prid jan", "kal kal", "jan kal", "jan jan", "mar kal VI",
	"I kal jan", "II kal jan", "I non mar", "II id oct", "II kal mar", "bis I kal mar", "bis II kal mar", "1 kal jan", "2 kal jan", "6 kal mar", "06 kal mar", "-6 kal mar",
	"bis kal mar", "bis prid kal mar", "bis V kal mar", "bis VII kal mar", "bis VI kal apr", "bis VI kal feb", "bis VI id mar", "bis VI non mar", "bis non feb", "bis bis VI kal mar", "VI bis kal mar", "VI kal bis mar", "VI kal mar bis",
	"bis bis kal mar", "bis  VI kal mar", " bis VI kal mar", "bisVI kal mar", "Bis VI kal mar", "BIS VI kal mar", "bi VI kal mar", "biss VI kal mar", "bis\nVI kal mar", "bis 6 kal mar",
	"IIII non jan", "IIX kal mar", "VIIII kal mar", "IC kal jan", "VV kal jan", "vi kal mar", "Vi kal mar", "iv non jan", "X IV kal feb", "XX kal feb", "XIX kal jun", "XVIII kal apr", "XVII kal mar", "VII non jan", "VII non mar", "V non jan", "IX id jan", "MMM kal jan",
	"KAL jan", "Kal jan", "kal JAN", "kal Jan", "Prid kal jan", "PRID kal jan", "prid Kal jan", "prid prid kal jan", "prid VI kal mar", "VI prid kal mar", "prid kal x", "kal x", "kal ma", "kal march", "kal ", "kal 1", "cal jan", "nones jan", "ides mar", "idus mar", "kalends jan",
	" kal jan", "kal jan ", "kal  jan", "VI  kal mar", "VI kal  mar", " VI kal mar", "VI kal mar ", "VI\tkal mar", "VI kal\tmar", "VI kal mar\n", "\nVI kal mar", "VI\u00a0kal mar", "VIkal mar", "VI kalmar", "kaljan", "VI-kal-mar",
	"a VI kal mar", "VI a kal mar", "VI kal a mar", "VI kal mar a", "VI kal mar 1345", "VI kal kal mar", "VI kal mar mar", "VI VI kal mar", "kal jan jan", "kal kal jan",
	"\x00", "kal jan\x00", "\xff", "VI kal \xff", "\u2165 kal mar", "V\u0406 kal mar", "VI k\u0430l mar",
	strings.Repeat("M", 4000) + " kal jan", strings.Repeat("bis ", 1000), strings.Repeat(" ", 1000), strings.Repeat("kal ", 1000) + "jan", strings.Repeat("I", 262) + " kal mar",
}

func TestReadRomanOfNoRoman(t *testing.T) {
	for _, s := range noRomanTexts {
		if got, ok := impl.ReadRoman(s); ok || got != (impl.Roman{}) {
			t.Errorf("ReadRoman(%q) = %v, %v", s, got, ok)
		}
	}
}

func askRead(t *testing.T, all map[string]impl.Roman, s string) {
	t.Helper()
	want, right := all[s]
	if got, ok := impl.ReadRoman(s); ok != right || got != want {
		t.Errorf("ReadRoman(%q) = %v, %v, want %v, %v", s, got, ok, want, right)
	}
}

// Texts of right words in right places, and of ones beside these.
func TestReadRomanOfAllWords(t *testing.T) {
	all := romansOfAll()
	counts := append([]string{"I ", "II ", "XX ", "XXI ", "IIII ", "vi ", "6 ", " ", "bis ", "prid", "PRID "}, romanCounts...)
	for _, bis := range []string{"", "bis ", "bis", "bis bis ", " ", "BIS "} {
		for _, count := range counts {
			for _, mark := range []string{"kal ", "non ", "id ", "", "kal", "Kal ", "kal  ", "ide ", "kal id "} {
				for _, month := range append([]string{"x", "Mar", "march", "mar ", "13"}, romanMonths...) {
					askRead(t, all, bis+count+mark+month)
				}
			}
		}
	}
}

// Texts that are a byte away from right ones.
func TestReadRomanOfTextsBeside(t *testing.T) {
	all := romansOfAll()
	for s := range all {
		for i := 0; i <= len(s); i++ {
			for _, c := range []byte("IVXLabdijklnprsuy 1\n\x00\xff") {
				askRead(t, all, s[:i]+string([]byte{c})+s[i:])
				if i < len(s) {
					askRead(t, all, s[:i]+string([]byte{c})+s[i+1:])
				}
			}
			if i < len(s) {
				askRead(t, all, s[:i]+s[i+1:])
			}
		}
	}
}
