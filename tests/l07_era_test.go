package tests

import (
	"fmt"
	"math"
	"slices"
	"strconv"
	"strings"
	"testing"

	"loop.example/g00638/impl"
)

// eraRows are the eras as the document has them, in its order.
var eraRows = []impl.Era{
	{Name: "ad", Style: impl.YJan}, {Name: "incarnation", Style: impl.YLady}, {Name: "mundi", Style: impl.YSept, Add: 5508},
	{Name: "hispania", Style: impl.YJan, Add: 38}, {Name: "urbis", Style: impl.YJan, Add: 753},
	{Name: "indiction", Style: impl.YSept, Add: 3, Cycle: 15}, {Name: "bedan", Style: impl.YYule, Add: 3, Cycle: 15},
	{Name: "golden", Style: impl.YJan, Add: 1, Cycle: 19}, {Name: "solar", Style: impl.YJan, Add: 9, Cycle: 28},
}

// ownEras are none of Eras; they stand at both ends of what an era may have.
var ownEras = []impl.Era{
	{Name: "a", Style: impl.YMarch}, {Name: "z", Style: impl.YPisa, Add: 9000}, {Name: "abcdefghijklmnop", Style: impl.YEaster, Add: 1},
	{Name: "two", Style: impl.YEaster, Cycle: 2}, {Name: "twoon", Style: impl.YMarch, Add: 9000, Cycle: 2}, {Name: "ad", Style: impl.YLady, Add: 8999, Cycle: 3},
	{Name: "most", Style: impl.YPisa, Cycle: 600}, {Name: "moston", Style: impl.YYule, Add: 9000, Cycle: 600}, {Name: "near", Style: impl.YSept, Add: 599, Cycle: 599},
}

// wrongEras are each wrong in one thing.
var wrongEras = wrongErasOf()

func wrongErasOf() []impl.Era {
	list := []impl.Era{{}}
	for _, style := range otherStyles {
		list = append(list, impl.Era{Name: "era", Style: style})
	}
	for _, add := range []int{-1, -2, -9000, 9001, 9002, 1 << 32, math.MinInt, math.MinInt + 1, math.MinInt + 1345, math.MaxInt - 1, math.MaxInt} {
		list = append(list, impl.Era{Name: "era", Add: add}, impl.Era{Name: "era", Add: add, Cycle: 15})
	}
	for _, cycle := range []int{1, -1, -2, -15, -600, 601, 602, 1 << 32, 1<<32 + 15, math.MinInt, math.MinInt + 1, math.MaxInt - 1, math.MaxInt} {
		list = append(list, impl.Era{Name: "era", Cycle: cycle}, impl.Era{Name: "era", Add: 9000, Cycle: cycle})
	}
	for _, name := range []string{"", "A", "Era", "eRA", "e ra", " era", "era ", "era\n", "er4", "era-", "\x00", "\xff", "{", "`", "\u00e9ra", "abcdefghijklmnopq", strings.Repeat("a", 17), strings.Repeat("era", 5000)} {
		list = append(list, impl.Era{Name: name}, impl.Era{Name: name, Style: impl.YSept, Add: 3, Cycle: 15})
	}
	return list
}

// noEraNames are next to the names of eras.
var noEraNames = noEraNamesOf()

func noEraNamesOf() []string {
	list := []string{"", " ", "x", "era", "jan", "sept", "jul", "AD", "Ad", "anno", "bede", "easter", "incarnatio", "indictio", "a d", "ad ad", "ad,mundi", "ad MCCC", "\x00", "\xff", "\u00e4d", strings.Repeat("ad", 5000)}
	for _, e := range eraRows {
		list = append(list, strings.ToUpper(e.Name), strings.ToUpper(e.Name[:1])+e.Name[1:], e.Name+" ", " "+e.Name, e.Name+"\n", e.Name+"\x00", e.Name[1:], e.Name[:len(e.Name)-1], e.Name+"s")
	}
	return list
}

// eraNumber is the number of a year of a style, or 0 where it is none of MinYear .. MaxYear.
func eraNumber(e impl.Era, y int) int {
	if y < impl.MinYear || y > impl.MaxYear {
		return 0
	}
	k := y + e.Add
	for e.Cycle != 0 && k > e.Cycle {
		k -= e.Cycle
	}
	return k
}

// eraTell is how a number is told behind the name.
func eraTell(e impl.Era, k int) string {
	switch {
	case k == 0:
		return ""
	case k > 3999:
		return e.Name + " " + strconv.Itoa(k)
	}
	return e.Name + " " + numeral(k)
}

func askEraYear(t *testing.T, cal int, e impl.Era, n, want int) {
	t.Helper()
	if k, ok := impl.EraYear(cal, e, n); k != want || ok != (want != 0) {
		t.Errorf("EraYear(%d, %#v, %d) = %d, %v, want %d", cal, e, n, k, ok, want)
	}
}

func askEraSpan(t *testing.T, cal int, e impl.Era, k, first, last int) {
	t.Helper()
	if a, b := impl.EraSpan(cal, e, k); a != first || b != last {
		t.Errorf("EraSpan(%d, %#v, %d) = %d, %d, want %d, %d", cal, e, k, a, b, first, last)
	}
}

func askEraText(t *testing.T, cal int, name string, n int, want string) {
	t.Helper()
	if got := impl.EraText(cal, name, n); got != want {
		t.Errorf("EraText(%d, %q, %d) = %q, want %q", cal, name, n, got, want)
	}
}

func askEraDays(t *testing.T, cal int, name string, k, from, to int, want ...int) {
	t.Helper()
	if got := impl.EraDays(cal, name, k, from, to); !slices.Equal(got, want) {
		t.Errorf("EraDays(%d, %q, %d, %d, %d) = %v, want %v", cal, name, k, from, to, got, want)
	}
}

func TestErasInOrder(t *testing.T) {
	list := impl.Eras()
	if !slices.Equal(list, eraRows) {
		t.Errorf("Eras() = %v, want %v", list, eraRows)
	}
	for i, e := range list {
		if !impl.EraOk(e) {
			t.Errorf("EraOk(%#v) is false", e)
		}
		if got := impl.FindEra(e.Name); got != i {
			t.Errorf("FindEra(%q) = %d, want %d", e.Name, got, i)
		}
	}
}

func TestErasIsNewMemory(t *testing.T) {
	one, two := impl.Eras(), impl.Eras()
	for i := range one {
		one[i] = impl.Era{Name: "mine", Style: 3, Add: 7, Cycle: 2}
	}
	one = append(one, one...)
	if !slices.Equal(two, eraRows) || !slices.Equal(impl.Eras(), eraRows) {
		t.Error("answers hang on each other")
	}
	if impl.FindEra("mine") != -1 || impl.FindEra("mundi") != 2 {
		t.Error("what is found hangs on an answer")
	}
}

func TestFindNoEra(t *testing.T) {
	for _, name := range noEraNames {
		if got := impl.FindEra(name); got != -1 {
			t.Errorf("FindEra(%q) = %d, want -1", name, got)
		}
	}
}

func TestEraOk(t *testing.T) {
	for _, e := range slices.Concat(eraRows, ownEras) {
		if !impl.EraOk(e) {
			t.Errorf("EraOk(%#v) is false", e)
		}
	}
	for _, e := range wrongEras {
		if impl.EraOk(e) {
			t.Errorf("EraOk(%#v) is true", e)
		}
	}
}

func TestEraOkOfEachNumber(t *testing.T) {
	for n := -700; n <= 10000; n++ {
		if got, want := impl.EraOk(impl.Era{Name: "e", Add: n}), n >= 0 && n <= 9000; got != want {
			t.Errorf("EraOk with Add %d: %v", n, got)
		}
		if got, want := impl.EraOk(impl.Era{Name: "e", Cycle: n}), n == 0 || n >= 2 && n <= 600; got != want {
			t.Errorf("EraOk with Cycle %d: %v", n, got)
		}
		if got, want := impl.EraOk(impl.Era{Name: "e", Style: n}), n >= 0 && n <= 6; got != want {
			t.Errorf("EraOk with Style %d: %v", n, got)
		}
	}
}

// Promise 7: all days of both calendars, by each era: the number, and the span that the day is in.
func TestEraYearOfEachDay(t *testing.T) {
	for _, cal := range calendars {
		for _, e := range eraRows {
			t.Run(fmt.Sprint(cal, " ", e.Name), func(t *testing.T) {
				t.Parallel()
				walkEra(t, cal, e)
			})
		}
	}
}

func walkEra(t *testing.T, cal int, e impl.Era) {
	heads := styleLines()[cal][e.Style]
	y, want, first, last := 0, 0, 0, 0
	for n := bounds[cal].first; n <= bounds[cal].last && !t.Failed(); n++ {
		head, ok := heads[y+1]
		for ; ok && head <= n; head, ok = heads[y+1] {
			y++
			want = eraNumber(e, y)
			first, last = impl.EraSpan(cal, e, want)
		}
		askEraYear(t, cal, e, n, want)
		if e.Cycle == 0 && want != 0 && (n < first || n > last) {
			t.Errorf("EraSpan(%d, %#v, %d) = %d, %d, without day %d", cal, e, want, first, last, n)
		}
	}
}

func TestEraYearIsStyleYearAndMore(t *testing.T) {
	for _, e := range slices.Concat(eraRows, ownEras) {
		for _, cal := range calendars {
			for n := bounds[cal].first; n <= bounds[cal].last; n += 61 {
				y, ok := impl.StyleYear(cal, e.Style, n)
				if !ok {
					askEraYear(t, cal, e, n, 0)
					continue
				}
				askEraYear(t, cal, e, n, eraNumber(e, y))
			}
		}
	}
}

// A year's first and last day, and the days around: a cycle goes on by one, and from its end to 1.
func TestCyclesGoOn(t *testing.T) {
	for _, e := range slices.Concat(eraRows, ownEras) {
		for _, cal := range calendars {
			heads := styleLines()[cal][e.Style]
			for y := impl.MinYear + 1; y < impl.MaxYear; y++ {
				before, _ := impl.EraYear(cal, e, heads[y]-1)
				now, ok := impl.EraYear(cal, e, heads[y])
				end, _ := impl.EraYear(cal, e, heads[y+1]-1)
				want := before + 1
				if e.Cycle != 0 && before == e.Cycle {
					want = 1
				}
				if y > 2 && now != want || now != end || !ok || now < 1 || e.Cycle != 0 && now > e.Cycle {
					t.Fatalf("EraYear of %v by %d about year %d: %d, %d, %d", e, cal, y, before, now, end)
				}
			}
		}
	}
}

func TestKnownEraYears(t *testing.T) {
	day := func(y, m, d int) int { return impl.DayOf(date(impl.CJul, y, m, d)) }
	cases := []struct{ era, n, want int }{
		{5, day(312, 8, 31), 15}, {5, day(312, 9, 1), 1}, {5, day(313, 8, 31), 1}, {5, day(313, 9, 1), 2}, {5, day(327, 8, 31), 15}, {5, day(327, 9, 1), 1},
		{6, day(312, 9, 1), 15}, {6, day(312, 12, 24), 15}, {6, day(312, 12, 25), 1}, {6, day(313, 12, 24), 1}, {6, day(313, 12, 25), 2},
		{7, day(1, 1, 1), 2}, {7, day(18, 12, 31), 19}, {7, day(19, 1, 1), 1}, {7, day(1345, 1, 1), 16}, {7, day(1348, 12, 31), 19}, {7, day(1349, 1, 1), 1},
		{8, day(1, 1, 1), 10}, {8, day(19, 12, 31), 28}, {8, day(20, 1, 1), 1}, {8, day(1559, 12, 31), 28}, {8, day(1560, 1, 1), 1},
		{1, day(1649, 1, 30), 1648}, {1, day(1649, 3, 24), 1648}, {1, day(1649, 3, 25), 1649},
		{2, day(1453, 5, 29), 6961}, {2, day(1492, 9, 1), 7001}, {2, day(1492, 8, 31), 7000}, {3, day(1383, 12, 25), 1421}, {4, day(248, 4, 21), 1001},
		{0, day(1, 1, 1), 1}, {0, day(3000, 12, 31), 3000},
	}
	for _, c := range cases {
		askEraYear(t, impl.CJul, eraRows[c.era], c.n, c.want)
	}
	for y := impl.MinYear; y <= impl.MaxYear; y++ {
		for _, cal := range calendars {
			askEraYear(t, cal, eraRows[7], impl.DayOf(date(cal, y, 6, 1)), impl.Golden(y))
		}
	}
}

// The first days have no year by styles that begin later, the last ones none by those that begin in the year ahead.
func TestEraYearOfTheFirstAndLastDays(t *testing.T) {
	for _, e := range slices.Concat(eraRows, ownEras) {
		for _, cal := range calendars {
			heads := styleLines()[cal][e.Style]
			b := bounds[cal]
			for n := b.first; n <= b.first+500; n++ {
				y := 0
				for heads[y+1] <= n {
					y++
				}
				askEraYear(t, cal, e, n, eraNumber(e, y))
			}
			for n := b.last - 500; n <= b.last; n++ {
				y := impl.MaxYear + 1
				for heads[y] > n {
					y--
				}
				askEraYear(t, cal, e, n, eraNumber(e, y))
			}
			for i := 1; i <= 400; i++ {
				askEraYear(t, cal, e, b.first-i, 0)
				askEraYear(t, cal, e, b.last+i, 0)
			}
		}
	}
	gone := map[int]impl.Date{impl.YPisa: {Month: 3, Day: 25}, impl.YSept: {Month: 9, Day: 1}, impl.YYule: {Month: 12, Day: 25}}
	for style, d := range gone {
		for _, cal := range calendars {
			n := impl.DayOf(date(cal, 3000, d.Month, d.Day))
			askEraYear(t, cal, impl.Era{Name: "e", Style: style, Add: 9000}, n-1, 12000)
			askEraYear(t, cal, impl.Era{Name: "e", Style: style, Add: 9000}, n, 0)
		}
	}
}

// A number of MaxNumeral, one above it, and the greatest.
func TestNumbersBeyondTheNumerals(t *testing.T) {
	e := impl.Era{Name: "own", Add: 2654}
	for _, cal := range calendars {
		askEraYear(t, cal, e, impl.DayOf(date(cal, 1345, 12, 31)), impl.MaxNumeral)
		askEraYear(t, cal, e, impl.DayOf(date(cal, 1346, 1, 1)), impl.MaxNumeral+1)
		askEraYear(t, cal, impl.Era{Name: "own", Add: 9000}, impl.DayOf(date(cal, 3000, 12, 31)), 12000)
		askEraSpan(t, cal, e, impl.MaxNumeral, impl.DayOf(date(cal, 1345, 1, 1)), impl.DayOf(date(cal, 1345, 12, 31)))
		askEraSpan(t, cal, e, impl.MaxNumeral+1, impl.DayOf(date(cal, 1346, 1, 1)), impl.DayOf(date(cal, 1346, 12, 31)))
	}
}

func TestEraYearOfWrongThings(t *testing.T) {
	days := append([]int{-1, 0, 1, 2, 60, 84, 400, 491000, 577736, 730233, 1090000, lastGre, lastJul}, farDays...)
	for _, n := range days {
		for _, e := range wrongEras {
			for _, cal := range append(slices.Clone(calendars), otherCalendars...) {
				askEraYear(t, cal, e, n, 0)
			}
		}
		for _, e := range slices.Concat(eraRows, ownEras) {
			for _, cal := range otherCalendars {
				askEraYear(t, cal, e, n, 0)
			}
		}
	}
	for _, n := range farDays {
		for _, e := range slices.Concat(eraRows, ownEras) {
			for _, cal := range calendars {
				askEraYear(t, cal, e, n, 0)
			}
		}
	}
}

// Promise 7: a span is all days of its year, and no others; beyond the days that have a date it goes on as its year does.
func TestEraSpanOfEachNumber(t *testing.T) {
	for _, e := range slices.Concat(eraRows, ownEras) {
		for _, cal := range calendars {
			heads := styleLines()[cal][e.Style]
			for y := impl.MinYear; y <= impl.MaxYear; y++ {
				k := y + e.Add
				if e.Cycle != 0 {
					askEraSpan(t, cal, e, k, 0, 0)
					askEraSpan(t, cal, e, eraNumber(e, y), 0, 0)
					continue
				}
				first, last := heads[y], heads[y+1]-1
				askEraSpan(t, cal, e, k, first, last)
				for _, n := range []int{first - 1, first, first + 1, first + 180, last - 1, last, last + 1} {
					got, _ := impl.EraYear(cal, e, n)
					_, dated := impl.DateOf(cal, n)
					if in := n >= first && n <= last; (got == k) != (in && dated) {
						t.Errorf("EraYear(%d, %#v, %d) = %d, beside the span of %d", cal, e, n, got, k)
					}
				}
			}
		}
	}
}

func TestKnownEraSpans(t *testing.T) {
	day := impl.DayOf
	askEraSpan(t, impl.CJul, eraRows[2], 6853, day(date(0, 1344, 9, 1)), day(date(0, 1345, 8, 31)))
	askEraSpan(t, impl.CJul, eraRows[1], 1648, day(date(0, 1648, 3, 25)), day(date(0, 1649, 3, 24)))
	askEraSpan(t, impl.CGre, eraRows[0], 2000, day(date(1, 2000, 1, 1)), day(date(1, 2000, 12, 31)))
	askEraSpan(t, impl.CJul, impl.Era{Name: "e", Style: impl.YEaster, Add: 5}, 1350, day(date(0, 1345, 3, 27)), day(date(0, 1346, 4, 15)))
	// The first and the last year of an era reach beyond the days that have a date.
	askEraSpan(t, impl.CJul, eraRows[2], 5509, -123, day(date(0, 1, 8, 31)))
	askEraSpan(t, impl.CGre, eraRows[2], 5509, -121, day(date(1, 1, 8, 31)))
	askEraSpan(t, impl.CJul, eraRows[1], 3000, day(date(0, 3000, 3, 25)), lastJul+31+28+24)
	askEraSpan(t, impl.CGre, eraRows[1], 3000, day(date(1, 3000, 3, 25)), lastGre+31+28+24)
	askEraSpan(t, impl.CJul, eraRows[0], 1, -1, 363)
	askEraSpan(t, impl.CGre, eraRows[0], 1, 1, 365)
	askEraSpan(t, impl.CJul, eraRows[0], 3000, lastJul-365, lastJul)
	askEraSpan(t, impl.CGre, eraRows[0], 3000, lastGre-364, lastGre)
}

func TestEraSpanOfNoYear(t *testing.T) {
	for _, e := range slices.Concat(eraRows, ownEras) {
		far := append(slices.Clone(otherYears), math.MinInt+e.Add, math.MinInt+e.Add+1, math.MaxInt-e.Add)
		for _, cal := range calendars {
			for _, y := range otherYears {
				askEraSpan(t, cal, e, y+e.Add, 0, 0)
			}
			for _, k := range far {
				if k < e.Add+impl.MinYear || k > e.Add+impl.MaxYear {
					askEraSpan(t, cal, e, k, 0, 0)
				}
			}
		}
		for _, cal := range otherCalendars {
			for _, k := range append(far, 1, 1345+e.Add, 3000+e.Add) {
				askEraSpan(t, cal, e, k, 0, 0)
			}
		}
	}
	for _, e := range wrongEras {
		for _, cal := range append(slices.Clone(calendars), otherCalendars...) {
			for _, k := range append([]int{1, 2, 1345, 3000, e.Add + 1, e.Add + 1345, e.Add + 3000}, otherYears...) {
				askEraSpan(t, cal, e, k, 0, 0)
			}
		}
	}
}

func TestEraTextOfManyDays(t *testing.T) {
	for _, e := range eraRows {
		for _, cal := range calendars {
			for y := impl.MinYear; y <= impl.MaxYear; y++ {
				first := styleLines()[cal][e.Style][y]
				end := styleLines()[cal][e.Style][y+1] - 1
				for _, n := range []int{first, first + 177, end} {
					if n >= bounds[cal].first && n <= bounds[cal].last {
						askEraText(t, cal, e.Name, n, eraTell(e, eraNumber(e, y)))
					}
				}
			}
		}
	}
}

func TestKnownEraTexts(t *testing.T) {
	texts := func(cal, n int, want ...string) {
		t.Helper()
		for i, e := range eraRows {
			askEraText(t, cal, e.Name, n, want[i])
		}
	}
	texts(impl.CJul, impl.DayOf(date(0, 1345, 1, 10)), "ad MCCCXLV", "incarnation MCCCXLIV", "mundi 6853", "hispania MCCCLXXXIII", "urbis MMXCVIII", "indiction XIII", "bedan XIII", "golden XVI", "solar X")
	texts(impl.CJul, impl.DayOf(date(0, 1345, 9, 1)), "ad MCCCXLV", "incarnation MCCCXLV", "mundi 6854", "hispania MCCCLXXXIII", "urbis MMXCVIII", "indiction XIV", "bedan XIII", "golden XVI", "solar X")
	texts(impl.CJul, impl.DayOf(date(0, 1345, 12, 25)), "ad MCCCXLV", "incarnation MCCCXLV", "mundi 6854", "hispania MCCCLXXXIII", "urbis MMXCVIII", "indiction XIV", "bedan XIV", "golden XVI", "solar X")
	texts(impl.CGre, impl.DayOf(date(1, 2000, 2, 29)), "ad MM", "incarnation MCMXCIX", "mundi 7508", "hispania MMXXXVIII", "urbis MMDCCLIII", "indiction VIII", "bedan VIII", "golden VI", "solar XXI")
	texts(impl.CJul, -1, "ad I", "", "mundi 5509", "hispania XXXIX", "urbis DCCLIV", "indiction IV", "bedan IV", "golden II", "solar X")
	texts(impl.CGre, 1, "ad I", "", "mundi 5509", "hispania XXXIX", "urbis DCCLIV", "indiction IV", "bedan IV", "golden II", "solar X")
	texts(impl.CJul, lastJul, "ad MMM", "incarnation MMM", "", "hispania MMMXXXVIII", "urbis MMMDCCLIII", "", "", "golden XVIII", "solar XIII")
	texts(impl.CGre, lastGre, "ad MMM", "incarnation MMM", "", "hispania MMMXXXVIII", "urbis MMMDCCLIII", "", "", "golden XVIII", "solar XIII")
	texts(impl.CJul, -2, "", "", "", "", "", "", "", "", "")
	texts(impl.CGre, 0, "", "", "", "", "", "", "", "", "")
	// Day 0, which other functions answer for what is no date, is 2 January of year 1 of CJul.
	texts(impl.CJul, 0, "ad I", "", "mundi 5509", "hispania XXXIX", "urbis DCCLIV", "indiction IV", "bedan IV", "golden II", "solar X")
}

func TestEraTextOfNothing(t *testing.T) {
	days := append([]int{-1, 0, 1, 491000, 730233, lastGre, lastJul}, farDays...)
	for _, n := range days {
		for _, name := range noEraNames {
			for _, cal := range append(slices.Clone(calendars), otherCalendars...) {
				askEraText(t, cal, name, n, "")
			}
		}
		for _, e := range eraRows {
			for _, cal := range otherCalendars {
				askEraText(t, cal, e.Name, n, "")
			}
		}
	}
	for _, n := range farDays {
		for _, e := range eraRows {
			for _, cal := range calendars {
				askEraText(t, cal, e.Name, n, "")
			}
		}
	}
}

// eraDays asks each day for itself.
func eraDays(cal int, e impl.Era, k, from, to int) []int {
	var days []int
	for n := from; n <= to; n++ {
		if got, ok := impl.EraYear(cal, e, n); ok && got == k {
			days = append(days, n)
		}
	}
	return days
}

func TestEraDaysByEachDay(t *testing.T) {
	for _, cal := range calendars {
		starts := []int{bounds[cal].first - 400, bounds[cal].first - 1, bounds[cal].first, bounds[cal].first + 1, 113800, 490700, 577736, 730233, bounds[cal].last - 799, bounds[cal].last - 798, bounds[cal].last - 300}
		for _, e := range eraRows {
			for _, from := range starts {
				for _, count := range []int{1, 2, 30, 366, 799, 800} {
					to := from + count - 1
					a, _ := impl.EraYear(cal, e, from)
					b, _ := impl.EraYear(cal, e, to)
					for _, k := range []int{0, 1, 2, a - 1, a, a + 1, b - 1, b, b + 1, e.Cycle, e.Cycle + 1} {
						askEraDays(t, cal, e.Name, k, from, to, eraDays(cal, e, k, from, to)...)
					}
				}
			}
		}
	}
}

func daysFromTo(from, to int) []int {
	var days []int
	for n := from; n <= to; n++ {
		days = append(days, n)
	}
	return days
}

func TestKnownEraDays(t *testing.T) {
	new45 := impl.DayOf(date(0, 1345, 1, 1))
	askEraDays(t, impl.CJul, "ad", 1345, new45-2, new45+2, new45, new45+1, new45+2)
	askEraDays(t, impl.CJul, "ad", 1344, new45-2, new45+2, new45-2, new45-1)
	askEraDays(t, impl.CJul, "ad", 1346, new45-2, new45+2)
	askEraDays(t, impl.CJul, "ad", 1345, new45-200, new45+599, daysFromTo(new45, new45+364)...)
	askEraDays(t, impl.CJul, "ad", 1345, new45, new45, new45)
	askEraDays(t, impl.CJul, "ad", 1345, new45-1, new45-1)
	// A cycle that begins: XV ends on 31 August 312, I begins on the day behind it.
	sept := impl.DayOf(date(0, 312, 9, 1))
	askEraDays(t, impl.CJul, "indiction", 15, sept-2, sept+1, sept-2, sept-1)
	askEraDays(t, impl.CJul, "indiction", 1, sept-2, sept+1, sept, sept+1)
	askEraDays(t, impl.CJul, "indiction", 0, sept-2, sept+1)
	askEraDays(t, impl.CJul, "indiction", 16, sept-2, sept+1)
	askEraDays(t, impl.CJul, "mundi", 6853, new45, new45+2, new45, new45+1, new45+2)
	// Days without a number are none of number 0.
	askEraDays(t, impl.CJul, "ad", 0, -400, 300)
	askEraDays(t, impl.CJul, "incarnation", 0, -1, 81)
	askEraDays(t, impl.CJul, "mundi", 0, lastJul-200, lastJul+200)
	askEraDays(t, impl.CGre, "ad", 1, -10, 3, 1, 2, 3)
	askEraDays(t, impl.CJul, "ad", 1, -10, 1, -1, 0, 1)
	askEraDays(t, impl.CJul, "ad", 3000, lastJul-1, lastJul+5, lastJul-1, lastJul)
}

func TestEraDaysAtTheirLimit(t *testing.T) {
	for _, cal := range calendars {
		for _, from := range []int{-200, 0, 490000, 730000, bounds[cal].last - 900} {
			number, ok := impl.EraYear(cal, eraRows[7], from+799)
			if !ok {
				t.Fatal(cal, from)
			}
			if got := impl.EraDays(cal, "golden", number, from, from+799); len(got) == 0 || got[len(got)-1] != from+799 {
				t.Errorf("EraDays of 800 days from %d on: %v", from, got)
			}
			for more := 800; more <= 810; more++ {
				askEraDays(t, cal, "golden", number, from, from+more)
			}
			for _, to := range []int{from - 1, from - 2, from - 800, from - 1000000, math.MinInt, math.MaxInt} {
				askEraDays(t, cal, "golden", number, from, to)
			}
		}
	}
}

func TestEraDaysFarOff(t *testing.T) {
	ends := append([]int{-801, -800, -1, 0, 1, 2, 798, 799, 800, 801, 491000, 730233}, farDays...)
	for _, cal := range calendars {
		for _, name := range []string{"ad", "mundi", "golden"} {
			for _, from := range ends {
				for _, to := range ends {
					if from <= to && from >= -2000 && to-from < 800 {
						continue
					}
					for _, k := range []int{0, 1, 2, 1345, 5509, math.MinInt, math.MaxInt} {
						askEraDays(t, cal, name, k, from, to)
					}
				}
			}
			for _, k := range []int{0, 1, -1, math.MinInt, math.MaxInt} {
				askEraDays(t, cal, name, k, math.MaxInt-799, math.MaxInt)
				askEraDays(t, cal, name, k, math.MaxInt-1, math.MaxInt)
				askEraDays(t, cal, name, k, math.MaxInt, math.MaxInt)
				askEraDays(t, cal, name, k, math.MinInt, math.MinInt+799)
				askEraDays(t, cal, name, k, math.MinInt, math.MinInt)
				askEraDays(t, cal, name, k, math.MinInt, math.MaxInt)
				askEraDays(t, cal, name, k, math.MaxInt, math.MinInt)
			}
		}
	}
}

func TestEraDaysOfWrongThings(t *testing.T) {
	for _, k := range []int{0, 1, 1345, 6853, math.MinInt, math.MaxInt} {
		for _, name := range noEraNames {
			for _, cal := range calendars {
				askEraDays(t, cal, name, k, 491000, 491010)
			}
		}
		for _, e := range eraRows {
			for _, cal := range otherCalendars {
				askEraDays(t, cal, e.Name, k, 491000, 491010)
				askEraDays(t, cal, e.Name, k, -5, 5)
			}
		}
	}
	for _, e := range eraRows {
		for _, cal := range calendars {
			for _, k := range []int{0, -1, -15, 1 << 32, math.MinInt, math.MinInt + 1, math.MaxInt - 1, math.MaxInt} {
				askEraDays(t, cal, e.Name, k, 491000, 491400)
			}
		}
	}
}

func TestEraDaysIsNewMemory(t *testing.T) {
	one, two := impl.EraDays(impl.CJul, "ad", 1345, 490900, 490910), impl.EraDays(impl.CJul, "ad", 1345, 490900, 490910)
	for i := range one {
		one[i] = 0
	}
	if !slices.Equal(two, daysFromTo(490900, 490910)) {
		t.Errorf("answers hang on each other: %v", two)
	}
}
