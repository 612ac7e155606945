package tests

import (
	"fmt"
	"math"
	"regexp"
	"slices"
	"strconv"
	"strings"
	"testing"

	"loop.example/g00638/impl"
)

// feastRows are the feasts as the document has them, in its order.
var feastRows = []impl.Feast{
	{Name: "septuagesima", Moves: true, Off: -63}, {Name: "ash", Moves: true, Off: -46}, {Name: "palm", Moves: true, Off: -7},
	{Name: "easter", Moves: true}, {Name: "quasimodo", Moves: true, Off: 7}, {Name: "rogation", Moves: true, Off: 35},
	{Name: "ascension", Moves: true, Off: 39}, {Name: "pentecost", Moves: true, Off: 49}, {Name: "trinity", Moves: true, Off: 56},
	{Name: "corpus", Moves: true, Off: 60},
	{Name: "epiphany", Month: 1, Day: 6}, {Name: "candlemas", Month: 2, Day: 2}, {Name: "annunciation", Month: 3, Day: 25},
	{Name: "george", Month: 4, Day: 23}, {Name: "john", Month: 6, Day: 24}, {Name: "assumption", Month: 8, Day: 15},
	{Name: "michael", Month: 9, Day: 29}, {Name: "saints", Month: 11, Day: 1}, {Name: "martin", Month: 11, Day: 11},
	{Name: "christmas", Month: 12, Day: 25},
}

// feastYears have the first and the last Easters, leap years of one calendar alone and of both, and both ends.
var feastYears = []int{1, 2, 4, 100, 1066, 1300, 1345, 1500, 1582, 1600, 1700, 1818, 1900, 1943, 1983, 1999, 2000, 2008, 2010, 2024, 2026, 2035, 2100, 2996, 2999, 3000}

// feastDay tells a feast's day by Gauss's rule and by dates.
func feastDay(cal, y int, f impl.Feast) int {
	if f.Moves {
		return march(cal, y, 21) + gaussEaster(cal, y) + f.Off
	}
	return impl.DayOf(date(cal, y, f.Month, f.Day))
}

// feastsHere walks all feasts for those on a day.
func feastsHere(cal, y, n int) []string {
	var names []string
	for _, f := range feastRows {
		if feastDay(cal, y, f) == n {
			names = append(names, f.Name)
		}
	}
	return names
}

// eachDay walks a year from its first day to its last one.
func eachDay(cal, y int, f func(n int)) {
	n := impl.DayOf(date(cal, y, 1, 1))
	for d := date(cal, y, 1, 1); d.Year == y; d = nextDate(d) {
		f(n)
		n++
	}
}

func TestFeastsInOrder(t *testing.T) {
	list := impl.Feasts()
	if !slices.Equal(list, feastRows) {
		t.Errorf("Feasts() = %v, want %v", list, feastRows)
	}
	for i, f := range list {
		if !impl.FeastOk(f) {
			t.Errorf("FeastOk(%v) is false", f)
		}
		if got := impl.FindFeast(f.Name); got != i {
			t.Errorf("FindFeast(%q) = %d, want %d", f.Name, got, i)
		}
	}
}

func TestFindNoFeast(t *testing.T) {
	for _, s := range []string{"", "x", "easte", "easterr", "Easter", "EASTER", " easter", "easter ", "easter+1", "easter+", "aster", "ash\n", "ash\x00", "palm palm", "\xff", "märz", strings.Repeat("a", 10000)} {
		if got := impl.FindFeast(s); got != -1 {
			t.Errorf("FindFeast(%q) = %d, want -1", s, got)
		}
	}
}

func TestFeastDaysOfEachYear(t *testing.T) {
	for _, cal := range calendars {
		for y := impl.MinYear; y <= impl.MaxYear; y++ {
			for _, f := range feastRows {
				n := impl.FeastDay(cal, y, f)
				if want := feastDay(cal, y, f); n != want {
					t.Fatalf("FeastDay(%d, %d, %s) = %d, want %d", cal, y, f.Name, n, want)
				}
				if d, ok := impl.DateOf(cal, n); !ok || d.Year != y {
					t.Fatalf("%s of %d of calendar %d is on %v, %v", f.Name, y, cal, d, ok)
				}
				if !slices.Contains(impl.FeastsOn(cal, n), f.Name) {
					t.Fatalf("FeastsOn(%d, %d) has no %s", cal, n, f.Name)
				}
			}
		}
	}
}

func TestKnownFeastDays(t *testing.T) {
	cases := []struct {
		cal, y int
		name   string
		m, d   int
	}{
		{impl.CGre, 2000, "septuagesima", 2, 20}, {impl.CGre, 2000, "ash", 3, 8}, {impl.CGre, 2000, "palm", 4, 16}, {impl.CGre, 2000, "easter", 4, 23},
		{impl.CGre, 2000, "quasimodo", 4, 30}, {impl.CGre, 2000, "rogation", 5, 28}, {impl.CGre, 2000, "ascension", 6, 1}, {impl.CGre, 2000, "pentecost", 6, 11},
		{impl.CGre, 2000, "trinity", 6, 18}, {impl.CGre, 2000, "corpus", 6, 22}, {impl.CGre, 2000, "epiphany", 1, 6}, {impl.CGre, 2000, "christmas", 12, 25},
		{impl.CGre, 2024, "septuagesima", 1, 28}, {impl.CGre, 2024, "ash", 2, 14}, {impl.CGre, 2024, "ascension", 5, 9}, {impl.CGre, 2024, "pentecost", 5, 19}, {impl.CGre, 2024, "corpus", 5, 30},
		{impl.CJul, 1345, "septuagesima", 1, 23}, {impl.CJul, 1345, "ash", 2, 9}, {impl.CJul, 1345, "palm", 3, 20}, {impl.CJul, 1345, "quasimodo", 4, 3},
		{impl.CJul, 1345, "rogation", 5, 1}, {impl.CJul, 1345, "ascension", 5, 5}, {impl.CJul, 1345, "pentecost", 5, 15}, {impl.CJul, 1345, "trinity", 5, 22},
		{impl.CJul, 1345, "corpus", 5, 26}, {impl.CJul, 1345, "candlemas", 2, 2}, {impl.CJul, 1345, "john", 6, 24}, {impl.CJul, 1345, "martin", 11, 11},
		// The first and the last Easters there are.
		{impl.CGre, 1818, "septuagesima", 1, 18}, {impl.CGre, 1818, "corpus", 5, 21}, {impl.CGre, 1943, "septuagesima", 2, 21}, {impl.CGre, 1943, "corpus", 6, 24},
		// Both ends of the years.
		{impl.CJul, 1, "septuagesima", 1, 23}, {impl.CJul, 1, "easter", 3, 27}, {impl.CJul, 3000, "septuagesima", 1, 27}, {impl.CGre, 3000, "septuagesima", 2, 9},
		{impl.CGre, 3000, "easter", 4, 13}, {impl.CGre, 1, "epiphany", 1, 6}, {impl.CJul, 3000, "christmas", 12, 25},
	}
	for _, c := range cases {
		want, f := impl.DayOf(date(c.cal, c.y, c.m, c.d)), feastRows[impl.FindFeast(c.name)]
		if got := impl.FeastDay(c.cal, c.y, f); got != want {
			t.Errorf("FeastDay(%d, %d, %s) = %d, want %d", c.cal, c.y, c.name, got, want)
		}
		if got := impl.FeastPlus(c.cal, c.y, c.name); got != want {
			t.Errorf("FeastPlus(%d, %d, %s) = %d, want %d", c.cal, c.y, c.name, got, want)
		}
		if got := impl.FeastText(c.cal, want, f.Moves); got != c.name {
			t.Errorf("FeastText(%d, %d) = %q, want %q", c.cal, want, got, c.name)
		}
	}
}

// Feasts that are none of Feasts have days too.
func TestFeastDaysOfOtherFeasts(t *testing.T) {
	for _, cal := range calendars {
		for _, y := range feastYears {
			for off := -63; off <= 63; off++ {
				f := impl.Feast{Name: "other", Moves: true, Off: off}
				if got, want := impl.FeastDay(cal, y, f), feastDay(cal, y, f); got != want || !impl.FeastOk(f) {
					t.Errorf("FeastDay(%d, %d, %v) = %d, want %d", cal, y, f, got, want)
				}
			}
			n := impl.DayOf(date(cal, y, 1, 1))
			for d := date(cal, y, 1, 1); d.Year == y; d = nextDate(d) {
				f := impl.Feast{Name: "z", Month: d.Month, Day: d.Day}
				want, leapDay := n, d.Month == 2 && d.Day == 29
				if leapDay {
					want = 0
				}
				if got := impl.FeastDay(cal, y, f); got != want || impl.FeastOk(f) == leapDay {
					t.Errorf("FeastDay(%d, %d, %v) = %d, want %d", cal, y, f, got, want)
				}
				n++
			}
		}
	}
}

func TestFeastOkInEachField(t *testing.T) {
	right := []impl.Feast{
		{Name: "a", Moves: true}, {Name: "a", Moves: true, Off: 63}, {Name: "a", Moves: true, Off: -63}, {Name: "sixteenletterssx", Moves: true, Off: 1},
		{Name: "a", Month: 1, Day: 1}, {Name: "z", Month: 12, Day: 31}, {Name: "a", Month: 2, Day: 28}, {Name: "a", Month: 4, Day: 30}, {Name: "abcdefghijklmnop", Month: 7, Day: 31},
	}
	for _, f := range right {
		if !impl.FeastOk(f) {
			t.Errorf("FeastOk(%v) is false", f)
		}
	}
	wrong := []impl.Feast{
		{}, {Name: "a"}, {Moves: true}, {Month: 1, Day: 1}, {Name: "A", Moves: true}, {Name: "a b", Month: 1, Day: 1}, {Name: "", Month: 1, Day: 1}, {Name: "a+1", Moves: true},
		{Name: "seventeenletterss", Moves: true}, {Name: "seventeenletterss", Month: 1, Day: 1}, {Name: "\xff", Moves: true}, {Name: "é", Month: 1, Day: 1},
		{Name: "a", Moves: true, Month: 1}, {Name: "a", Moves: true, Day: 1}, {Name: "a", Moves: true, Month: 1, Day: 1}, {Name: "a", Moves: true, Off: 1, Month: -1}, {Name: "a", Moves: true, Day: -1},
		{Name: "a", Off: 1, Month: 1, Day: 1}, {Name: "a", Off: -1, Month: 1, Day: 1}, {Name: "a", Off: 63, Month: 12, Day: 25}, {Name: "a", Off: math.MinInt, Month: 1, Day: 1}, {Name: "a", Off: 1},
		{Name: "a", Month: 1}, {Name: "a", Day: 1}, {Name: "a", Month: 13, Day: 1}, {Name: "a", Month: -1, Day: 1}, {Name: "a", Month: 1, Day: 32}, {Name: "a", Month: 1, Day: -1},
		{Name: "a", Month: 2, Day: 29}, {Name: "a", Month: 2, Day: 30}, {Name: "a", Month: 4, Day: 31}, {Name: "a", Month: 6, Day: 31}, {Name: "a", Month: 9, Day: 31}, {Name: "a", Month: 11, Day: 31},
		{Name: "a", Month: math.MaxInt, Day: 1}, {Name: "a", Month: math.MinInt, Day: 1}, {Name: "a", Month: 1, Day: math.MaxInt}, {Name: "a", Month: 1, Day: math.MinInt},
	}
	for _, off := range []int{64, 65, -64, -65, 1000, -1000, math.MinInt, math.MinInt + 1, math.MaxInt, math.MaxInt - 1} {
		wrong = append(wrong, impl.Feast{Name: "a", Moves: true, Off: off})
	}
	for _, f := range wrong {
		if impl.FeastOk(f) {
			t.Errorf("FeastOk(%v) is true", f)
		}
		for _, cal := range calendars {
			for _, y := range []int{1, 1300, 1600, 2000, 3000} {
				if got := impl.FeastDay(cal, y, f); got != 0 {
					t.Errorf("FeastDay(%d, %d, %v) = %d, want 0", cal, y, f, got)
				}
			}
		}
	}
}

func TestFeastsOnEachDay(t *testing.T) {
	for _, cal := range calendars {
		for _, y := range feastYears {
			eachDay(cal, y, func(n int) {
				if got, want := impl.FeastsOn(cal, n), feastsHere(cal, y, n); !slices.Equal(got, want) {
					t.Errorf("FeastsOn(%d, %d) = %v, want %v", cal, n, got, want)
				}
			})
		}
	}
}

// feastWalk tells, of each day of a year in a row, what FeastText is to be: it counts on from the feast that was met last.
func feastWalk(cal, y int, movable bool) []string {
	var texts []string
	name, k := "", 0
	eachDay(cal, y, func(n int) {
		k++
		for _, f := range slices.Backward(feastRows) {
			if f.Moves == movable && feastDay(cal, y, f) == n {
				name, k = f.Name, 0
			}
		}
		text := name
		if k > 0 && name != "" {
			text += "+" + strconv.Itoa(k)
		}
		if k > 99 {
			text = ""
		}
		texts = append(texts, text)
	})
	return texts
}

func TestFeastTextOfEachDay(t *testing.T) {
	for _, cal := range calendars {
		for _, y := range feastYears {
			first := impl.DayOf(date(cal, y, 1, 1))
			for _, movable := range []bool{true, false} {
				for i, want := range feastWalk(cal, y, movable) {
					if got := impl.FeastText(cal, first+i, movable); got != want {
						t.Errorf("FeastText(%d, %d, %v) = %q, want %q", cal, first+i, movable, got, want)
					}
				}
			}
		}
	}
}

// Promise 4, of every year that is not gone through day by day above too: by steps that meet each day of the year.
func TestFeastTextIsThatDay(t *testing.T) {
	told := 0
	for _, b := range bounds {
		for n := b.first; n <= b.last; n += 11 {
			d, _ := impl.DateOf(b.cal, n)
			for _, movable := range []bool{true, false} {
				s := impl.FeastText(b.cal, n, movable)
				if s == "" {
					continue
				}
				told++
				i, k := impl.ReadFeast(s)
				if i < 0 || feastRows[i].Moves != movable || k < 0 || k > 99 {
					t.Fatalf("ReadFeast(%q) = %d, %d", s, i, k)
				}
				if got := impl.FeastPlus(b.cal, d.Year, s); got != n || feastDay(b.cal, d.Year, feastRows[i])+k != n {
					t.Fatalf("FeastPlus(%d, %d, %q) = %d, want %d", b.cal, d.Year, s, got, n)
				}
			}
		}
	}
	if told < 200000 {
		t.Errorf("only %d days were told from a feast on", told)
	}
}

func TestTwoFeastsOnOneDay(t *testing.T) {
	cases := []struct {
		cal, y, m, d  int
		moving, fixed string
	}{
		{impl.CGre, 2000, 4, 23, "easter", "george"}, {impl.CGre, 2035, 3, 25, "easter", "annunciation"}, {impl.CGre, 2018, 3, 25, "palm", "annunciation"},
		{impl.CGre, 1943, 6, 24, "corpus", "john"}, {impl.CGre, 1947, 2, 2, "septuagesima", "candlemas"}, {impl.CJul, 1983, 6, 24, "corpus", "john"},
		{impl.CJul, 1459, 3, 25, "easter", "annunciation"},
	}
	for _, c := range cases {
		n := impl.DayOf(date(c.cal, c.y, c.m, c.d))
		if got := impl.FeastsOn(c.cal, n); !slices.Equal(got, []string{c.moving, c.fixed}) {
			t.Errorf("FeastsOn of %v = %v", c, got)
		}
		if got := impl.FeastText(c.cal, n, true); got != c.moving {
			t.Errorf("FeastText of %v, that moves: %q", c, got)
		}
		if got := impl.FeastText(c.cal, n, false); got != c.fixed {
			t.Errorf("FeastText of %v, that does not: %q", c, got)
		}
		if got := impl.FeastText(c.cal, n+1, false); got != c.fixed+"+1" {
			t.Errorf("FeastText of the day behind %v: %q", c, got)
		}
	}
}

// Of feasts of one kind the one that is ahead in order is told; FeastsOn has all, in the order of Feasts.
func TestFeastsOnIsInOrder(t *testing.T) {
	pairs := map[string]int{}
	for _, cal := range calendars {
		for y := impl.MinYear; y <= impl.MaxYear; y++ {
			for _, f := range feastRows[10:] {
				n := feastDay(cal, y, f)
				on := impl.FeastsOn(cal, n)
				if !slices.Equal(on, feastsHere(cal, y, n)) {
					t.Errorf("FeastsOn(%d, %d) = %v", cal, n, on)
				}
				if len(on) > 1 {
					pairs[strings.Join(on, " ")]++
				}
				for _, movable := range []bool{true, false} {
					at := slices.IndexFunc(on, func(name string) bool { return feastRows[impl.FindFeast(name)].Moves == movable })
					if at >= 0 && impl.FeastText(cal, n, movable) != on[at] {
						t.Errorf("FeastText(%d, %d, %v) beside %v: %q", cal, n, movable, on, impl.FeastText(cal, n, movable))
					}
				}
			}
		}
	}
	if len(pairs) < 6 {
		t.Errorf("only %v were met", pairs)
	}
}

func TestDaysAheadOfAllFeasts(t *testing.T) {
	for _, cal := range calendars {
		for y := impl.MinYear; y <= impl.MaxYear; y += 7 {
			first, start := impl.DayOf(date(cal, y, 1, 1)), feastDay(cal, y, feastRows[0])
			for n := first; n < start; n++ {
				if got := impl.FeastText(cal, n, true); got != "" {
					t.Errorf("FeastText(%d, %d, true) = %q, ahead of septuagesima", cal, n, got)
				}
			}
			if got := impl.FeastText(cal, start, true); got != "septuagesima" {
				t.Errorf("FeastText(%d, %d, true) = %q", cal, start, got)
			}
			for i, want := range []string{"", "", "", "", "", "epiphany", "epiphany+1"} {
				if got := impl.FeastText(cal, first+i, false); got != want {
					t.Errorf("FeastText(%d, %d, false) = %q, want %q", cal, first+i, got, want)
				}
			}
		}
	}
}

func TestFeastTextAtItsLimit(t *testing.T) {
	for _, cal := range calendars {
		for y := impl.MinYear; y <= impl.MaxYear; y += 3 {
			corpus := feastDay(cal, y, feastRows[9])
			for k, want := range map[int]string{-1: "trinity+3", 0: "corpus", 1: "corpus+1", 2: "corpus+2", 98: "corpus+98", 99: "corpus+99", 100: "", 101: "", 150: ""} {
				if got := impl.FeastText(cal, corpus+k, true); got != want {
					t.Errorf("FeastText(%d, %d, true) = %q, want %q", cal, corpus+k, got, want)
				}
			}
			last := impl.DayOf(date(cal, y, 12, 31))
			if moving, fixed := impl.FeastText(cal, last, true), impl.FeastText(cal, last, false); moving != "" || fixed != "christmas+6" {
				t.Errorf("FeastText(%d, %d) = %q and %q", cal, last, moving, fixed)
			}
		}
	}
}

func TestReadFeastOfEachFeast(t *testing.T) {
	for i, f := range feastRows {
		if at, k := impl.ReadFeast(f.Name); at != i || k != 0 {
			t.Errorf("ReadFeast(%q) = %d, %d", f.Name, at, k)
		}
		for k := -1; k <= 300; k++ {
			s := fmt.Sprintf("%s+%d", f.Name, k)
			wantAt, wantK := i, k
			if k < 1 || k > 99 {
				wantAt, wantK = -1, 0
			}
			if at, got := impl.ReadFeast(s); at != wantAt || got != wantK {
				t.Errorf("ReadFeast(%q) = %d, %d", s, at, got)
			}
		}
	}
}

var noFeastTexts = []string{
	"", " ", "+", "+1", "++", "1", "x", "x+1", "Easter", "EASTER+1", "easter ", " easter", "easter +1", "easter+ 1", "easter+1 ", " easter+1", "easter 1", "easter+1\n", "easter\n",
	"easter+", "easter++", "easter++1", "easter+1+", "easter+1+1", "easter+0", "easter+00", "easter+01", "easter+07", "easter+007", "easter+099", "easter+100", "easter+101", "easter+999", "easter+999999999",
	"easter+1000000000", "easter+4294967297", "easter+18446744073709551617", "easter+9223372036854775807", "easter+9223372036854775808", "easter+" + strings.Repeat("9", 300), "easter+" + strings.Repeat("0", 300) + "1",
	"easter+-1", "easter+-0", "easter-1", "easter+1.0", "easter+1e1", "easter+0x1", "easter+1_0", "easter+IV", "easter+a", "easter+\xd9\xa1", "easter+1\x00", "easter\x00", "easterpalm", "easter,palm", "easter+palm", "palm+easter+1",
	"eastera", "easte", "eas+1ter", "\xff", "\xff+1", strings.Repeat("easter", 1000), strings.Repeat("+", 1000),
}

func TestReadFeastOfNoFeast(t *testing.T) {
	for _, s := range noFeastTexts {
		if at, k := impl.ReadFeast(s); at != -1 || k != 0 {
			t.Errorf("ReadFeast(%q) = %d, %d, want -1, 0", s, at, k)
		}
		for _, cal := range calendars {
			if got := impl.FeastPlus(cal, 1300, s); got != 0 {
				t.Errorf("FeastPlus(%d, 1300, %q) = %d, want 0", cal, s, got)
			}
		}
	}
}

// Texts that are a byte away from right ones, held against the rule of them.
func TestReadFeastOfTextsBeside(t *testing.T) {
	var names []string
	for _, f := range feastRows {
		names = append(names, f.Name)
	}
	rule := regexp.MustCompile(`^(` + strings.Join(names, "|") + `)(\+([1-9][0-9]?))?$`)
	ask := func(s string) {
		wantAt, wantK := -1, 0
		if m := rule.FindStringSubmatch(s); m != nil {
			wantAt = slices.Index(names, m[1])
			wantK, _ = strconv.Atoi("0" + m[3])
		}
		if at, k := impl.ReadFeast(s); at != wantAt || k != wantK {
			t.Errorf("ReadFeast(%q) = %d, %d, want %d, %d", s, at, k, wantAt, wantK)
		}
	}
	for _, s := range []string{"ash", "ash+1", "ash+9", "ash+10", "ash+99", "palm+12", "john", "martin+30"} {
		for i := 0; i <= len(s); i++ {
			for _, c := range []byte("0123456789+-azsE \n\x00\xff") {
				ask(s[:i] + string([]byte{c}) + s[i:])
				if i < len(s) {
					ask(s[:i] + string([]byte{c}) + s[i+1:])
				}
			}
			if i < len(s) {
				ask(s[:i] + s[i+1:])
			}
		}
	}
}

func TestFeastPlusOfEachFeast(t *testing.T) {
	for _, cal := range calendars {
		for _, y := range feastYears {
			for _, f := range feastRows {
				n := feastDay(cal, y, f)
				for k := 1; k <= 99; k++ {
					s := f.Name + "+" + strconv.Itoa(k)
					if got := impl.FeastPlus(cal, y, s); got != n+k {
						t.Errorf("FeastPlus(%d, %d, %q) = %d, want %d", cal, y, s, got, n+k)
					}
				}
			}
		}
	}
}

// A feast is of the year that is asked for, whatever year the day behind it is in, be that one beyond all dates.
func TestFeastPlusIntoTheNextYear(t *testing.T) {
	cases := []struct {
		cal, y  int
		s       string
		y2      int
		m, d    int
		inThere string
	}{
		{impl.CGre, 1999, "christmas+6", 1999, 12, 31, "christmas+6"}, {impl.CGre, 1999, "christmas+7", 2000, 1, 1, ""}, {impl.CGre, 1999, "christmas+12", 2000, 1, 6, "epiphany"},
		{impl.CGre, 1999, "christmas+66", 2000, 2, 29, "candlemas+27"}, {impl.CGre, 1999, "christmas+99", 2000, 4, 2, "annunciation+8"}, {impl.CGre, 1899, "christmas+66", 1900, 3, 1, "candlemas+27"},
		{impl.CJul, 1899, "christmas+66", 1900, 2, 29, "candlemas+27"}, {impl.CJul, 1344, "saints+61", 1345, 1, 1, ""}, {impl.CJul, 1344, "michael+99", 1345, 1, 6, "epiphany"},
	}
	for _, c := range cases {
		want := impl.DayOf(date(c.cal, c.y2, c.m, c.d))
		if got := impl.FeastPlus(c.cal, c.y, c.s); got != want {
			t.Errorf("FeastPlus(%d, %d, %q) = %d, want %d", c.cal, c.y, c.s, got, want)
		}
		if got := impl.FeastText(c.cal, want, false); got != c.inThere {
			t.Errorf("FeastText(%d, %d, false) = %q, want %q", c.cal, want, got, c.inThere)
		}
	}
	for _, b := range bounds {
		for _, k := range []int{6, 7, 99} {
			if got := impl.FeastPlus(b.cal, impl.MaxYear, fmt.Sprintf("christmas+%d", k)); got != b.last-6+k {
				t.Errorf("FeastPlus(%d, MaxYear, christmas+%d) = %d, want %d", b.cal, k, got, b.last-6+k)
			}
		}
	}
}

func TestFeastsAtTheEndsOfTheDays(t *testing.T) {
	for _, b := range bounds {
		for i, want := range []string{"", "", "", "", "", "epiphany", "epiphany+1"} {
			if got := impl.FeastText(b.cal, b.first+i, false); got != want {
				t.Errorf("FeastText(%d, %d, false) = %q, want %q", b.cal, b.first+i, got, want)
			}
			if got := impl.FeastText(b.cal, b.first+i, true); got != "" {
				t.Errorf("FeastText(%d, %d, true) = %q", b.cal, b.first+i, got)
			}
		}
		if on := impl.FeastsOn(b.cal, b.first+5); !slices.Equal(on, []string{"epiphany"}) {
			t.Errorf("FeastsOn(%d, %d) = %v", b.cal, b.first+5, on)
		}
		if on := impl.FeastsOn(b.cal, b.last-6); !slices.Equal(on, []string{"christmas"}) {
			t.Errorf("FeastsOn(%d, %d) = %v", b.cal, b.last-6, on)
		}
		for _, y := range []int{impl.MinYear, impl.MaxYear} {
			n := impl.FeastPlus(b.cal, y, "septuagesima")
			d, ok := impl.DateOf(b.cal, n)
			if !ok || d.Year != y || n != impl.Easter(b.cal, y)-63 || impl.FeastText(b.cal, n, true) != "septuagesima" || impl.FeastText(b.cal, n-1, true) != "" {
				t.Errorf("septuagesima of %d of calendar %d: %v, %v", y, b.cal, d, ok)
			}
		}
	}
	// 1 and 2 January of year 1 of CJul are the days -1 and 0.
	for day, want := range map[int]int{1: -1, 2: 0, 3: 1} {
		if got := impl.FeastDay(impl.CJul, 1, impl.Feast{Name: "a", Month: 1, Day: day}); got != want {
			t.Errorf("FeastDay of %d January 1: %d, want %d", day, got, want)
		}
	}
}

func TestFeastsOfNoDay(t *testing.T) {
	ask := func(cal, n int) {
		if on := impl.FeastsOn(cal, n); len(on) != 0 {
			t.Errorf("FeastsOn(%d, %d) = %v", cal, n, on)
		}
		for _, movable := range []bool{true, false} {
			if s := impl.FeastText(cal, n, movable); s != "" {
				t.Errorf("FeastText(%d, %d, %v) = %q", cal, n, movable, s)
			}
		}
	}
	far := []int{math.MinInt, math.MinInt + 1, math.MinInt / 2, -1 << 32, -1000000, math.MaxInt, math.MaxInt - 1, math.MaxInt / 2, 1 << 32, 2000000}
	for _, b := range bounds {
		for i := 1; i <= 400; i++ {
			ask(b.cal, b.first-i)
			ask(b.cal, b.last+i)
		}
		for _, n := range far {
			ask(b.cal, n)
		}
	}
	for _, cal := range otherCalendars {
		for _, n := range append(far, -1, 0, 1, 4, 5, 6, 400, 577736, impl.Easter(impl.CGre, 2000), impl.Easter(impl.CJul, 1300), lastJul-6, lastGre-6) {
			ask(cal, n)
		}
	}
}

func TestFeastsOfNoYearOrCalendar(t *testing.T) {
	texts := []string{"septuagesima", "easter", "easter+1", "palm+99", "christmas", "christmas+99", "epiphany"}
	ask := func(cal, y int) {
		for _, f := range feastRows {
			if got := impl.FeastDay(cal, y, f); got != 0 {
				t.Errorf("FeastDay(%d, %d, %s) = %d", cal, y, f.Name, got)
			}
		}
		for _, s := range append(texts, noFeastTexts...) {
			if got := impl.FeastPlus(cal, y, s); got != 0 {
				t.Errorf("FeastPlus(%d, %d, %q) = %d", cal, y, s, got)
			}
		}
	}
	for _, y := range otherYears {
		for _, cal := range append(slices.Clone(calendars), otherCalendars...) {
			ask(cal, y)
		}
	}
	for _, cal := range otherCalendars {
		for _, y := range []int{1, 2, 1300, 2000, 3000} {
			ask(cal, y)
		}
	}
}

func TestFeastsAreNewMemory(t *testing.T) {
	early, late := impl.Feasts(), impl.Feasts()
	for i := range late {
		late[i] = impl.Feast{Name: "late"}
	}
	late = append(late, impl.Feast{Name: "more"})
	if !slices.Equal(early, feastRows) || len(late) != 21 {
		t.Errorf("a list hangs on what was written into a later one: %v", early)
	}
	again := impl.Feasts()
	for i := range early {
		early[i] = impl.Feast{Name: "early"}
	}
	if !slices.Equal(again, feastRows) || !slices.Equal(impl.Feasts(), feastRows) {
		t.Errorf("a list hangs on what was written into an earlier one: %v", again)
	}
	if impl.FindFeast("easter") != 3 || impl.FindFeast("early") != -1 || impl.FindFeast("late") != -1 {
		t.Error("FindFeast hangs on what was written into an answer")
	}
	n := impl.Easter(impl.CGre, 2000)
	one, two := impl.FeastsOn(impl.CGre, n), impl.FeastsOn(impl.CGre, n)
	one[0], two[1] = "x", "y"
	if one[1] != "george" || two[0] != "easter" || !slices.Equal(impl.FeastsOn(impl.CGre, n), []string{"easter", "george"}) {
		t.Errorf("FeastsOn hangs on what was written into an answer: %v, %v", one, two)
	}
}
