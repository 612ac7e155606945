package tests

import (
	"fmt"
	"maps"
	"math"
	"math/rand"
	"regexp"
	"slices"
	"strconv"
	"strings"
	"sync"
	"testing"

	"loop.example/g00638/impl"
)

func whenDay(m, d int) impl.When { return impl.When{Kind: impl.WDay, Month: m, Day: d} }

func whenRoman(r impl.Roman) impl.When { return impl.When{Kind: impl.WRoman, Roman: r} }

func whenFeast(name string, plus int) impl.When {
	return impl.When{Kind: impl.WFeast, Feast: name, Plus: plus}
}

// say tells a year alone, without Solar and Cal.
func say(w impl.When, y int) impl.Saying {
	return impl.Saying{When: w, Year: y, Solar: -1, Cal: -1}
}

// whenTexts has each When that there is, with its text as written out by hand.
var whenTexts = sync.OnceValue(func() map[impl.When]string {
	all := map[impl.When]string{}
	for i, month := range monthWords {
		for d := 1; d <= 31; d++ {
			all[whenDay(i+1, d)] = strconv.Itoa(d) + " " + month
		}
	}
	for text, r := range romansOfAll() {
		all[whenRoman(r)] = text
	}
	for _, f := range feastRows {
		all[whenFeast(f.Name, 0)] = f.Name
		for k := 1; k <= 99; k++ {
			all[whenFeast(f.Name, k)] = f.Name + "+" + strconv.Itoa(k)
		}
	}
	return all
})

// whensByText is the same from the texts on.
var whensByText = sync.OnceValue(func() map[string]impl.When {
	all := map[string]impl.When{}
	for w, s := range whenTexts() {
		all[s] = w
	}
	return all
})

// someWhens leaves most of the days behind feasts away.
var someWhens = sync.OnceValue(func() []impl.When {
	var list []impl.When
	for w := range whenTexts() {
		if w.Plus%17 < 2 || w.Plus == 6 || w.Plus == 7 || w.Plus >= 98 {
			list = append(list, w)
		}
	}
	slices.SortFunc(list, func(a, b impl.When) int { return strings.Compare(whenTexts()[a], whenTexts()[b]) })
	return list
})

// sayingWords is the text of a saying by hand; the empty one for what is none.
func sayingWords(s impl.Saying) string {
	if !sayingRight(s) {
		return ""
	}
	text := whenTexts()[s.When] + " " + strconv.Itoa(s.Year)
	if s.Solar != -1 {
		text += "/" + strconv.Itoa(s.Solar)
	}
	if s.Cal != -1 {
		text += " " + calWords[s.Cal]
	}
	return text
}

func sayingRight(s impl.Saying) bool {
	_, ok := whenTexts()[s.When]
	return ok && s.Year >= 1 && s.Year <= 3000 && (s.Solar == -1 || s.Solar >= 1 && s.Solar <= 3000) && (s.Cal == -1 || s.Cal == 0 || s.Cal == 1)
}

var sayingShape = regexp.MustCompile(`\A((?s).+) ([1-9][0-9]{0,3})(?:/([1-9][0-9]{0,3}))?(?: (jul|gre))?\z`)

// sayingByShape reads a text by its shape, and looks for its When among the texts of all.
func sayingByShape(text string) (impl.Saying, bool) {
	parts := sayingShape.FindStringSubmatch(text)
	if parts == nil {
		return impl.Saying{}, false
	}
	w, ok := whensByText()[parts[1]]
	s := say(w, 0)
	s.Year, _ = strconv.Atoi(parts[2])
	if parts[3] != "" {
		s.Solar, _ = strconv.Atoi(parts[3])
	}
	if parts[4] != "" {
		s.Cal = slices.Index(calWords, parts[4])
	}
	if !ok || s.Year > 3000 || s.Solar > 3000 {
		return impl.Saying{}, false
	}
	return s, true
}

// saidRegime is a regime with the days that each When can mean there, of whatever year.
type saidRegime struct {
	toldRegime
	whens map[impl.When][]int
}

// saySegments goes through a regime day by day, with readings, counts and feasts that the program did not tell.
func saySegments(r impl.Regime) saidRegime {
	x := saidRegime{toldRegime: tellRegime(r), whens: map[impl.When][]int{}}
	patched := map[int]bool{}
	for _, p := range r.Patches {
		patched[p.Day] = true
	}
	romans := map[impl.Date]impl.Roman{}
	feasts := map[[2]int][]int{}
	for _, s := range r.Segs {
		for n := s.From; n <= s.To; n++ {
			y := x.on(n)
			x.put(whenDay(y.Month, y.Day), n)
			if patched[n] {
				continue
			}
			year := [2]int{y.Cal, y.Solar}
			if feasts[year] == nil {
				for _, d := range romanWalk(y.Cal, y.Solar) {
					romans[d.d] = d.r
				}
				for _, f := range feastRows {
					feasts[year] = append(feasts[year], feastDay(y.Cal, y.Solar, f))
				}
			}
			x.put(whenRoman(romans[date(y.Cal, y.Solar, y.Month, y.Day)]), n)
			for i, day := range feasts[year] {
				if k := n + s.Off - day; k >= 0 && k <= 99 {
					x.put(whenFeast(feastRows[i].Name, k), n)
				}
			}
		}
	}
	return x
}

func (x saidRegime) put(w impl.When, n int) { x.whens[w] = append(x.whens[w], n) }

// meant tells the days that a saying can mean.
func (x saidRegime) meant(s impl.Saying) []int {
	if !sayingRight(s) {
		return nil
	}
	return slices.DeleteFunc(slices.Clone(x.whens[s.When]), func(n int) bool {
		y := x.on(n)
		return y.Year != s.Year || s.Solar != -1 && y.Solar != s.Solar || s.Cal != -1 && y.Cal != s.Cal
	})
}

// years are all that some reading has, and two more at each end.
func (x saidRegime) years() []int {
	first, last := math.MaxInt, math.MinInt
	for _, y := range x.readings {
		first, last = min(first, y.Year), max(last, y.Year)
	}
	return daysFromTo(first-2, last+2)
}

// markedSaying tells Cal where marks has 1 in it, and Solar where it has 2.
func markedSaying(w impl.When, y impl.Reading, marks int) impl.Saying {
	s := say(w, y.Year)
	if marks&1 != 0 {
		s.Cal = y.Cal
	}
	if marks&2 != 0 {
		s.Solar = y.Solar
	}
	return s
}

// sayingsOn are those that a day's own reading makes, and some beside, with other marks.
func (x saidRegime) sayingsOn(n int) []impl.Saying {
	y := x.on(n)
	var whens []impl.When
	for w, days := range x.whens {
		if slices.Contains(days, n) {
			whens = append(whens, w)
		}
	}
	slices.SortFunc(whens, func(a, b impl.When) int { return strings.Compare(whenTexts()[a], whenTexts()[b]) })
	var list []impl.Saying
	for i, w := range whens {
		s := markedSaying(w, y, (n+i)%4)
		list = append(list, s)
		s.Solar = y.Solar + 1 - i%3
		list = append(list, s)
		s.Solar, s.Cal = -1, 1-y.Cal
		list = append(list, s)
		s.Cal, s.Year = -1, y.Year+1-2*(i%2)
		list = append(list, s)
	}
	return list
}

func askWhen(t *testing.T, w impl.When) {
	t.Helper()
	want, right := whenTexts()[w]
	if got := impl.WhenOk(w); got != right {
		t.Errorf("WhenOk(%+v) = %v", w, got)
	}
	if got := impl.WhenText(w); got != want {
		t.Errorf("WhenText(%+v) = %q, want %q", w, got, want)
	}
}

// askSaying asks for the text of a saying and for the saying of its text, or for none of both.
func askSaying(t *testing.T, s impl.Saying) {
	t.Helper()
	want := sayingWords(s)
	if got := impl.SayingOk(s); got != (want != "") {
		t.Errorf("SayingOk(%+v) = %v", s, got)
	}
	if got := impl.SayingText(s); got != want {
		t.Errorf("SayingText(%+v) = %q, want %q", s, got, want)
	}
	if got, ok := impl.ReadSaying(want); want != "" && (!ok || got != s) {
		t.Errorf("ReadSaying(%q) = %+v, %v, want %+v", want, got, ok, s)
	}
}

// askReadSaying holds an answer against the shape of a text, and tells whether it is a saying's.
func askReadSaying(t *testing.T, text string) bool {
	t.Helper()
	want, right := sayingByShape(text)
	if got, ok := impl.ReadSaying(text); got != want || ok != right {
		t.Errorf("ReadSaying(%q) = %+v, %v, want %+v, %v", text, got, ok, want, right)
	}
	return right
}

func askNoSaying(t *testing.T, text string) {
	t.Helper()
	if askReadSaying(t, text) {
		t.Errorf("%q is a saying by its shape", text)
	}
	if days, ok := impl.Read(romeRegime(), text); len(days) != 0 || ok {
		t.Errorf("Read(rome, %q) = %v, %v", text, days, ok)
	}
}

func askMeans(t *testing.T, r impl.Regime, s impl.Saying, n int, want bool) {
	t.Helper()
	if got := impl.Means(r, s, n); got != want {
		t.Errorf("Means(%v, %+v, %d) = %v", r, s, n, got)
	}
}

// askDaysSaid asks for the days of a saying and of its text; what a regime means is told in order, so that a list like it ascends.
func askDaysSaid(t *testing.T, r impl.Regime, s impl.Saying, want []int) {
	t.Helper()
	if got := impl.DaysSaid(r, s); !slices.Equal(got, want) {
		t.Errorf("DaysSaid(%v, %+v) = %v, want %v", r, s, got, want)
	}
	text := sayingWords(s)
	if got, ok := impl.Read(r, text); !slices.Equal(got, want) || ok != (text != "") {
		t.Errorf("Read(%v, %q) = %v, %v, want %v", r, text, got, ok, want)
	}
}

// askEachDay asks for each day of a regime, and some beyond, whether a saying means it.
func askEachDay(t *testing.T, x saidRegime, s impl.Saying) {
	t.Helper()
	want := x.meant(s)
	askDaysSaid(t, x.Regime, s, want)
	for n := x.From - 3; n <= x.To+3; n++ {
		askMeans(t, x.Regime, s, n, slices.Contains(want, n))
	}
	for _, n := range append([]int{0, 1, -1, impl.FirstDay - 1, impl.LastDay + 1, x.From + 1<<32, -x.From}, farDays...) {
		askMeans(t, x.Regime, s, n, false)
	}
}

// askRow asks for the days that a text means, told as dates by CJul.
func askRow(t *testing.T, r impl.Regime, text string, want ...string) {
	t.Helper()
	days, ok := impl.Read(r, text)
	var got []string
	for _, n := range days {
		got = append(got, strings.TrimPrefix(dayWords(impl.CJul, n), "jul "))
	}
	if !ok || !slices.Equal(got, want) {
		t.Errorf("Read(%s, %q) = %v, %v, want %v", r.Name, text, got, ok, want)
	}
}

func TestWhenKindsAreConstants(t *testing.T) {
	if impl.WDay != 0 || impl.WRoman != 1 || impl.WFeast != 2 {
		t.Error(impl.WDay, impl.WRoman, impl.WFeast)
	}
}

// Promise 12: each When has a text, and no two have one.
func TestTextsOfAllWhens(t *testing.T) {
	all := whenTexts()
	if len(all) != 12*31+366+20*100 {
		t.Errorf("there are %d Whens", len(all))
	}
	if len(whensByText()) != len(all) {
		t.Errorf("%d Whens have %d texts", len(all), len(whensByText()))
	}
	for w := range all {
		askWhen(t, w)
	}
}

// Promise 12: each saying comes back from its text.
func TestSayingsComeBack(t *testing.T) {
	t.Parallel()
	texts := map[string]impl.Saying{}
	ask := func(s impl.Saying) {
		t.Helper()
		askSaying(t, s)
		text := impl.SayingText(s)
		if other, ok := texts[text]; ok && other != s {
			t.Errorf("%+v and %+v have the text %q", s, other, text)
		}
		texts[text] = s
	}
	for w := range whenTexts() {
		for _, cal := range []int{-1, 0, 1} {
			for _, solar := range []int{-1, 1, 1344, 1345, 1346, 3000} {
				ask(impl.Saying{When: w, Year: 1345, Solar: solar, Cal: cal})
			}
			ask(impl.Saying{When: w, Year: 1, Solar: -1, Cal: cal})
			ask(impl.Saying{When: w, Year: 3000, Solar: 3000, Cal: cal})
		}
	}
	for _, w := range []impl.When{whenDay(1, 1), whenDay(7, 31), whenRoman(impl.Roman{Count: 1, Month: 3}), whenFeast("easter", 0), whenFeast("christmas", 99)} {
		for y := 1; y <= 3000; y++ {
			for _, solar := range []int{-1, y, max(y-1, 1), min(y+1, 3000), 3001 - y} {
				ask(impl.Saying{When: w, Year: y, Solar: solar, Cal: y%3 - 1})
			}
		}
	}
}

func TestKnownSayings(t *testing.T) {
	sixth := impl.Roman{Count: 6, Mark: impl.MKal, Month: 3}
	twice := sixth
	twice.Twice = true
	known := map[string]impl.Saying{
		"1 jan 1345": say(whenDay(1, 1), 1345), "31 feb 1300": say(whenDay(2, 31), 1300), "31 dec 1": say(whenDay(12, 31), 1), "1 jul 3000": say(whenDay(7, 1), 3000),
		"1 jul 3000 jul":           {When: whenDay(7, 1), Year: 3000, Solar: -1, Cal: impl.CJul},
		"9 sep 1345/1346":          {When: whenDay(9, 9), Year: 1345, Solar: 1346, Cal: -1},
		"10 oct 1345/1345 gre":     {When: whenDay(10, 10), Year: 1345, Solar: 1345, Cal: impl.CGre},
		"kal mar 1345 jul":         {When: whenRoman(impl.Roman{Count: 1, Month: 3}), Year: 1345, Solar: -1, Cal: impl.CJul},
		"prid non jul 1345":        say(whenRoman(impl.Roman{Count: 2, Mark: impl.MNones, Month: 7}), 1345),
		"VIII id jul 1345 jul":     {When: whenRoman(impl.Roman{Count: 8, Mark: impl.MIdes, Month: 7}), Year: 1345, Solar: -1, Cal: impl.CJul},
		"VI kal mar 1344":          say(whenRoman(sixth), 1344),
		"bis VI kal mar 1344/1344": {When: whenRoman(twice), Year: 1344, Solar: 1344, Cal: -1},
		"easter 1345":              say(whenFeast("easter", 0), 1345), "easter+1 1345": say(whenFeast("easter", 1), 1345), "christmas+99 3000": say(whenFeast("christmas", 99), 3000),
		"easter+12 1345/1346 gre": {When: whenFeast("easter", 12), Year: 1345, Solar: 1346, Cal: impl.CGre},
	}
	for text, s := range known {
		if got := impl.SayingText(s); got != text || !impl.SayingOk(s) {
			t.Errorf("SayingText(%+v) = %q, want %q", s, got, text)
		}
		if got, ok := impl.ReadSaying(text); got != s || !ok {
			t.Errorf("ReadSaying(%q) = %+v, %v, want %+v", text, got, ok, s)
		}
	}
}

// A stroke between two years alike tells a Solar, which the Year alone does not: both are sayings, and mean other days.
func TestStrokeBetweenTwoYearsAlike(t *testing.T) {
	for _, y := range []int{1, 9, 10, 999, 1000, 1345, 2999, 3000} {
		year := strconv.Itoa(y)
		with := impl.Saying{When: whenDay(4, 1), Year: y, Solar: y, Cal: -1}
		for text, s := range map[string]impl.Saying{"1 apr " + year: say(whenDay(4, 1), y), "1 apr " + year + "/" + year: with} {
			if got, ok := impl.ReadSaying(text); got != s || !ok || impl.SayingText(s) != text {
				t.Errorf("ReadSaying(%q) = %+v, %v; its text is %q", text, got, ok, impl.SayingText(s))
			}
		}
	}
	paris := parisRegime()
	askRow(t, paris, "1 apr 1345", "1345-4-1", "1346-4-1")
	askRow(t, paris, "1 apr 1345/1345", "1345-4-1")
	askRow(t, paris, "1 apr 1345/1346", "1346-4-1")
	askRow(t, paris, "1 apr 1345/1344")
	askRow(t, paris, "1 feb 1345/1345")
	askRow(t, paris, "1 feb 1345", "1346-2-1")
}

// What a Kind has not must be zero, and each field of what it has is asked for.
func TestWhensThatAreNone(t *testing.T) {
	numbers := append([]int{-99, -31, -12, -6, -2, -1, 0, 1, 2, 3, 5, 6, 8, 9, 12, 13, 19, 20, 28, 29, 30, 31, 32, 99, 100, 101, 256, 257, 1<<32 + 1}, farNumbers...)
	names := []string{"", "easter", "palm", "x", "Easter", "EASTER", "easter ", " easter", "easter+1", "easter+0", "easte", "easters", "jan", "kal", "christmas", "easter\x00", "\xff", strings.Repeat("easter", 500)}
	changes := []func(*impl.When, int){
		func(w *impl.When, n int) { w.Kind = n }, func(w *impl.When, n int) { w.Month = n }, func(w *impl.When, n int) { w.Day = n }, func(w *impl.When, n int) { w.Plus = n },
		func(w *impl.When, n int) { w.Roman.Count = n }, func(w *impl.When, n int) { w.Roman.Mark = n }, func(w *impl.When, n int) { w.Roman.Month = n },
	}
	right := []impl.When{
		whenDay(1, 1), whenDay(12, 31), whenDay(2, 30), whenRoman(impl.Roman{Count: 1, Month: 1}), whenRoman(impl.Roman{Count: 6, Month: 3}), whenRoman(impl.Roman{Count: 6, Month: 3, Twice: true}),
		whenRoman(impl.Roman{Count: 19, Month: 2}), whenRoman(impl.Roman{Count: 8, Mark: impl.MIdes, Month: 12}), whenRoman(impl.Roman{Count: 6, Mark: impl.MNones, Month: 5}),
		whenFeast("easter", 0), whenFeast("corpus", 99), whenFeast("christmas", 6), {}, {Kind: impl.WRoman}, {Kind: impl.WFeast}, {Kind: 3}, {Kind: -1},
	}
	ask := func(w impl.When) {
		t.Helper()
		askWhen(t, w)
		askSaying(t, say(w, 1345))
	}
	for _, w := range right {
		ask(w)
		for i, change := range changes {
			for _, n := range numbers {
				one := w
				change(&one, n)
				ask(one)
				for _, other := range changes[:i] {
					for _, k := range []int{-1, 0, 1, 2, 3, 31, 100, math.MinInt, math.MaxInt} {
						two := one
						other(&two, k)
						ask(two)
					}
				}
			}
		}
		for _, name := range names {
			one := w
			one.Feast = name
			ask(one)
			one.Roman.Twice = !one.Roman.Twice
			ask(one)
		}
		w.Roman.Twice = !w.Roman.Twice
		ask(w)
	}
}

func TestKnownWhensThatAreNone(t *testing.T) {
	roman := impl.Roman{Count: 1, Month: 3}
	none := []impl.When{
		{}, {Kind: 3}, {Kind: 3, Month: 1, Day: 1}, {Kind: -1, Month: 1, Day: 1}, {Kind: 3, Roman: roman}, {Kind: 3, Feast: "easter"}, {Kind: math.MinInt, Month: 1, Day: 1}, {Kind: math.MaxInt, Feast: "easter"},
		{Month: 13, Day: 1}, {Month: 1, Day: 32}, {Month: 0, Day: 1}, {Month: 1}, {Month: 1, Day: -1}, {Month: -1, Day: 1},
		{Month: 1, Day: 1, Plus: 1}, {Month: 1, Day: 1, Plus: -1}, {Month: 1, Day: 1, Feast: "easter"}, {Month: 1, Day: 1, Feast: "x"}, {Month: 1, Day: 1, Roman: roman}, {Month: 1, Day: 1, Roman: impl.Roman{Twice: true}}, {Month: 1, Day: 1, Roman: impl.Roman{Mark: 1}},
		{Kind: impl.WRoman}, {Kind: impl.WRoman, Roman: roman, Month: 1}, {Kind: impl.WRoman, Roman: roman, Day: 1}, {Kind: impl.WRoman, Roman: roman, Month: 3, Day: 1}, {Kind: impl.WRoman, Roman: roman, Feast: "easter"}, {Kind: impl.WRoman, Roman: roman, Plus: 1},
		{Kind: impl.WRoman, Roman: impl.Roman{Count: 2, Mark: impl.MNones, Month: 13}}, {Kind: impl.WRoman, Roman: impl.Roman{Count: 7, Mark: impl.MNones, Month: 1}}, {Kind: impl.WRoman, Roman: impl.Roman{Count: 5, Month: 3, Twice: true}}, {Kind: impl.WRoman, Roman: impl.Roman{Count: 17, Month: 3}},
		{Kind: impl.WFeast}, {Kind: impl.WFeast, Plus: 1}, {Kind: impl.WFeast, Feast: "x"}, {Kind: impl.WFeast, Feast: "easter", Plus: 100}, {Kind: impl.WFeast, Feast: "easter", Plus: -1}, {Kind: impl.WFeast, Feast: "easter", Month: 1}, {Kind: impl.WFeast, Feast: "easter", Day: 1}, {Kind: impl.WFeast, Feast: "easter", Roman: roman}, {Kind: impl.WFeast, Feast: "easter+1"}, {Kind: impl.WFeast, Feast: "Easter"},
	}
	rome := romeRegime()
	for _, w := range none {
		if impl.WhenOk(w) || impl.WhenText(w) != "" {
			t.Errorf("%+v is a When with the text %q", w, impl.WhenText(w))
		}
		for _, y := range []int{1582, 1583} {
			s := say(w, y)
			if impl.SayingOk(s) || impl.SayingText(s) != "" {
				t.Errorf("%+v is a saying with the text %q", s, impl.SayingText(s))
			}
			askDays(t, fmt.Sprintf("DaysSaid(rome, %+v)", s), impl.DaysSaid(rome, s), nil)
			for n := rome.From; n <= rome.To; n++ {
				askMeans(t, rome, s, n, false)
			}
		}
	}
}

func TestSayingsThatAreNone(t *testing.T) {
	rome := romeRegime()
	x := saySegments(rome)
	numbers := append([]int{-3000, -1582, -3, -2, -1, 0, 1, 2, 3, 1581, 1582, 1583, 2999, 3000, 3001, 3002, 9999, 10000, 1<<32 + 1, 1<<32 + 1582}, farNumbers...)
	for _, w := range []impl.When{whenDay(11, 1), whenDay(2, 31), whenRoman(impl.Roman{Count: 1, Month: 11}), whenFeast("saints", 0), whenFeast("saints", 99), {}, {Kind: 3}} {
		for _, year := range numbers {
			for _, solar := range numbers {
				for _, cal := range append([]int{-2, -1, 0, 1, 2, 3, 256, 1<<32 - 1}, farNumbers...) {
					s := impl.Saying{When: w, Year: year, Solar: solar, Cal: cal}
					askSaying(t, s)
					askDaysSaid(t, rome, s, x.meant(s))
				}
			}
		}
	}
	day := greDay(1582, 11, 1)
	s := say(whenDay(11, 1), 1582)
	askMeans(t, rome, s, day, true)
	for _, wrong := range []impl.Saying{{When: s.When, Year: 1582}, {When: s.When, Year: 1582, Solar: 1582, Cal: -2}, {When: s.When, Year: 1582, Solar: -2, Cal: -1}, {When: s.When, Year: 1582, Solar: 0, Cal: -1}, {When: s.When, Year: 1582, Solar: 3001, Cal: -1}, {When: s.When, Year: 1582, Solar: -1, Cal: 2}, {When: s.When, Year: -1, Solar: -1, Cal: -1}, {}} {
		if impl.SayingOk(wrong) || impl.SayingText(wrong) != "" {
			t.Errorf("%+v is a saying", wrong)
		}
		for n := rome.From; n <= rome.To; n++ {
			askMeans(t, rome, wrong, n, false)
		}
	}
}

var noSayingTexts = []string{
	"", " ", "  ", "   ", "/", "+", "x", "1345", "jul", "1 jan", "1 jul", "jan 1345", "1 1345", "kal mar", "kal 1345", "easter", "easter gre", "1345 jul", "/1345", "1345/1346", "1 jan jul", "1 jul jul", "1 jul gre",
	"01 jan 1345", "00 jan 1345", "0 jan 1345", "32 jan 1345", "99 jan 1345", "-1 jan 1345", "+1 jan 1345", "1. jan 1345", "1st jan 1345", "I jan 1345", "1 Jan 1345", "1 JAN 1345", "1 january 1345", "1 ja 1345", "1 13 1345", "1 1 1345", "1 x 1345", "1-jan-1345", "1 jan-1345", "1jan 1345", "1 jan1345", "4294967297 jan 1345", "999999999 jan 1345", "1000000000 jan 1345",
	"jan 1 1345", "1345 1 jan", "1345 jan 1", "1 1345 jan", "jan 1345 1", "1345 easter", "1345 kal mar", "jul 1 jan 1345", "1 jul jan 1345", "1 jan jul 1345", "jul easter 1345", "easter jul 1345", "mar kal 1345", "kal 1345 mar", "kal mar jul 1345", "gre kal mar 1345",
	"1 jan 0", "1 jan 00", "1 jan 01345", "1 jan 3001", "1 jan 3002", "1 jan 9999", "1 jan 10000", "1 jan -1", "1 jan +1345", "1 jan -1345", "1 jan 4294968641", "1 jan 1000000000", "1 jan 18446744073709552961", "1 jan x", "1 jan MCCCXLV", "1 jan 1345.0", "1 jan 1e3", "1 jan 0x5", "1 jan 1_345",
	"1 jan 1345/", "1 jan /1345", "1 jan /", "1 jan 1345/0", "1 jan 1345/-1", "1 jan 1345/+1346", "1 jan 1345/01346", "1 jan 1345/00", "1 jan 1345/3001", "1 jan 1345/10000", "1 jan 1345/1000000000", "1 jan 1345/x", "1 jan 1345/1346/1347", "1 jan 1345//1346", "1 jan 1345/1346/", "1 jan /1345/1346", "1 jan 1345/1346/1346", "1 jan 1345 /1346", "1 jan 1345/ 1346", "1 jan 1345 / 1346", "1 jan 1345 1346", "1 jan 1345-1346", "1 jan 1345\\1346", "1/jan/1345", "1 jan/1345", "1 jan 0/1345", "1 jan 1345/ jul", "1 jan 1345/jul", "easter 1345/", "kal mar 1345/", "easter/1345", "easter 1345/gre",
	"1 jan 1345 xxx", "1 jan 1345 ", "1 jan 1345  ", "1 jan 1345 jul ", "1 jan 1345  jul", " 1 jan 1345", "  1 jan 1345", "1  jan 1345", "1 jan  1345", "1 jan 1345 jul gre", "1 jan 1345 jul jul", "1 jan 1345 gre jul", "1 jan 1345 Jul", "1 jan 1345 GRE", "1 jan 1345 ju", "1 jan 1345 julian", "1 jan 1345 jan", "1 jan 1345 0", "1 jan 1345 -1", "1 jan 1345 1", "1 jan 1345jul", "1 jan 1345/1346jul", "1 jan 1345,jul", "1 jan 1345\tjul", "1\tjan 1345", "1 jan\t1345", "1 jan 1345\n", "\n1 jan 1345", "1 jan 1345 jul\n", "1 jan\n1345", "1 jan 1345\x00", "\x001 jan 1345", "1 jan 1345\xff", "\xff 1 jan 1345",
	"easter+0 1345", "easter+00 1345", "easter+01 1345", "easter+ 1345", "easter+100 1345", "easter+999999999 1345", "easter+-1 1345", "easter++1 1345", "easter+1+1 1345", "easter +1 1345", "easter+ 1 1345", "easter 1 1345", "easter 1 jan 1345", "+1 1345", "+1 easter 1345", "1 easter 1345", "easter-1 1345", "Easter 1345", "eastern 1345", "easter+1", "easter+1345", "easter+1 jul", "easter  1345", " easter 1345", "easter 1345 ", "easter palm 1345", "easter+x 1345", "easter+IV 1345",
	"I kal mar 1345", "II kal mar 1345", "1 kal mar 1345", "2 kal mar 1345", "bis kal mar 1344", "bis V kal mar 1344", "bis bis VI kal mar 1344", "bis  VI kal mar 1344", "bis 1 jan 1345", "bis easter 1345", "prid easter 1345", "prid 1 jan 1345", "XX kal feb 1345", "XVII kal mar 1345", "VII non mar 1345", "vi kal mar 1345", "VI  kal mar 1345", "VI kal  mar 1345", "VI kal mar  1345", " VI kal mar 1345", "VI kal 1345", "VI mar 1345", "VI 1345", "kal kal mar 1345", "VI kal mar mar 1345", "VI-kal-mar 1345",
	"1 j\u00e4n 1345", "\u0661 jan 1345", "1 jan \u0661", "1\u00a0jan 1345", "1 jan\u00a01345", "1 jan 1345\u20441346", "1 jan 1345\u22151346", "e\u0430ster 1345", "easter\uff0b1 1345", "\u2165 kal mar 1345", "\u65e5 1345", "1 jan 1345 j\u00fcl", "\xff", "\x00", "\x80\x80 1345", "1 jan 13\xff45",
	strings.Repeat(" ", 20000), strings.Repeat("1", 20000), strings.Repeat("1 jan 1345 ", 3000), strings.Repeat("easter+1 ", 3000) + "1345", "1 jan " + strings.Repeat("0", 20000) + "1345", strings.Repeat("0", 20000) + "1 jan 1345", "1 jan 1345" + strings.Repeat(" jul", 5000), "1 jan 1345/" + strings.Repeat("1346", 5000), strings.Repeat("I", 20000) + " kal mar 1345", "1 jan 1345" + strings.Repeat("/", 20000),
}

func TestTextsThatAreNoSaying(t *testing.T) {
	for _, text := range noSayingTexts {
		askNoSaying(t, text)
	}
	for _, s := range noRomanTexts {
		if _, ok := whensByText()[s]; !ok {
			askNoSaying(t, s+" 1345")
			askNoSaying(t, s+" 1345/1346 jul")
		}
	}
	for _, s := range noFeastTexts {
		if _, ok := whensByText()[s]; !ok {
			askNoSaying(t, s+" 1345")
			askNoSaying(t, s+" 1345/1345 gre")
		}
	}
	for _, s := range noYearTexts {
		askReadSaying(t, "1 jan "+s)
		askReadSaying(t, "easter+1 "+s+" jul")
		askReadSaying(t, "kal mar 1345/"+s)
	}
	for _, s := range noCalendarTexts {
		if s != "" {
			askNoSaying(t, "1 jan 1345 "+s)
			askNoSaying(t, "easter 1345/1346 "+s)
		}
	}
}

// Texts of right words in right places, and of ones beside these.
func TestReadSayingOfAllWords(t *testing.T) {
	t.Parallel()
	heads := strings.Split("|1 |31 |32 |01 |bis |bis VI |VI |prid |I |+1 |1  ", "|")
	middles := strings.Split("|jan |jul |kal mar |non jul |id jul |easter |easter+1 |easter+0 |christmas+99 |christmas+100 |kal |mar kal | ", "|")
	years := strings.Split("|1|0|1345|01345|3000|3001|+5|-5|x|jan", "|")
	solars := strings.Split("|/|/1|/0|/1345|/1346|/3000|/3001|/01|/-1|/1/1|/x| /1", "|")
	cals := strings.Split("| | jul| gre| Jul| jul | jul gre| x|jul|  gre", "|")
	right := 0
	for _, head := range heads {
		for _, middle := range middles {
			for _, year := range years {
				for _, solar := range solars {
					for _, cal := range cals {
						if askReadSaying(t, head+middle+year+solar+cal) {
							right++
						}
					}
				}
			}
		}
	}
	if right < 500 {
		t.Errorf("%d texts were sayings", right)
	}
}

// Texts that are a byte away from right ones.
func TestReadSayingOfTextsBeside(t *testing.T) {
	for _, s := range []string{"1 jan 1345", "31 dec 3000 gre", "12 may 1345/1345", "28 jul 1345/1346 jul", "kal mar 1345", "bis VI kal mar 1344/1344 jul", "prid non oct 1 gre", "XIX kal feb 1300", "easter 1345", "palm+9 1345/1346", "christmas+99 2999/3000 gre", "ash+10 999 jul"} {
		t.Run(s, func(t *testing.T) {
			t.Parallel()
			for i := 0; i <= len(s); i++ {
				for c := range 256 {
					b := string([]byte{byte(c)})
					askReadSaying(t, s[:i]+b+s[i:])
					if i < len(s) {
						askReadSaying(t, s[:i]+b+s[i+1:])
					}
				}
				if i < len(s) {
					askReadSaying(t, s[:i]+s[i+1:])
				}
				askReadSaying(t, s[i:])
				askReadSaying(t, s[:i])
			}
			words := append(strings.Fields("1 31 32 0 01 jan jul gre Jul kal bis VI prid easter easter+1 easter+0 1345 1345/1346 1345/1345 3001 / + x \xff"), "", "\t", "1 jan", "kal mar")
			eachChanged(s+"\n", words, func(changed string) { askReadSaying(t, strings.TrimSuffix(changed, "\n")) })
		})
	}
}

func TestReadSayingOfAllShortTexts(t *testing.T) {
	eachText(" 1/+a", 6, func(s string) { askReadSaying(t, s) })
	eachText("1 0/", 3, func(s string) {
		for _, text := range []string{s + "1 jan 1", "1 jan" + s + "1", "1 jan 1" + s, "1 jan 1" + s + " jul", "easter" + s + "1", "easter+1" + s, "kal mar" + s + "5", "1" + s + "jan 1", s} {
			askReadSaying(t, text)
		}
	})
}

// Promise 12: what is meant in right regimes is asked day by day, and for each saying that some days of it make, and those beside.
func TestMeansOfEachDay(t *testing.T) {
	for i, r := range readingRegimes() {
		t.Run(strconv.Itoa(i)+" "+r.Name, func(t *testing.T) {
			t.Parallel()
			x := saySegments(r)
			random := rand.New(rand.NewSource(int64(i)))
			days := []int{r.From, r.To, r.From + random.Intn(r.To-r.From+1)}
			for _, p := range r.Patches {
				days = append(days, p.Day)
			}
			for _, n := range impl.Changes(r) {
				days = append(days, n-1, n)
			}
			random.Shuffle(len(days), func(a, b int) { days[a], days[b] = days[b], days[a] })
			for _, n := range days[:min(4, len(days))] {
				for _, s := range x.sayingsOn(n) {
					if random.Intn(3) == 0 {
						askEachDay(t, x, s)
					}
				}
			}
		})
	}
}

// Promise 12: each day is among the days of a saying made of its own reading, and those are just the ones that a walk tells.
func TestEachDayIsSaid(t *testing.T) {
	for i, r := range readingRegimes() {
		t.Run(strconv.Itoa(i)+" "+r.Name, func(t *testing.T) {
			t.Parallel()
			x := saySegments(r)
			for n := r.From; n <= r.To; n++ {
				y := x.on(n)
				for marks := range 4 {
					s := markedSaying(whenDay(y.Month, y.Day), y, marks)
					askMeans(t, r, s, n, true)
					askDaysSaid(t, r, s, x.meant(s))
					if !slices.Contains(impl.DaysSaid(r, s), n) {
						t.Errorf("DaysSaid(%v, %+v) has no day %d", r, s, n)
					}
				}
			}
			for w, days := range x.whens {
				n := days[len(days)/2]
				for marks := range 4 {
					s := markedSaying(w, x.on(n), marks)
					askMeans(t, r, s, n, true)
					askDaysSaid(t, r, s, x.meant(s))
				}
			}
		})
	}
}

// Promise 12 by both calendars, all styles and all Offs, each with patches and without: each When of each year.
func TestSaidByEachStyleAndOff(t *testing.T) {
	eachStyle(func(cal, style int) {
		t.Run(calWords[cal]+" "+styleWords[style], func(t *testing.T) {
			t.Parallel()
			for off := -3; off <= 3; off++ {
				for i, y := range []int{2, 1344, 1499} {
					r := oneSegment(cal, style, off, y, 950)
					if (off+style+cal+i)%2 == 0 {
						r.Patches = manyPatches(impl.DayOf(date(cal, y+1, 3, 24))-off, impl.MaxPatches)
					}
					x := saySegments(r)
					years := x.years()
					for k, w := range someWhens() {
						// Each third one here, and another third with the next Off.
						if (k+off+i)%3 != 0 {
							continue
						}
						for _, year := range years {
							s := impl.Saying{When: w, Year: year, Solar: -1, Cal: -1 + k/3%3}
							askDaysSaid(t, r, s, x.meant(s))
							s.Solar = year + k%4 - 1
							askDaysSaid(t, r, s, x.meant(s))
						}
					}
					askEachDay(t, x, say(whenDay(3, 26), y+1))
					askEachDay(t, x, say(whenRoman(impl.Roman{Count: 1, Month: 4}), y+1))
					askEachDay(t, x, say(whenFeast("annunciation", 3), y+1))
					askEachDay(t, x, say(whenFeast("christmas", 6), y+1))
				}
			}
		})
	})
}

// The whole line in twenty segments: the sayings of days around each change and at both ends, and of some between.
func TestSaidOnTheWholeLine(t *testing.T) {
	t.Parallel()
	r := wholeRegime()
	r.Patches = []impl.Patch{{Day: impl.FirstDay, Month: 2, Dom: 31}, {Day: 490904, Month: 6, Dom: 24}, {Day: impl.LastDay, Month: 4, Dom: 31}}
	x := saySegments(r)
	days := []int{r.From, r.From + 1, r.To - 1, r.To, 490903, 490904, 490905}
	for _, n := range impl.Changes(r) {
		days = append(days, n-2, n-1, n, n+1, n+2)
	}
	for n := r.From; n <= r.To; n += 30011 {
		days = append(days, n)
	}
	for i, n := range days {
		y := x.on(n)
		whens := []impl.When{whenDay(y.Month, y.Day)}
		if impl.PatchAt(r, n) < 0 {
			whens = append(whens, whenRoman(impl.RomanOf(date(y.Cal, y.Solar, y.Month, y.Day))))
		}
		for _, f := range feastRows {
			whens = append(whens, whenFeast(f.Name, i%100))
		}
		for marks := range 4 {
			for _, w := range whens {
				s := markedSaying(w, y, marks)
				askDaysSaid(t, r, s, x.meant(s))
				for by := -3; by <= 3; by++ {
					if n+by >= r.From && n+by <= r.To {
						askMeans(t, r, s, n+by, slices.Contains(x.meant(s), n+by))
					}
				}
			}
		}
	}
}

func TestKnownDaysSaid(t *testing.T) {
	paris := parisRegime()
	askRow(t, paris, "1 apr 1345", "1345-4-1", "1346-4-1")
	askRow(t, paris, "1 apr 1345 jul", "1345-4-1", "1346-4-1")
	askRow(t, paris, "1 apr 1345/1345 jul", "1345-4-1")
	askRow(t, paris, "1 apr 1345 gre")
	askRow(t, paris, "1 apr 1345/1346 gre")
	askRow(t, paris, "20 mar 1345", "1346-3-20")
	askRow(t, paris, "kal apr 1345", "1345-4-1", "1346-4-1")
	askRow(t, paris, "kal apr 1345/1346", "1346-4-1")
	askRow(t, paris, "prid kal apr 1345", "1345-3-31", "1346-3-31")
	askRow(t, paris, "kal may 1345", "1345-5-1")
	askRow(t, paris, "easter 1345", "1345-3-27")
	askRow(t, paris, "easter+3 1345", "1345-3-30")
	askRow(t, paris, "easter 1345/1346")
	askRow(t, paris, "palm 1345", "1346-4-9")
	askRow(t, paris, "palm+6 1345", "1346-4-15")
	askRow(t, paris, "palm+7 1345", "1345-3-27")
	askRow(t, paris, "annunciation+10 1345", "1345-4-4", "1346-4-4")
	askRow(t, paris, "annunciation 1345", "1346-3-25")
	askRow(t, paris, "1 feb 1343", "1344-2-1")
	askRow(t, paris, "1 feb 1400")
	rome := romeRegime()
	askRow(t, rome, "4 oct 1582", "1582-10-4")
	for d := 5; d <= 14; d++ {
		askRow(t, rome, strconv.Itoa(d)+" oct 1582")
	}
	askRow(t, rome, "15 oct 1582", "1582-10-5")
	askRow(t, rome, "15 oct 1582 gre", "1582-10-5")
	askRow(t, rome, "15 oct 1582 jul")
	askRow(t, rome, "id oct 1582", "1582-10-5")
	askRow(t, rome, "id oct 1582 jul")
	askRow(t, rome, "prid id oct 1582")
	askRow(t, rome, "IV non oct 1582", "1582-10-4")
	askRow(t, rome, "michael+5 1582", "1582-10-4")
	askRow(t, rome, "michael+6 1582")
	askRow(t, rome, "michael+16 1582", "1582-10-5")
	askRow(t, rome, "easter 1583", "1583-3-31")
	askRow(t, rome, "31 feb 1582")
}

// 24 February has a name twice in a leap year, and which year is one hangs on the calendar.
func TestSixthDayTwiceIsSaid(t *testing.T) {
	jul, gre := oneSegment(impl.CJul, impl.YJan, 0, 1499, 950), oneSegment(impl.CGre, impl.YJan, 0, 1499, 950)
	askRow(t, jul, "bis VI kal mar 1500", "1500-2-24")
	askRow(t, jul, "VI kal mar 1500", "1500-2-25")
	askRow(t, jul, "VII kal mar 1500", "1500-2-23")
	askRow(t, jul, "V kal mar 1500", "1500-2-26")
	askRow(t, jul, "bis VI kal mar 1501")
	askRow(t, jul, "VI kal mar 1501", "1501-2-24")
	askRow(t, gre, "bis VI kal mar 1500")
	askRow(t, gre, "VI kal mar 1500", "1500-2-15")
	for off := -3; off <= 3; off++ {
		r := oneSegment(impl.CJul, impl.YMarch, off, 1499, 950)
		askDaysSaid(t, r, say(whenRoman(impl.Roman{Count: 6, Month: 3, Twice: true}), 1499), []int{julDay(1500, 2, 24) - off})
		askDaysSaid(t, r, say(whenRoman(impl.Roman{Count: 6, Month: 3}), 1499), []int{julDay(1500, 2, 25) - off})
		askDaysSaid(t, r, say(whenRoman(impl.Roman{Count: 6, Month: 3}), 1500), []int{julDay(1501, 2, 24) - off})
		askDaysSaid(t, r, say(whenDay(2, 29), 1499), []int{julDay(1500, 2, 29) - off})
		askDaysSaid(t, r, say(whenDay(2, 29), 1500), nil)
	}
}

// A patch takes a day's own name, count and feast, and gives it a month and a day alone.
func TestPatchedDaysAreSaid(t *testing.T) {
	n := julDay(1345, 6, 24)
	r := impl.Regime{Name: "patched", From: n - 60, To: n + 60, Segs: []impl.Segment{span(n-60, n+60)}}
	r.Patches = []impl.Patch{{Day: n - 1, Month: 6, Dom: 24}, {Day: n, Month: 6, Dom: 26}, {Day: n + 4, Month: 6, Dom: 28}, {Day: n + 5, Month: 2, Dom: 31}, {Day: n + 6, Month: 2, Dom: 31}, {Day: n + 7, Month: 12, Dom: 25}}
	askRow(t, r, "22 jun 1345", "1345-6-22")
	askRow(t, r, "23 jun 1345")
	askRow(t, r, "24 jun 1345", "1345-6-23") // the day of that name is 26 June by its own patch
	askRow(t, r, "26 jun 1345", "1345-6-24", "1345-6-26")
	askRow(t, r, "28 jun 1345", "1345-6-28") // as without its patch, and once
	askRow(t, r, "31 feb 1345", "1345-6-29", "1345-6-30")
	askRow(t, r, "31 feb 1345/1345 jul", "1345-6-29", "1345-6-30")
	askRow(t, r, "31 feb 1345/1346")
	askRow(t, r, "31 feb 1345 gre")
	askRow(t, r, "25 dec 1345", "1345-7-1")
	for _, text := range []string{"IX kal jul", "VIII kal jul", "IV kal jul", "III kal jul", "prid kal jul", "kal jul", "john", "john+4", "john+5", "john+6", "john+7", "christmas", "VIII kal jan"} {
		askRow(t, r, text+" 1345")
	}
	askRow(t, r, "X kal jul 1345", "1345-6-22")
	askRow(t, r, "VI kal jul 1345", "1345-6-26")
	askRow(t, r, "john+1 1345", "1345-6-25")
	askRow(t, r, "john+2 1345", "1345-6-26")
	askRow(t, r, "john+8 1345", "1345-7-2")
	plain := copyRegime(r)
	plain.Patches = nil
	askRow(t, plain, "IX kal jul 1345", "1345-6-23")
	askRow(t, plain, "john 1345", "1345-6-24")
	askRow(t, plain, "IV kal jul 1345", "1345-6-28")
	askRow(t, plain, "31 feb 1345")
	sweden := swedenRegime()
	askRow(t, sweden, "30 feb 1712", "1712-2-29")
	askRow(t, sweden, "29 feb 1712", "1712-2-28")
	askRow(t, sweden, "prid kal mar 1712", "1712-2-28")
	askRow(t, sweden, "kal mar 1712", "1712-3-1") // the patched day would have been that too, by its Off
	askRow(t, sweden, "1 mar 1712", "1712-3-1")
	askRow(t, sweden, "bis VI kal mar 1712", "1712-2-23")
	askRow(t, sweden, "christmas 1711", "1711-12-24")
	askRow(t, sweden, "christmas 1712", "1712-12-25")
	askRow(t, sweden, "candlemas+28 1712", "1712-3-1") // 1 March; the patched day is none of it
	for _, r := range []impl.Regime{r, sweden} {
		x := saySegments(r)
		for w := range whenTexts() {
			askDaysSaid(t, r, say(w, x.on(r.To).Year), x.meant(say(w, x.on(r.To).Year)))
		}
	}
}

// An Off may lead a day's date out of its segment, out of the regime, or over the end of a year.
func TestSaidOverTheEndsOfSegments(t *testing.T) {
	n := julDay(1345, 12, 31)
	seg := func(from, to, style, off int) impl.Segment {
		return impl.Segment{From: from, To: to, Style: style, Off: off}
	}
	r := impl.Regime{Name: "off", From: n - 20, To: n + 20, Segs: []impl.Segment{seg(n-20, n-10, impl.YJan, -3), seg(n-9, n, impl.YJan, 3), seg(n+1, n+20, impl.YYule, -2)}}
	askRow(t, r, "8 dec 1345", "1345-12-11") // beyond the regime by its own date
	askRow(t, r, "7 dec 1345")
	askRow(t, r, "18 dec 1345", "1345-12-21")
	askRow(t, r, "19 dec 1345")
	askRow(t, r, "24 dec 1345")
	askRow(t, r, "25 dec 1345", "1345-12-22")
	askRow(t, r, "christmas 1345", "1345-12-22")
	askRow(t, r, "christmas+6 1345", "1345-12-28")
	askRow(t, r, "christmas+7 1345")
	askRow(t, r, "christmas+7 1346")
	askRow(t, r, "31 dec 1345", "1345-12-28")
	askRow(t, r, "31 dec 1346", "1346-1-2") // by YYule, of the solar year 1345
	askRow(t, r, "31 dec 1346/1345", "1346-1-2")
	askRow(t, r, "31 dec 1346/1346")
	askRow(t, r, "christmas+6 1346/1345", "1346-1-2")
	askRow(t, r, "kal jan 1346", "1345-12-29", "1346-1-3")
	askRow(t, r, "2 jan 1346", "1345-12-30", "1346-1-4")
	askRow(t, r, "IV non jan 1346", "1345-12-30", "1346-1-4")
	askRow(t, r, "epiphany 1346", "1346-1-8")
	askRow(t, r, "18 jan 1346", "1346-1-20")
	askRow(t, r, "19 jan 1346")
	x := saySegments(r)
	for w := range whenTexts() {
		for _, y := range []int{1344, 1345, 1346, 1347} {
			askDaysSaid(t, r, say(w, y), x.meant(say(w, y)))
		}
	}
}

// Days are told from the feast of their own solar year alone, whatever the year of the style.
func TestFeastsThatLeadIntoAnotherYear(t *testing.T) {
	jan := oneSegment(impl.CJul, impl.YJan, 0, 1343, 1500)
	last := map[string]int{"christmas": 6, "martin": 50, "saints": 60, "michael": 93}
	for name, k := range last {
		askDaysSaid(t, jan, say(whenFeast(name, k), 1345), []int{julDay(1345, 12, 31)})
		for plus := k + 1; plus <= 99; plus++ {
			for _, y := range []int{1344, 1345, 1346} {
				askDaysSaid(t, jan, say(whenFeast(name, plus), y), nil)
			}
		}
	}
	askRow(t, jan, "epiphany 1345", "1345-1-6")
	askRow(t, jan, "epiphany+99 1345", "1345-4-15")
	yule := oneSegment(impl.CJul, impl.YYule, 0, 1343, 1500)
	askRow(t, yule, "christmas 1346", "1345-12-25")
	askRow(t, yule, "christmas+6 1346", "1345-12-31")
	askRow(t, yule, "christmas+7 1346")
	askRow(t, yule, "christmas 1346/1346")
	lady := oneSegment(impl.CJul, impl.YLady, 0, 1343, 1500)
	askRow(t, lady, "annunciation 1345", "1345-3-25")
	askRow(t, lady, "candlemas 1345", "1346-2-2")
	askRow(t, lady, "candlemas+51 1345", "1345-3-25")
	askRow(t, lady, "candlemas+50 1345", "1346-3-24")
	askRow(t, lady, "ash 1345", "1346-3-1")
	pisa := oneSegment(impl.CJul, impl.YPisa, 0, 1343, 1500)
	askRow(t, pisa, "annunciation 1345", "1344-3-25")
	askRow(t, pisa, "easter 1345", "1344-4-4")
	sept := oneSegment(impl.CJul, impl.YSept, 0, 1343, 1500)
	askRow(t, sept, "michael 1345", "1344-9-29")
	askRow(t, sept, "christmas 1345", "1344-12-25")
	askRow(t, sept, "easter 1345", "1345-3-27")
	// By years from Easter on, a year may have no Easter Saturday, or one date twice.
	paris := oneSegment(impl.CJul, impl.YEaster, 0, 1343, 1500)
	askRow(t, paris, "easter+19 1345", "1345-4-15")
	askRow(t, paris, "15 apr 1345", "1345-4-15", "1346-4-15")
	askRow(t, paris, "16 apr 1345", "1345-4-16")
	askRow(t, paris, "26 mar 1345", "1346-3-26")
	askRow(t, paris, "27 mar 1345", "1345-3-27", "1346-3-27")
	askRow(t, paris, "2 apr 1346")
	askRow(t, paris, "IV non apr 1346")
	askRow(t, paris, "2 apr 1347", "1347-4-2")
}

// No saying means a day ahead of the regime or behind it, though the date there goes on.
func TestSaidAtTheEndsOfRegimes(t *testing.T) {
	for _, whole := range []impl.Regime{romeRegime(), parisRegime(), swedenRegime(), fullRegime(), longYearRegime()} {
		x := saySegments(whole)
		for _, first := range []int{whole.From + 5, whole.From + 40} {
			for _, last := range []int{first, first + 1, whole.To - 7} {
				r := copyRegime(whole)
				r.From, r.To = first, last
				r.Segs = slices.DeleteFunc(r.Segs, func(s impl.Segment) bool { return s.To < first || s.From > last })
				r.Segs[0].From, r.Segs[len(r.Segs)-1].To = first, last
				r.Patches = slices.DeleteFunc(r.Patches, func(p impl.Patch) bool { return p.Day < first || p.Day > last })
				askRegimeOk(t, "cut", r, true)
				for _, n := range []int{first - 1, first, last, last + 1} {
					for _, s := range x.sayingsOn(n) {
						want := slices.DeleteFunc(x.meant(s), func(n int) bool { return n < first || n > last })
						askDaysSaid(t, r, s, want)
						for _, day := range []int{first - 1, first, last, last + 1} {
							askMeans(t, r, s, day, slices.Contains(want, day))
						}
					}
				}
			}
		}
	}
}

// The line ends within the years that a saying may tell; by the styles its first days are of year 1 or 2, its last ones of 2984 .. 2986.
func TestSaidAtTheEndsOfTheLine(t *testing.T) {
	t.Parallel()
	eachStyle(func(cal, style int) {
		for off := -3; off <= 3; off++ {
			for _, ends := range [][2]int{{impl.FirstDay, impl.FirstDay}, {impl.LastDay, impl.LastDay}, {impl.FirstDay, impl.FirstDay + 400}, {impl.LastDay - 400, impl.LastDay}} {
				r := impl.Regime{Name: "ends", From: ends[0], To: ends[1], Segs: []impl.Segment{{From: ends[0], To: ends[1], Cal: cal, Style: style, Off: off}}}
				x := saySegments(r)
				for _, n := range ends {
					for _, s := range x.sayingsOn(n) {
						askDaysSaid(t, r, s, x.meant(s))
						askMeans(t, r, s, n, slices.Contains(x.meant(s), n))
						askMeans(t, r, s, ends[0]-1, false)
						askMeans(t, r, s, ends[1]+1, false)
					}
				}
				for k := off + 3; k < len(someWhens()); k += 11 {
					w := someWhens()[k]
					for _, y := range []int{1, 2, 3, 2984, 2985, 2986, 2999, 3000} {
						s := say(w, y)
						askDaysSaid(t, r, s, x.meant(s))
						s.Solar = max(1, y-1+k%3)
						askDaysSaid(t, r, s, x.meant(s))
					}
				}
			}
		}
	})
	first := evenRegime(impl.FirstDay, 1, 1)
	first.Segs[0] = impl.Segment{From: impl.FirstDay, To: impl.FirstDay, Style: impl.YMarch}
	askRow(t, first, "6 feb 1", "2-2-6")
	askRow(t, first, "6 feb 1/2 jul", "2-2-6")
	askRow(t, first, "6 feb 1/1")
	askRow(t, first, "VIII id feb 1", "2-2-6")
	askRow(t, first, "candlemas+4 1", "2-2-6")
	askRow(t, first, "6 feb 2")
	askRow(t, first, "6 feb 3000")
	askRow(t, first, "6 feb 1/3000")
}

// A regime that is not right has no days of any saying, wherever it is wrong.
func TestSaidInWrongRegimes(t *testing.T) {
	full := fullRegime()
	x := saySegments(full)
	var sayings []impl.Saying
	for _, n := range []int{600000, 600001, 600050, 600100, 600101, 600250, 600399, 600400} {
		list := x.sayingsOn(n)
		sayings = append(sayings, list[0], list[len(list)-4])
	}
	for _, s := range sayings {
		if len(x.meant(s)) == 0 {
			t.Errorf("%+v means no day of the right regime", s)
		}
		askDaysSaid(t, full, s, x.meant(s))
	}
	for _, r := range wrongRegimes() {
		askRegimeOk(t, "wrong", r, false)
		for _, s := range sayings {
			askDays(t, fmt.Sprintf("DaysSaid(%v, %+v)", r, s), impl.DaysSaid(r, s), nil)
			if days, ok := impl.Read(r, sayingWords(s)); len(days) != 0 || ok {
				t.Errorf("Read(%v, %q) = %v, %v", r, sayingWords(s), days, ok)
			}
			for _, n := range append([]int{600000, 600100, 600101, 600400, r.From, r.To}, append(x.meant(s), farNumbers...)...) {
				askMeans(t, r, s, n, false)
			}
		}
		for _, s := range []impl.Saying{{}, say(impl.When{}, 1643), say(impl.When{Kind: 3}, 1643)} {
			askDays(t, "DaysSaid of none", impl.DaysSaid(r, s), nil)
			askMeans(t, r, s, 600000, false)
		}
		for _, text := range []string{"", "x", "1 jan", "1 jan 1643/"} {
			if days, ok := impl.Read(r, text); len(days) != 0 || ok {
				t.Errorf("Read(%v, %q) = %v, %v", r, text, days, ok)
			}
		}
	}
}

// What is a saying is read as true, though no day is meant; what is none as false, though its regime is right.
func TestReadTellsWhetherItIsOne(t *testing.T) {
	for _, r := range readingRegimes()[:12] {
		for _, text := range []string{"1 jan 3000", "31 feb 1", "kal mar 3000/1 gre", "easter+99 2999"} {
			if days, ok := impl.Read(r, text); len(days) != 0 || !ok {
				t.Errorf("Read(%s, %q) = %v, %v", r.Name, text, days, ok)
			}
		}
		x, _ := impl.ReadingOf(r, r.From)
		right := fmt.Sprintf("%d %s %d", x.Day, monthWords[x.Month-1], x.Year)
		if days, ok := impl.Read(r, right); len(days) == 0 || !ok {
			t.Errorf("Read(%s, %q) = %v, %v", r.Name, right, days, ok)
		}
		for _, text := range []string{"", " " + right, right + " ", right + "/", right + " x", "0" + right, "+" + right, right + "\n"} {
			if days, ok := impl.Read(r, text); len(days) != 0 || ok {
				t.Errorf("Read(%s, %q) = %v, %v", r.Name, text, days, ok)
			}
		}
	}
}

// Nothing is written into a regime, nor into the spare room behind its lists.
func TestSayingsLeaveTheirArguments(t *testing.T) {
	room := fullRegime()
	kept := copyRegime(room)
	cut := room
	cut.Segs, cut.Patches, cut.Reigns, cut.To = room.Segs[:3], room.Patches[:2], room.Reigns[:2], 600299
	for _, r := range []impl.Regime{room, cut} {
		x := saySegments(r)
		for w := range whenTexts() {
			for _, y := range []int{1642, 1643, 1644} {
				s := say(w, y)
				askDaysSaid(t, r, s, x.meant(s))
				askMeans(t, r, s, 600100, slices.Contains(x.meant(s), 600100))
			}
		}
		askSame(t, "the argument", room, kept, true)
	}
}

func TestSaidAnswersAreNewMemory(t *testing.T) {
	r := fullRegime()
	x := saySegments(r)
	for _, w := range slices.Collect(maps.Keys(x.whens)) {
		for _, marks := range []int{0, 3} {
			s := markedSaying(w, x.on(x.whens[w][0]), marks)
			first := impl.DaysSaid(r, s)
			read, _ := impl.Read(r, sayingWords(s))
			for _, list := range [][]int{first, read} {
				for i := range list[:cap(list)] {
					list[:cap(list)][i] = -1
				}
			}
			askDaysSaid(t, r, s, x.meant(s))
			askSame(t, "the argument", r, fullRegime(), true)
		}
	}
}
