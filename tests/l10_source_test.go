package tests

import (
	"fmt"
	"math"
	"math/rand"
	"regexp"
	"slices"
	"strconv"
	"strings"
	"testing"

	"loop.example/g00638/impl"
)

var calWords = []string{"jul", "gre"}

var monthWords = strings.Fields("jan feb mar apr may jun jul aug sep oct nov dec")

var compWords = []string{"ok", "big", "syntax", "overlap", "hole", "other"}

// A source of one year in two halves, and its parts.
const (
	headSource = "regime a\nrange jul 1300-1-1 jul 1300-12-31\n"
	halfOne    = "use jul jan jul 1300-1-1 jul 1300-6-30\n"
	halfTwo    = "use gre lady jul 1300-7-1 jul 1300-12-31\n"
	rightYear  = headSource + halfOne + halfTwo
)

// longSource has lines of all kinds, dates of both calendars, and nothing in the order in which it is shown.
const longSource = `regime sweden
range jul 1711-12-1 gre 1713-1-11
rule style
reign karl gre 1700-1-1 jul 1712-6-30
patch jul 1712-2-29 feb 30
use jul jan jul 1712-3-1 jul 1712-12-31
reign anna jul 1600-2-29 gre 1690-2-28
use gre easter jul 1711-12-1 jul 1712-2-29 +1
patch gre 1712-1-1 dec 9
`

const longNormal = `regime sweden
range jul 1711-12-1 jul 1712-12-31
use gre easter jul 1711-12-1 jul 1712-2-29 +1
use jul jan jul 1712-3-1 jul 1712-12-31
patch jul 1711-12-21 dec 9
patch jul 1712-2-29 feb 30
reign anna jul 1600-2-29 jul 1690-2-18
reign karl jul 1699-12-22 jul 1712-6-30
rule style
`

// dateWords is DateText by hand.
func dateWords(d impl.Date) string {
	return calWords[d.Cal] + " " + strconv.Itoa(d.Year) + "-" + strconv.Itoa(d.Month) + "-" + strconv.Itoa(d.Day)
}

// dayWords tells a day by a calendar that has it.
func dayWords(cal, n int) string {
	d, ok := impl.DateOf(cal, n)
	if !ok {
		panic(fmt.Sprint("day ", n, " is in no calendar ", cal))
	}
	return dateWords(d)
}

// handLines are the lines of a source, each with a newline, the dates by the calendars that cal tells in turn.
func handLines(r impl.Regime, cal func() int) []string {
	day := func(n int) string { return dayWords(cal(), n) }
	lines := []string{"regime " + r.Name + "\n", fmt.Sprintf("range %s %s\n", day(r.From), day(r.To))}
	for _, s := range r.Segs {
		tail := ""
		if s.Off != 0 {
			tail = fmt.Sprintf(" %+d", s.Off)
		}
		lines = append(lines, fmt.Sprintf("use %s %s %s %s%s\n", calWords[s.Cal], styleWords[s.Style], day(s.From), day(s.To), tail))
	}
	for _, p := range r.Patches {
		lines = append(lines, fmt.Sprintf("patch %s %s %d\n", day(p.Day), monthWords[p.Month-1], p.Dom))
	}
	for _, x := range r.Reigns {
		lines = append(lines, fmt.Sprintf("reign %s %s %s\n", x.Name, day(x.From), day(x.To)))
	}
	if r.Rule == impl.RStyle {
		lines = append(lines, "rule style\n")
	}
	return lines
}

func byJul() int { return impl.CJul }

func byGre() int { return impl.CGre }

// byBoth tells both calendars in turn.
func byBoth() func() int {
	n := 0
	return func() int {
		n++
		return n % 2
	}
}

// sourceRegimes are right ones of many kinds: each calendar, style and Off, both rules, with patches and reigns and without.
func sourceRegimes() []impl.Regime {
	list := rightRegimes()
	eachStyle(func(cal, style int) {
		for off := -3; off <= 3; off++ {
			r := evenRegime(490000+17*off, 40, 1+(off+3)%4)
			at := (off + 3) % len(r.Segs)
			r.Segs[at].Cal, r.Segs[at].Style, r.Segs[at].Off = cal, style, off
			for kind := range 8 {
				c := copyRegime(r)
				c.Rule = kind % 2
				if kind/2%2 == 1 {
					c.Patches = manyPatches(c.From+kind, 1+kind)
				}
				if kind/4 == 1 {
					c.Reigns = slices.Clone(englishReigns)
				}
				list = append(list, c)
			}
		}
	})
	for _, table := range rightTables {
		r := parisRegime()
		r.Reigns = table
		list = append(list, r)
	}
	return list
}

// Shapes of lines, DATE as a text of three numbers.
var (
	dateShape   = `(?:jul|gre) [1-9][0-9]*-[1-9][0-9]*-[1-9][0-9]*`
	regimeShape = lineShape(`regime ([a-z]{1,16})`)
	rangeShape  = lineShape(`range (DATE) (DATE)`)
	useShape    = lineShape(`use (jul|gre) (jan|march|lady|pisa|easter|sept|yule) (DATE) (DATE)(?: ([+-][123]))?`)
	patchShape  = lineShape(`patch (DATE) (jan|feb|mar|apr|may|jun|jul|aug|sep|oct|nov|dec) (0|[1-9][0-9]{0,8})`)
	reignShape  = lineShape(`reign ([a-z]{1,16}) (DATE) (DATE)`)
	ruleShape   = lineShape(`rule (day|style)`)
	useStart    = regexp.MustCompile(`(?m)^use `)
)

func lineShape(s string) *regexp.Regexp {
	return regexp.MustCompile(`\A` + strings.ReplaceAll(s, "DATE", dateShape) + `\z`)
}

// shapeReader goes by shapes, and keeps in mind whether anything was wrong.
type shapeReader struct {
	r     impl.Regime
	rules int
	wrong bool
}

func (x *shapeReader) day(s string) int {
	words := strings.FieldsFunc(s, func(c rune) bool { return c == ' ' || c == '-' })
	var numbers [3]int
	for i := range numbers {
		n, err := strconv.Atoi(words[i+1])
		x.wrong = x.wrong || err != nil
		numbers[i] = n
	}
	d := date(slices.Index(calWords, words[0]), numbers[0], numbers[1], numbers[2])
	x.wrong = x.wrong || !impl.DateOk(d)
	return impl.DayOf(d)
}

func (x *shapeReader) head(lines []string) {
	if len(lines) < 2 {
		x.wrong = true
		return
	}
	name, days := regimeShape.FindStringSubmatch(lines[0]), rangeShape.FindStringSubmatch(lines[1])
	if name == nil || days == nil {
		x.wrong = true
		return
	}
	x.r.Name, x.r.From, x.r.To = name[1], x.day(days[1]), x.day(days[2])
}

func (x *shapeReader) line(s string) {
	if m := useShape.FindStringSubmatch(s); m != nil {
		off, _ := strconv.Atoi(m[5])
		x.r.Segs = append(x.r.Segs, impl.Segment{From: x.day(m[3]), To: x.day(m[4]), Cal: slices.Index(calWords, m[1]), Style: slices.Index(styleWords, m[2]), Off: off})
	} else if m := patchShape.FindStringSubmatch(s); m != nil {
		dom, _ := strconv.Atoi(m[3])
		x.r.Patches = append(x.r.Patches, impl.Patch{Day: x.day(m[1]), Month: slices.Index(monthWords, m[2]) + 1, Dom: dom})
	} else if m := reignShape.FindStringSubmatch(s); m != nil {
		x.r.Reigns = append(x.r.Reigns, impl.Reign{Name: m[1], From: x.day(m[2]), To: x.day(m[3])})
	} else if m := ruleShape.FindStringSubmatch(s); m != nil {
		x.r.Rule = slices.Index([]string{"day", "style"}, m[1])
		x.rules++
	} else {
		x.wrong = true
	}
}

// compileByShape is Compile by shapes of lines.
func compileByShape(s string) (impl.Regime, int) {
	if len(s) > 6000 || len(useStart.FindAllString(s, -1)) > 20 {
		return impl.Regime{}, impl.CompBig
	}
	body, ended := strings.CutSuffix(s, "\n")
	lines := strings.Split(body, "\n")
	x := shapeReader{wrong: !ended}
	x.head(lines)
	for _, line := range lines[min(2, len(lines)):] {
		x.line(line)
	}
	if x.wrong || x.rules > 1 {
		return impl.Regime{}, impl.CompSyntax
	}
	slices.SortStableFunc(x.r.Segs, func(a, b impl.Segment) int { return a.From - b.From })
	slices.SortStableFunc(x.r.Patches, func(a, b impl.Patch) int { return a.Day - b.Day })
	slices.SortStableFunc(x.r.Reigns, func(a, b impl.Reign) int { return a.From - b.From })
	switch tilesByEnds(x.r.From, x.r.To, x.r.Segs) {
	case impl.TileOverlap:
		return impl.Regime{}, impl.CompOverlap
	case impl.TileHole:
		return impl.Regime{}, impl.CompHole
	}
	if !impl.RegimeOk(x.r) {
		return impl.Regime{}, impl.CompOther
	}
	return x.r, impl.CompOk
}

// askCompile asks for a regime and a code, and for what Normal makes of it.
func askCompile(t *testing.T, s string, r impl.Regime, code int) {
	t.Helper()
	got, gotCode := impl.Compile(s)
	if gotCode != code || !impl.SameRegime(got, r) {
		t.Errorf("Compile(%q) = %v, %d, want %v, %d", s, got, gotCode, r, code)
	}
	if impl.RegimeOk(got) != (gotCode == impl.CompOk) {
		t.Errorf("Compile(%q) = %v, %d, which is right: %v", s, got, gotCode, impl.RegimeOk(got))
	}
	want := ""
	if code == impl.CompOk {
		want = strings.Join(handLines(r, byJul), "")
	}
	if got := impl.Normal(s); got != want {
		t.Errorf("Normal(%q) = %q, want %q", s, got, want)
	}
}

// askCode asks for a code that refuses.
func askCode(t *testing.T, s string, code int) {
	t.Helper()
	askCompile(t, s, impl.Regime{}, code)
}

// askByShape asks for what the shapes of its lines tell of a text, and tells the code.
func askByShape(t *testing.T, s string) int {
	t.Helper()
	r, code := compileByShape(s)
	askCompile(t, s, r, code)
	return code
}

func askReadDate(t *testing.T, cal, s string, want impl.Date, ok bool) {
	t.Helper()
	if got, gotOk := impl.ReadDate(cal, s); got != want || gotOk != ok {
		t.Errorf("ReadDate(%q, %q) = %v, %v, want %v, %v", cal, s, got, gotOk, want, ok)
	}
}

func TestSourceConstants(t *testing.T) {
	if impl.MaxSource != 6000 {
		t.Error(impl.MaxSource)
	}
	codes := []int{impl.CompOk, impl.CompBig, impl.CompSyntax, impl.CompOverlap, impl.CompHole, impl.CompOther}
	if !slices.Equal(codes, []int{0, 1, 2, 3, 4, 5}) {
		t.Error(codes)
	}
}

func TestCompTexts(t *testing.T) {
	for code, want := range compWords {
		if got := impl.CompText(code); got != want {
			t.Errorf("CompText(%d) = %q, want %q", code, got, want)
		}
	}
	for _, code := range append([]int{-1, -2, -5, 6, 7, 255, 256, 1<<32 + 1}, farNumbers...) {
		if got := impl.CompText(code); got != "" {
			t.Errorf("CompText(%d) = %q", code, got)
		}
	}
}

// Each date of a calendar, read by its own name and by that of the other one.
func TestDateTextsOfAllDates(t *testing.T) {
	for cal, other := range []int{impl.CGre, impl.CJul} {
		t.Run(calWords[cal], func(t *testing.T) {
			t.Parallel()
			for d := date(cal, 1, 1, 1); d.Year <= 3000; d = nextDate(d) {
				want := dateWords(d)
				text := impl.DateText(d)
				if text != want {
					t.Fatalf("DateText(%v) = %q, want %q", d, text, want)
				}
				askReadDate(t, calWords[cal], text[4:], d, true)
				twin, has := date(other, d.Year, d.Month, d.Day), d.Month != 2 || d.Day < 29 || leapByBig(other, d.Year)
				if !has {
					twin = impl.Date{}
				}
				askReadDate(t, calWords[other], text[4:], twin, has)
			}
		})
	}
}

func TestDateTextsOfWhatIsNoDate(t *testing.T) {
	numbers := append([]int{-1, 0, 1, 2, 12, 13, 28, 29, 30, 31, 32, 1300, 1900, 3000, 3001}, farNumbers...)
	for _, cal := range append([]int{impl.CJul, impl.CGre}, otherCalendars...) {
		for _, y := range numbers {
			for _, m := range numbers {
				for _, d := range numbers {
					x, want := date(cal, y, m, d), ""
					if impl.DateOk(x) {
						want = dateWords(x)
					}
					if got := impl.DateText(x); got != want {
						t.Fatalf("DateText(%v) = %q, want %q", x, got, want)
					}
				}
			}
		}
	}
	for _, d := range []impl.Date{{}, date(impl.CGre, 1900, 2, 29), date(impl.CJul, 1900, 2, 30), date(impl.CJul, 1301, 2, 29), date(impl.CGre, 2000, 4, 31), date(impl.CJul, 0, 1, 1), date(impl.CJul, 3001, 1, 1)} {
		if got := impl.DateText(d); got != "" {
			t.Errorf("DateText(%v) = %q", d, got)
		}
	}
}

func TestKnownDateTexts(t *testing.T) {
	known := map[string]impl.Date{
		"jul 1-1-1": date(impl.CJul, 1, 1, 1), "gre 1-1-1": date(impl.CGre, 1, 1, 1), "jul 9-9-9": date(impl.CJul, 9, 9, 9), "jul 10-10-10": date(impl.CJul, 10, 10, 10), "gre 3000-12-31": date(impl.CGre, 3000, 12, 31), "jul 3000-12-31": date(impl.CJul, 3000, 12, 31),
		"jul 1900-2-29": date(impl.CJul, 1900, 2, 29), "gre 2000-2-29": date(impl.CGre, 2000, 2, 29), "gre 1582-10-15": date(impl.CGre, 1582, 10, 15), "jul 999-1-31": date(impl.CJul, 999, 1, 31),
	}
	for text, d := range known {
		if got := impl.DateText(d); got != text {
			t.Errorf("DateText(%v) = %q, want %q", d, got, text)
		}
		askReadDate(t, text[:3], text[4:], d, true)
	}
}

var noDateTexts = []string{
	"", "-", "--", "---", "1", "1-1", "1-1-", "-1-1", "1--1", "1-1-1-", "-1-1-1", "1-1-1-1", "1--1-1", "1-1--1", "1-1-1--", "1 -1-1", "1- 1-1", " 1-1-1", "1-1-1 ", "1-1-1\n", "\n1-1-1", "1-1-1\x00", "\t1-1-1", "1-\t1-1",
	"01-1-1", "1-01-1", "1-1-01", "1900-01-1", "1900-1-01", "01900-1-1", "0-1-1", "1-0-1", "1-1-0", "0-0-0", "00-1-1", "+1-1-1", "1-+1-1", "1-1-+1", "-1--1--1", "1.1.1", "1/1/1", "1,1,1", "1-1.1", "1_1_1", "1-jan-1", "jan 1-1-1", "jul 1-1-1", "gre 1-1-1",
	"1300-13-1", "1300-12-32", "1300-4-31", "1301-2-29", "1300-2-30", "3001-1-1", "10000-1-1", "999999999-1-1", "1000000000-1-1", "1-999999999-1", "1-1-999999999", "1-1-1000000000", "1-4294967297-1", "4294967297-1-1", "18446744073709551617-1-1", "1-18446744073709551617-1", "1-1-18446744073709551617",
	"1e3-1-1", "0x1-1-1", "1_0-1-1", "\u0661-1-1", "1\u20131\u20131", "\xff-1-1", "1-1-\xff", "a-b-c", "1300-1-1a", "a1300-1-1", "1300-1-1 jul", "1300", "13000101",
	strings.Repeat("-", 70000), strings.Repeat("1", 70000) + "-1-1", "1-" + strings.Repeat("1", 70000) + "-1", "1-1-" + strings.Repeat("1", 70000), strings.Repeat("0", 70000) + "1-1-1", strings.Repeat("1-1-1-", 10000),
}

var noCalendarTexts = []string{"", " ", "j", "ju", "jull", "greg", "gr", "Jul", "JUL", "Gre", "GRE", "jul ", " jul", "jul\n", "gre\x00", "jan", "0", "1", "-1", "x", "julgre", "jul gre", "gr\u00e9", "\xff", "jul 1-1-1", strings.Repeat("jul", 30000)}

func TestReadDateOfWhatIsNone(t *testing.T) {
	for _, text := range noDateTexts {
		for _, cal := range calWords {
			askReadDate(t, cal, text, impl.Date{}, false)
		}
	}
	askReadDate(t, "gre", "1900-2-29", impl.Date{}, false)
	askReadDate(t, "gre", "1300-2-29", impl.Date{}, false)
	askReadDate(t, "jul", "1300-2-29", date(impl.CJul, 1300, 2, 29), true)
	for _, cal := range noCalendarTexts {
		for _, text := range []string{"1-1-1", "1300-1-1", "2000-2-29", "3000-12-31", "", "x"} {
			askReadDate(t, cal, text, impl.Date{}, false)
		}
	}
}

// All texts of few signs, held against a shape.
func TestReadDateOfAllSmallTexts(t *testing.T) {
	t.Parallel()
	shape := regexp.MustCompile(`\A([1-9][0-9]{0,3})-([1-9][0-9]?)-([1-9][0-9]?)\z`)
	ask := func(s string) {
		for cal, name := range calWords {
			want := impl.Date{}
			if m := shape.FindStringSubmatch(s); m != nil {
				y, _ := strconv.Atoi(m[1])
				month, _ := strconv.Atoi(m[2])
				d, _ := strconv.Atoi(m[3])
				want = date(cal, y, month, d)
			}
			ok := impl.DateOk(want)
			if !ok {
				want = impl.Date{}
			}
			askReadDate(t, name, s, want, ok)
		}
	}
	eachText("0123-", 7, ask)
	eachText("29-", 9, ask)
	eachText("1- +", 6, ask)
}

// Promise 10: a regime comes back from its source, which is the same again.
func TestRegimesComeBackFromTheirSources(t *testing.T) {
	for _, r := range sourceRegimes() {
		kept := copyRegime(r)
		want := strings.Join(handLines(r, byJul), "")
		text := impl.ShowRegime(r)
		if text != want {
			t.Fatalf("ShowRegime(%v) = %q, want %q", r, text, want)
		}
		askCompile(t, text, r, impl.CompOk)
		if back, _ := impl.Compile(text); impl.ShowRegime(back) != text {
			t.Errorf("%q is shown as %q", text, impl.ShowRegime(back))
		}
		if impl.Normal(impl.Normal(text)) != text {
			t.Errorf("Normal of Normal of %q is %q", text, impl.Normal(impl.Normal(text)))
		}
		askSame(t, "the argument", r, kept, true)
	}
}

// The fullest regime that there may be has a source within MaxSource, and comes back too.
func TestTheFullestRegimeComesBack(t *testing.T) {
	r := evenRegime(impl.LastDay-1999, 100, impl.MaxSegs)
	r.Name, r.Rule = "abcdefghijklmnop", impl.RStyle
	for i := range r.Segs {
		r.Segs[i].Style, r.Segs[i].Off = impl.YEaster, -3
	}
	for i := range impl.MaxPatches {
		r.Patches = append(r.Patches, impl.Patch{Day: r.To - impl.MaxPatches + 1 + i, Month: 12, Dom: 31})
	}
	for i := range impl.MaxReigns {
		r.Reigns = append(r.Reigns, impl.Reign{Name: fmt.Sprintf("abcdefghijklmn%c%c", 'a'+i/26, 'a'+i%26), From: r.From + 60*i, To: r.From + 60*i + 59})
	}
	text := impl.ShowRegime(r)
	if text != strings.Join(handLines(r, byJul), "") || len(text) > impl.MaxSource {
		t.Fatalf("ShowRegime(%v) = %q", r, text)
	}
	askCompile(t, text, r, impl.CompOk)
}

func TestKnownSources(t *testing.T) {
	if got, want := impl.ShowRegime(romeRegime()), "regime rome\nrange jul 1582-1-1 jul 1583-12-21\nuse jul jan jul 1582-1-1 jul 1582-10-4\nuse gre jan jul 1582-10-5 jul 1583-12-21\n"; got != want {
		t.Errorf("rome is %q", got)
	}
	if got, want := impl.ShowRegime(parisRegime()), "regime paris\nrange jul 1344-1-1 jul 1347-12-31\nuse jul easter jul 1344-1-1 jul 1347-12-31\n"; got != want {
		t.Errorf("paris is %q", got)
	}
	from, n, to := julDay(1711, 12, 1), julDay(1712, 2, 29), julDay(1712, 12, 31)
	sweden := impl.Regime{
		Name: "sweden", From: from, To: to, Segs: []impl.Segment{{From: from, To: n, Cal: impl.CGre, Style: impl.YEaster, Off: 1}, {From: n + 1, To: to}},
		Patches: []impl.Patch{{Day: greDay(1712, 1, 1), Month: 12, Dom: 9}, {Day: n, Month: 2, Dom: 30}},
		Reigns:  []impl.Reign{{Name: "anna", From: julDay(1600, 2, 29), To: greDay(1690, 2, 28)}, {Name: "karl", From: greDay(1700, 1, 1), To: julDay(1712, 6, 30)}}, Rule: impl.RStyle,
	}
	askCompile(t, longSource, sweden, impl.CompOk)
	if got := impl.Normal(longSource); got != longNormal {
		t.Errorf("Normal(%q) = %q", longSource, got)
	}
	if got := impl.Normal(longNormal); got != longNormal {
		t.Errorf("Normal(%q) = %q", longNormal, got)
	}
	if got := impl.ShowRegime(sweden); got != longNormal {
		t.Errorf("ShowRegime(%v) = %q", sweden, got)
	}
}

// The dates of a source may be told by either calendar.
func TestSourcesByTheOtherCalendar(t *testing.T) {
	for _, r := range sourceRegimes() {
		for _, cal := range []func() int{byGre, byBoth()} {
			askCompile(t, strings.Join(handLines(r, cal), ""), r, impl.CompOk)
		}
	}
}

// eachOrder calls f with lines in all orders.
func eachOrder(lines []string, f func([]string)) {
	var grow func(list, rest []string)
	grow = func(list, rest []string) {
		if len(rest) == 0 {
			f(list)
		}
		for i := range rest {
			grow(append(slices.Clone(list), rest[i]), slices.Delete(slices.Clone(rest), i, i+1))
		}
	}
	grow(nil, lines)
}

// Promise 10: use, patch, reign and rule lines may stand in any order.
func TestSourcesInAllOrders(t *testing.T) {
	t.Parallel()
	small := evenRegime(600000, 5, 2)
	small.Patches = manyPatches(600003, 2)
	small.Reigns = []impl.Reign{{Name: "b", From: 500, To: 600}, {Name: "a", From: 601, To: 700000}}
	small.Rule = impl.RStyle
	for _, r := range []impl.Regime{small, romeRegime(), parisRegime(), evenRegime(600000, 1, 5)} {
		lines := handLines(r, byBoth())
		eachOrder(lines[2:], func(body []string) {
			askCompile(t, lines[0]+lines[1]+strings.Join(body, ""), r, impl.CompOk)
		})
	}
}

func TestSourcesInMixedOrders(t *testing.T) {
	t.Parallel()
	random := rand.New(rand.NewSource(1345))
	for _, r := range sourceRegimes() {
		lines := handLines(r, byBoth())
		body := slices.Clone(lines[2:])
		for range 4 {
			random.Shuffle(len(body), func(i, j int) { body[i], body[j] = body[j], body[i] })
			askCompile(t, lines[0]+lines[1]+strings.Join(body, ""), r, impl.CompOk)
		}
		slices.Sort(body)
		askCompile(t, lines[0]+lines[1]+strings.Join(body, ""), r, impl.CompOk)
	}
}

func TestShowRegimeOfWrongRegimes(t *testing.T) {
	ask := func(r impl.Regime) {
		t.Helper()
		if got := impl.ShowRegime(r); got != "" {
			t.Errorf("ShowRegime(%v) = %q", r, got)
		}
	}
	ask(impl.Regime{})
	full := fullRegime()
	for i := range numbersOf(&full) {
		for _, far := range append([]int{-7, 0}, farNumbers...) {
			r := fullRegime()
			*numbersOf(&r)[i] = far
			if !impl.RegimeOk(r) {
				ask(r)
			}
		}
	}
	for i := range namesOf(&full) {
		for _, name := range wrongNames {
			r := fullRegime()
			*namesOf(&r)[i] = name
			ask(r)
		}
	}
	for _, r := range []impl.Regime{evenRegime(600000, 1, impl.MaxSegs+1), evenRegime(600000, 1, 0), evenRegime(impl.FirstDay-1, 1, 3), evenRegime(impl.LastDay-1, 1, 3), evenRegime(600000, 1, 5000)} {
		ask(r)
	}
	rome := romeRegime()
	slices.Reverse(rome.Segs)
	ask(rome)
	for _, list := range wrongTables {
		r := parisRegime()
		r.Reigns = list
		ask(r)
	}
	r := parisRegime()
	r.Patches = manyPatches(r.From, impl.MaxPatches+1)
	ask(r)
	r.Patches = []impl.Patch{{Day: r.From + 1, Month: 1, Dom: 1}, {Day: r.From, Month: 1, Dom: 1}}
	ask(r)
}

func TestCompileTiles(t *testing.T) {
	use := func(from, to string) string { return "use jul jan jul 1300-" + from + " jul 1300-" + to + "\n" }
	back := "use jul jan jul 1300-6-30 jul 1300-6-1\n"
	cases := []struct {
		what, body string
		want       int
	}{
		{"a hole alone", use("1-1", "6-29") + use("7-1", "12-31"), impl.CompHole}, {"no use line", "", impl.CompHole}, {"first day bare", use("1-2", "12-31"), impl.CompHole}, {"last day bare", use("1-1", "12-30"), impl.CompHole}, {"one day alone", use("5-5", "5-5"), impl.CompHole},
		{"no use line, but others", "rule day\npatch jul 1300-1-1 feb 30\nreign x jul 1300-1-1 jul 1300-1-1\n", impl.CompHole}, {"without a day alone", back, impl.CompHole},
		{"an overlap alone", use("1-1", "6-30") + use("6-30", "12-31"), impl.CompOverlap}, {"alike", use("1-1", "12-31") + use("1-1", "12-31"), impl.CompOverlap}, {"one within", use("1-1", "12-31") + use("5-5", "5-5"), impl.CompOverlap},
		{"an overlap behind a hole", use("1-1", "1-31") + use("3-1", "6-30") + use("6-30", "12-31"), impl.CompOverlap}, {"an overlap ahead of a hole", use("1-1", "1-31") + use("1-31", "6-30") + use("8-1", "12-31"), impl.CompOverlap}, {"an overlap beside a hole, mixed", use("8-1", "12-31") + use("1-31", "6-30") + use("1-1", "1-31"), impl.CompOverlap},
		{"an overlap beyond the range, and a hole", use("1-1", "1-31") + "use jul jan jul 1400-1-1 jul 1400-1-5\nuse gre jan jul 1400-1-5 jul 1400-2-5\n", impl.CompOverlap}, {"an overlap beyond the range", use("1-1", "12-31") + "use jul jan jul 1200-1-1 jul 1200-1-5\nuse gre jan jul 1200-1-5 jul 1200-2-5\n", impl.CompOverlap},
		{"beyond the range alone", use("1-1", "12-31") + "use jul jan jul 1400-1-1 jul 1400-1-5\n", impl.CompOther}, {"across the end", "use jul jan jul 1300-1-1 jul 1301-1-1\n", impl.CompOther}, {"across the beginning", "use jul jan jul 1299-12-31 jul 1300-12-31\n", impl.CompOther},
		{"without a day beside", use("1-1", "12-31") + back, impl.CompOther}, {"without a day, twice", use("1-1", "12-31") + back + back, impl.CompOther}, {"without a day and a hole", use("1-1", "12-30") + back, impl.CompHole}, {"without a day and an overlap", use("1-1", "12-31") + back + use("5-5", "5-5"), impl.CompOverlap},
		{"a hole, and a patch beyond", use("1-1", "12-30") + "patch jul 1400-1-1 feb 30\n", impl.CompHole}, {"an overlap, and a wrong reign", use("1-1", "12-31") + use("5-5", "5-5") + "reign x jul 1300-1-2 jul 1300-1-1\n", impl.CompOverlap}, {"an overlap, and no source", use("1-1", "12-31") + use("5-5", "5-5") + "x\n", impl.CompSyntax}, {"a hole, and no source", "x\n", impl.CompSyntax},
	}
	for _, c := range cases {
		t.Run(c.what, func(t *testing.T) {
			askCode(t, headSource+c.body, c.want)
			askByShape(t, headSource+c.body)
		})
	}
	for _, c := range []struct {
		s    string
		want int
	}{
		{"regime a\nrange jul 1300-12-31 jul 1300-1-1\n", impl.CompOther}, {"regime a\nrange jul 1300-12-31 jul 1300-1-1\n" + use("1-1", "12-31"), impl.CompOther}, {"regime a\nrange jul 1300-12-31 jul 1300-1-1\n" + use("1-1", "12-31") + use("5-5", "5-5"), impl.CompOverlap},
		{"regime a\nrange jul 1300-5-5 jul 1300-5-4\n" + use("5-5", "5-4"), impl.CompOther}, {"regime a\nrange jul 1300-5-5 jul 1300-5-5\n" + use("5-5", "5-4"), impl.CompHole},
	} {
		askCode(t, c.s, c.want)
	}
}

func TestCompileRules(t *testing.T) {
	want, _ := compileByShape(rightYear)
	styled := want
	styled.Rule = impl.RStyle
	askCompile(t, rightYear, want, impl.CompOk)
	askCompile(t, rightYear+"rule day\n", want, impl.CompOk)
	askCompile(t, rightYear+"rule style\n", styled, impl.CompOk)
	askCompile(t, headSource+"rule style\n"+halfOne+halfTwo, styled, impl.CompOk)
	askCompile(t, headSource+halfOne+"rule day\n"+halfTwo, want, impl.CompOk)
	for _, a := range []string{"rule day\n", "rule style\n"} {
		for _, b := range []string{"rule day\n", "rule style\n"} {
			for _, s := range []string{rightYear + a + b, headSource + a + halfOne + halfTwo + b, headSource + a + b, headSource + a + halfOne + b + halfOne + halfTwo, rightYear + a + b + "reign x jul 1300-1-2 jul 1300-1-1\n"} {
				askCode(t, s, impl.CompSyntax)
			}
		}
		askCode(t, rightYear+a+a+a, impl.CompSyntax)
		askCode(t, a+rightYear, impl.CompSyntax)
		askCode(t, "regime a\n"+a+"range jul 1300-1-1 jul 1300-12-31\n"+halfOne+halfTwo, impl.CompSyntax)
	}
	for _, line := range []string{"rule", "rule ", "rule x", "rule Day", "rule DAY", "rule days", "rule da", "rule styl", "rule styles", "rule Style", "rule 0", "rule 1", "rule day style", "rule day ", " rule day", "rule  day", "rule\tday", "rule day\t", "Rule day", "rules day", "ruleday", "rule day day", "rule \xff"} {
		askCode(t, rightYear+line+"\n", impl.CompSyntax)
		askCode(t, rightYear+line+"\nrule day\n", impl.CompSyntax)
	}
}

func TestCompileOffs(t *testing.T) {
	right, _ := compileByShape(rightYear)
	ask := func(tail string, off, code int) {
		t.Helper()
		r := impl.Regime{}
		if code == impl.CompOk {
			r = copyRegime(right)
			r.Segs[0].Off = off
		}
		askCompile(t, headSource+halfTwo+halfOne[:len(halfOne)-1]+" "+tail+"\n", r, code)
	}
	for off := 1; off <= 3; off++ {
		ask(fmt.Sprint("+", off), off, impl.CompOk)
		ask(fmt.Sprint("-", off), -off, impl.CompOk)
	}
	for _, far := range farOffs {
		ask(far, 0, impl.CompSyntax)
	}
	for _, tail := range []string{"", " ", "0", "+0", "-0", "1", "3", "4", "+", "-", "+-1", "-+1", "--1", "++1", "+01", "-01", "+00", "+1 ", "+1 +1", "+1 x", " +1", "+ 1", "+1\t", "+a", "+1a", "+1-", "\u22121", "+\u0661", "+1.0", "+1e0", "+0x1", "1+", "+1000000000", "-1000000000", "+4294967297", "+18446744073709551617", "-18446744073709551615", "+" + strings.Repeat("1", 3000), "+" + strings.Repeat("0", 3000) + "1", "\xff", "+\xff", "*1", ",1", "/1"} {
		ask(tail, 0, impl.CompSyntax)
	}
}

// farOffs are written as an OFF is, but no segment has them.
var farOffs = strings.Fields("+4 -4 +5 -5 +6 -7 +8 +9 -9 +10 -10 -11 +12 +13 +21 -22 +30 +31 -32 +33 +300 -300 +256 +257 -259 +65537 +999999999 -999999999")

// Promise 10: a text with an OFF that no segment has is no source, whatever else is wrong with what it tells.
func TestCompileFarOffsAheadOfOtherCodes(t *testing.T) {
	year := "use jul jan jul 1300-1-1 jul 1300-12-31"
	bodies := []struct {
		what, body string
		want       int
	}{
		{"nothing else", year + "OFF\n", impl.CompOk}, {"an overlap", year + "OFF\n" + halfOne, impl.CompOverlap}, {"an overlap ahead", halfOne + year + "OFF\n", impl.CompOverlap}, {"a hole", halfOne[:len(halfOne)-1] + "OFF\n", impl.CompHole}, {"an overlap and a hole", halfOne + halfOne[:len(halfOne)-1] + "OFF\n", impl.CompOverlap},
		{"a wrong patch", year + "OFF\npatch jul 1300-1-1 feb 32\n", impl.CompOther}, {"a wrong reign", "reign x jul 1300-1-2 jul 1300-1-1\n" + year + "OFF\n", impl.CompOther}, {"beyond the range", "use jul jan jul 1299-1-1 jul 1300-12-31OFF\n", impl.CompOther}, {"without a day", year + "\nuse jul jan jul 1300-5-5 jul 1300-5-4OFF\n", impl.CompOther}, {"no day of the line", year + "\nuse jul jan jul 1-1-1 jul 1-1-1OFF\n", impl.CompOther},
	}
	for _, c := range bodies {
		t.Run(c.what, func(t *testing.T) {
			for _, near := range []string{"", " +1", " -1", " +2", " -2", " +3", " -3"} {
				if code := askByShape(t, headSource+strings.ReplaceAll(c.body, "OFF", near)); code != c.want {
					t.Errorf("with%s: %d, want %d", near, code, c.want)
				}
			}
			for _, far := range farOffs {
				s := headSource + strings.ReplaceAll(c.body, "OFF", " "+far)
				askCode(t, s, impl.CompSyntax)
				askCode(t, s+strings.Repeat(halfOne, impl.MaxSegs-strings.Count(s, "use ")), impl.CompSyntax)
				askCode(t, s+strings.Repeat(halfOne, impl.MaxSegs-strings.Count(s, "use ")+1), impl.CompBig)
			}
		})
	}
}

func TestCompileKnownFarOff(t *testing.T) {
	s := `regime sweden
range jul 1581-3-16 jul 1582-6-4
use gre lady jul 1581-3-16 jul 1581-11-12OFF
use gre jan jul 1581-11-13 jul 1582-3-29
use gre jan jul 1582-3-30 jul 1582-6-4
rule style
`
	if code := askByShape(t, strings.ReplaceAll(s, "OFF", " +3")); code != impl.CompOk {
		t.Errorf("+3: %d", code)
	}
	for _, far := range farOffs {
		askCode(t, strings.ReplaceAll(s, "OFF", " "+far), impl.CompSyntax)
	}
}

// An OFF is what stands in the SegText of some segment, for all texts of a sign and few digits.
func TestCompileOffsAreThoseOfSegTexts(t *testing.T) {
	s := impl.Segment{From: julDay(1300, 1, 1), To: julDay(1300, 12, 31), Cal: impl.CGre, Style: impl.YLady}
	right := impl.Regime{Name: "a", From: s.From, To: s.To, Segs: []impl.Segment{s}}
	known := map[string]int{}
	for off := -1000; off <= 1000; off++ {
		s.Off = off
		if tail, ok := strings.CutPrefix(impl.SegText(s), "gre lady "); ok {
			known[tail] = off
		}
	}
	if len(known) != 6 {
		t.Fatal(known)
	}
	eachText("+-01234", 5, func(tail string) {
		r, code := impl.Regime{}, impl.CompSyntax
		if off, ok := known[tail]; ok {
			r, code = copyRegime(right), impl.CompOk
			r.Segs[0].Off = off
		}
		askCompile(t, headSource+"use gre lady jul 1300-1-1 jul 1300-12-31 "+tail+"\n", r, code)
	})
}

func TestCompileNumbers(t *testing.T) {
	right, _ := compileByShape(rightYear)
	for _, c := range []struct {
		dom  string
		want int
	}{
		{"0", impl.CompOther}, {"32", impl.CompOther}, {"33", impl.CompOther}, {"100", impl.CompOther}, {"999999999", impl.CompOther}, {"1000000000", impl.CompSyntax}, {"9999999999", impl.CompSyntax}, {"4294967297", impl.CompSyntax}, {"18446744073709551617", impl.CompSyntax}, {strings.Repeat("1", 4000), impl.CompSyntax}, {strings.Repeat("0", 4000), impl.CompSyntax},
		{"-1", impl.CompSyntax}, {"-0", impl.CompSyntax}, {"+1", impl.CompSyntax}, {"+0", impl.CompSyntax}, {"01", impl.CompSyntax}, {"00", impl.CompSyntax}, {"031", impl.CompSyntax}, {"", impl.CompSyntax}, {"-", impl.CompSyntax}, {"x", impl.CompSyntax}, {"1x", impl.CompSyntax}, {"1.", impl.CompSyntax}, {"0x1", impl.CompSyntax}, {"I", impl.CompSyntax}, {"\u0661", impl.CompSyntax}, {"\xff", impl.CompSyntax}, {"-999999999", impl.CompSyntax},
	} {
		askCode(t, rightYear+"patch jul 1300-1-1 feb "+c.dom+"\n", c.want)
	}
	for dom := 1; dom <= 31; dom++ {
		for m, name := range monthWords {
			r := right
			r.Patches = []impl.Patch{{Day: julDay(1300, 1, 1), Month: m + 1, Dom: dom}}
			askCompile(t, fmt.Sprintf("%spatch jul 1300-1-1 %s %d\n", rightYear, name, dom), r, impl.CompOk)
		}
	}
	for _, bad := range noDateTexts {
		if len(bad) > 1000 {
			continue
		}
		for _, cal := range calWords {
			word := cal + " " + bad
			for _, s := range []string{
				"regime a\nrange " + word + " jul 1300-12-31\n" + halfOne + halfTwo, "regime a\nrange jul 1300-1-1 " + word + "\n" + halfOne + halfTwo, headSource + "use jul jan " + word + " jul 1300-6-30\n" + halfTwo, headSource + "use jul jan jul 1300-1-1 " + word + "\n" + halfTwo, headSource + "use jul jan jul 1300-1-1 " + word + " +1\n" + halfTwo,
				rightYear + "patch " + word + " feb 30\n", rightYear + "reign x " + word + " jul 1300-1-1\n", rightYear + "reign x jul 1300-1-1 " + word + "\n",
			} {
				askCode(t, s, impl.CompSyntax)
			}
		}
	}
}

// A date must be one of its own calendar.
func TestCompileDatesOfTheOtherCalendar(t *testing.T) {
	for _, s := range []string{
		"regime a\nrange CAL 1300-2-29 jul 1300-12-31\nuse jul jan CAL 1300-2-29 jul 1300-12-31\n", "regime a\nrange jul 1300-1-1 CAL 1300-2-29\nuse jul jan jul 1300-1-1 CAL 1300-2-29\n",
		rightYear + "patch CAL 1300-2-29 feb 30\n", rightYear + "reign x CAL 1300-2-29 jul 1300-12-31\n", rightYear + "reign x jul 1300-1-1 CAL 1300-2-29\n",
	} {
		if code := askByShape(t, strings.ReplaceAll(s, "CAL", "jul")); code != impl.CompOk {
			t.Errorf("%q by jul: %d", s, code)
		}
		askCode(t, strings.ReplaceAll(s, "CAL", "gre"), impl.CompSyntax)
		for _, cal := range noCalendarTexts[:len(noCalendarTexts)-1] {
			askCode(t, strings.ReplaceAll(s, "CAL", cal), impl.CompSyntax)
		}
	}
}

// Regimes from FirstDay on and to LastDay, and a day beyond, by both calendars.
func TestCompileAtTheEndsOfTheLine(t *testing.T) {
	one := func(from, to string) string {
		return "regime a\nrange " + from + " " + to + "\nuse gre sept " + from + " " + to + " -3\n"
	}
	for _, cal := range calendars {
		for by := -3; by <= 3; by++ {
			for _, c := range []struct {
				from, to int
				right    bool
			}{{impl.FirstDay + by, impl.FirstDay + by, by >= 0}, {impl.FirstDay + by, 600000, by >= 0}, {impl.LastDay + by, impl.LastDay + by, by <= 0}, {600000, impl.LastDay + by, by <= 0}, {impl.FirstDay - by, impl.LastDay - by, by == 0}} {
				s := one(dayWords(cal, c.from), dayWords(cal, c.to))
				if c.right {
					askCompile(t, s, impl.Regime{Name: "a", From: c.from, To: c.to, Segs: []impl.Segment{{From: c.from, To: c.to, Cal: impl.CGre, Style: impl.YSept, Off: -3}}}, impl.CompOk)
				} else {
					askCode(t, s, impl.CompOther)
				}
			}
		}
	}
	for _, date := range []string{"jul 1-1-1", "jul 1-1-2", "jul 1-1-3", "gre 1-1-1", "jul 1-12-31", "gre 2-1-1", "jul 3000-12-31", "gre 3000-12-31"} {
		askCode(t, one(date, date), impl.CompOther)
		askCode(t, rightYear+"patch "+date+" feb 30\n", impl.CompOther)
	}
	askCode(t, one("jul 1-1-1", "jul 3000-12-31"), impl.CompOther)
	askCode(t, one("jul 1-1-2", "jul 1300-12-31"), impl.CompOther)
}

// A reign may begin and end where both calendars have a date, beyond what a regime has.
func TestCompileReignsAtTheEndsOfTheLine(t *testing.T) {
	for _, c := range []struct {
		from, to string
		want     int
	}{
		{"gre 1-1-1", "gre 3000-12-31", impl.CompOk}, {"jul 1-1-3", "jul 1-1-3", impl.CompOk}, {"gre 1-1-1", "jul 1-1-3", impl.CompOk}, {"jul 3000-12-10", "gre 3000-12-31", impl.CompOk}, {"jul 1-1-2", "gre 5-1-1", impl.CompOther}, {"jul 1-1-1", "gre 5-1-1", impl.CompOther}, {"jul 1-1-2", "jul 1-1-2", impl.CompOther},
		{"gre 1-1-1", "jul 3000-12-11", impl.CompOther}, {"jul 3000-12-31", "jul 3000-12-31", impl.CompOther}, {"jul 1300-1-2", "jul 1300-1-1", impl.CompOther}, {"gre 3000-12-31", "gre 1-1-1", impl.CompOther}, {"jul 1300-1-1", "gre 1300-1-9", impl.CompOk}, {"jul 1300-1-1", "gre 1300-1-8", impl.CompOk}, {"jul 1300-1-1", "gre 1300-1-7", impl.CompOther},
	} {
		if code := askByShape(t, rightYear+"reign x "+c.from+" "+c.to+"\n"); code != c.want {
			t.Errorf("a reign from %s to %s: %d, want %d", c.from, c.to, code, c.want)
		}
	}
}

// What is alike in the day that lists are in order by, is not right.
func TestCompileListsThatAreNotRight(t *testing.T) {
	patch := func(day, rest string) string { return "patch jul 1300-" + day + " " + rest + "\n" }
	reign := func(name, from, to string) string {
		return "reign " + name + " jul 1300-" + from + " jul 1300-" + to + "\n"
	}
	for _, body := range []string{
		patch("1-1", "feb 30") + patch("1-1", "feb 30"), patch("1-1", "feb 30") + patch("1-1", "mar 3"), patch("1-1", "mar 3") + patch("5-1", "mar 3") + patch("1-1", "feb 30"), patch("1-1", "feb 30") + "patch gre 1300-1-8 feb 30\n",
		reign("x", "1-1", "1-5") + reign("y", "1-1", "1-5"), reign("x", "1-1", "1-1") + reign("y", "1-1", "5-5"), reign("x", "1-1", "1-5") + reign("y", "1-5", "1-6"), reign("x", "1-1", "9-9") + reign("y", "2-1", "2-2"), reign("x", "1-1", "1-5") + reign("x", "2-1", "2-5"), reign("x", "1-1", "1-5") + reign("x", "1-1", "1-5"),
		"patch jul 1299-12-31 feb 3\n", "patch jul 1301-1-1 feb 3\n",
	} {
		askCode(t, rightYear+body, impl.CompOther)
		lines := strings.SplitAfter(body, "\n")
		slices.Reverse(lines)
		askCode(t, rightYear+strings.Join(lines, ""), impl.CompOther)
		askByShape(t, headSource+body+halfTwo+halfOne)
	}
	for count := range 12 {
		var body strings.Builder
		for i := range count {
			body.WriteString(patch(fmt.Sprint("3-", 31-i), "feb 30"))
		}
		if code := askByShape(t, rightYear+body.String()); (code == impl.CompOk) != (count <= impl.MaxPatches) {
			t.Errorf("%d patches: %d", count, code)
		}
	}
	for count := 28; count < 34; count++ {
		var body strings.Builder
		for i := range count {
			body.WriteString(reign(string([]byte{byte('a' + i/26), byte('a' + i%26)}), fmt.Sprint(12-i/28, "-", 28-i%28), fmt.Sprint(12-i/28, "-", 28-i%28)))
		}
		if code := askByShape(t, rightYear+body.String()); (code == impl.CompOk) != (count <= impl.MaxReigns) {
			t.Errorf("%d reigns: %d", count, code)
		}
	}
}

// longText has just so many bytes: a source of rightYear, extra, and patches with days of many digits.
func longText(size int, extra string) string {
	s := rightYear + extra
	line := "patch jul 1300-1-1 jan 1"
	count := (size - len(s)) / (len(line) + 1)
	rest := (size - len(s)) % (len(line) + 1)
	for range count {
		more := min(rest, 8)
		rest -= more
		s += line + strings.Repeat("0", more) + "\n"
	}
	if len(s) != size {
		panic(fmt.Sprint(size, " bytes are ", len(s)))
	}
	return s
}

func TestCompileAtMaxSource(t *testing.T) {
	for size := impl.MaxSource - 5; size <= impl.MaxSource+5; size++ {
		for extra, code := range map[string]int{"": impl.CompOther, halfOne: impl.CompOverlap, "x\n": impl.CompSyntax, halfOne[:len(halfOne)-1] + " +4\n": impl.CompSyntax, "rule day\n": impl.CompOther, "rule day\nrule day\n": impl.CompSyntax} {
			if size > impl.MaxSource {
				code = impl.CompBig
			}
			s := longText(size, extra)
			askCode(t, s, code)
			askByShape(t, s)
		}
		for _, sign := range []string{"x", "\n", " ", "\x00", "\xff", "u", "-"} {
			code := impl.CompSyntax
			if size > impl.MaxSource {
				code = impl.CompBig
			}
			askCode(t, strings.Repeat(sign, size), code)
		}
	}
	hole := headSource + strings.Repeat("patch jul 1300-1-1 jan 1\n", 238)
	askCode(t, hole[:len(hole)-1]+strings.Repeat("0", impl.MaxSource-len(hole))+"\n", impl.CompHole)
	for _, s := range []string{strings.Repeat("x", 1<<20), strings.Repeat("use x\n", 1<<18), strings.Repeat("\n", 1<<20), rightYear + strings.Repeat(" ", 1<<20), rightYear + strings.Repeat("rule day\n", 1<<16)} {
		askCode(t, s, impl.CompBig)
	}
}

func TestCompileAtMaxSegs(t *testing.T) {
	for count := impl.MaxSegs - 2; count <= impl.MaxSegs+3; count++ {
		even := evenRegime(600000, 3, count)
		text := strings.Join(handLines(even, byBoth()), "")
		if count <= impl.MaxSegs {
			askCompile(t, text, even, impl.CompOk)
		} else {
			askCode(t, text, impl.CompBig)
		}
		ask := func(s string, code int) {
			t.Helper()
			if count > impl.MaxSegs {
				code = impl.CompBig
			}
			askCode(t, s, code)
			askByShape(t, s)
		}
		uses := func(line string) string { return strings.Repeat(line, count) }
		ask(headSource+uses(halfOne), impl.CompOverlap)
		ask(uses(halfOne), impl.CompSyntax)
		ask(headSource+uses(halfOne)+"x\n", impl.CompSyntax)
		ask(headSource+uses("use \n"), impl.CompSyntax)
		ask(headSource+uses("use  \n"), impl.CompSyntax)
		ask(uses("use \n"), impl.CompSyntax)
		ask(uses("use x\n"), impl.CompSyntax)
		ask(rightYear+"rule day\nrule day\n"+strings.Repeat("use x\n", count-2), impl.CompSyntax)
		ask(strings.TrimSuffix(uses("use x\n"), "\n"), impl.CompSyntax)
		ask(strings.TrimSuffix(headSource+uses(halfOne), "\n"), impl.CompSyntax)
		ask(uses("use x\n\n"), impl.CompSyntax)
		ask("\n"+uses("use \xff\n")+"\n", impl.CompSyntax)
	}
	// None of these lines begins with use and a blank.
	for _, line := range []string{"use\n", " use x\n", "uses x\n", "Use x\n", "use\tx\n", "\tuse x\n", "patch use x\n", "xuse x\n", "use", "use x\r"} {
		askCode(t, strings.Repeat(line, 50), impl.CompSyntax)
		askCode(t, rightYear+strings.Repeat(line, 50), impl.CompSyntax)
	}
}

func TestCompileEndsOfTexts(t *testing.T) {
	for _, s := range []string{rightYear, headSource, longSource, longNormal, headSource + halfOne, rightYear + halfOne} {
		bare := strings.TrimSuffix(s, "\n")
		for _, x := range []string{bare, s + "\n", s + "\n\n", "\n" + s, s + " ", s + " \n", bare + " \n", bare + "\r\n", bare + "\x00\n", s + "\x00", s + "x", s + s, strings.ReplaceAll(s, "\n", "\r\n"), strings.ReplaceAll(s, "\n", "\n\n"), strings.ReplaceAll(s, "\n", " \n"), strings.ReplaceAll(s, "\n", "\n "), strings.ReplaceAll(s, "\n", ";"), strings.ReplaceAll(s, "\n", "\r"), strings.ReplaceAll(s, " ", "\t"), strings.ReplaceAll(s, " ", "  "), strings.ToUpper(s), "\ufeff" + s} {
			askCode(t, x, impl.CompSyntax)
		}
	}
	for _, s := range []string{"", "\n", "\n\n", " ", " \n", "x", "x\n", "regime", "regime\n", "regime a", "regime a\n", "regime a\nrange", "regime a\nrange\n", "\x00", "\xff\n"} {
		askCode(t, s, impl.CompSyntax)
	}
}

// Both lines of the head stand first, in their order, once.
func TestCompileHeads(t *testing.T) {
	regime, days := "regime a\n", "range jul 1300-1-1 jul 1300-12-31\n"
	body := halfOne + halfTwo
	for _, s := range []string{
		body, regime + body, days + body, days + regime + body, regime + regime + days + body, regime + days + days + body, regime + days + regime + body, regime + days + body + regime, regime + days + body + days, regime + halfOne + days + halfTwo, halfOne + regime + days + halfTwo, regime + body + days, body + regime + days, body + days + regime,
		regime + days + halfOne + regime + days + halfTwo, "rule day\n" + regime + days + body, regime + "rule day\n" + days + body, regime, days, regime + regime, days + days, days + regime, "\n" + regime + days + body, regime + "\n" + days + body, regime + days + "\n" + body,
	} {
		askCode(t, s, impl.CompSyntax)
	}
	right, _ := compileByShape(rightYear)
	for _, name := range []string{"a", "z", "rome", "use", "regime", "range", "jul", "abcdefghijklmnop"} {
		r := right
		r.Name = name
		askCompile(t, "regime "+name+"\n"+days+body, r, impl.CompOk)
		r.Reigns = []impl.Reign{{Name: name, From: julDay(1200, 1, 1), To: julDay(1300, 3, 1)}}
		askCompile(t, "regime "+name+"\n"+days+body+"reign "+name+" jul 1200-1-1 jul 1300-3-1\n", r, impl.CompOk)
	}
	for _, name := range append([]string{"a b", "a1", "a-b", "abcdefghijklmnopqrstuvwxyz"}, wrongNames[:len(wrongNames)-1]...) {
		askCode(t, "regime "+name+"\n"+days+body, impl.CompSyntax)
		askCode(t, regime+days+body+"reign "+name+" jul 1200-1-1 jul 1300-3-1\n", impl.CompSyntax)
		askCode(t, "regime "+name+"\n"+days, impl.CompSyntax)
	}
}

// eachChanged calls f with the words of one line at a time changed: one left out, told twice, put in, or another one.
func eachChanged(s string, words []string, f func(string)) {
	lines := strings.SplitAfter(s, "\n")
	for i, line := range lines[:len(lines)-1] {
		old := strings.Split(strings.TrimSuffix(line, "\n"), " ")
		put := func(list []string) {
			changed := slices.Clone(lines)
			changed[i] = strings.Join(list, " ") + "\n"
			f(strings.Join(changed, ""))
		}
		for at := range len(old) + 1 {
			for _, w := range words {
				put(slices.Insert(slices.Clone(old), at, w))
			}
			if at == len(old) {
				break
			}
			put(slices.Delete(slices.Clone(old), at, at+1))
			put(slices.Insert(slices.Clone(old), at, old[at]))
			for _, w := range words {
				put(slices.Replace(slices.Clone(old), at, at+1, w))
			}
			for other := range at {
				swapped := slices.Clone(old)
				swapped[at], swapped[other] = swapped[other], swapped[at]
				put(swapped)
			}
		}
	}
}

// Promise 10: words of a source left out, put in, changed and swapped, held against shapes of lines.
func TestCompileWordsChanged(t *testing.T) {
	words := strings.Fields("regime range use patch reign rule day style jul gre jan feb march mar lady sept sep yule easter dec a karl 0 1 9 30 31 32 +1 -1 +3 -3 +4 -4 +0 -0 +01 01 -5 999999999 1000000000 1300-1-1 1300-6-30 1300-07-1 1712-2-29 1300-12-31 1300-1 Jul JAN Use x abcdefghijklmnopq \xff")
	words = append(words, "", "\t", "a\t", "\n", "a\n", "jul 1300-1-1", "gre 1300-1-1", "gre 1300-2-29")
	for _, s := range []string{rightYear, longSource, longNormal} {
		t.Run(s[:9], func(t *testing.T) {
			t.Parallel()
			eachChanged(s, words, func(changed string) { askByShape(t, changed) })
		})
	}
}

// Promise 10: lines left out, told twice, and moved, held against shapes of lines.
func TestCompileLinesChanged(t *testing.T) {
	t.Parallel()
	for _, s := range []string{rightYear, longSource, longNormal, rightYear + "rule day\nreign x jul 1300-1-1 jul 1300-5-1\n"} {
		lines := strings.SplitAfter(s, "\n")
		lines = lines[:len(lines)-1]
		for i := range lines {
			less := slices.Delete(slices.Clone(lines), i, i+1)
			askByShape(t, strings.Join(less, ""))
			for at := range len(less) + 1 {
				askByShape(t, strings.Join(slices.Insert(slices.Clone(less), at, lines[i]), ""))
			}
			for at := range len(lines) + 1 {
				askByShape(t, strings.Join(slices.Insert(slices.Clone(lines), at, lines[i]), ""))
				askByShape(t, strings.Join(slices.Insert(slices.Clone(lines), at, "\n"), ""))
				askByShape(t, strings.Join(slices.Insert(slices.Clone(lines), at, halfOne), ""))
			}
		}
	}
}

// Promise 10: signs of a source left out, put in and changed, and its beginnings and ends, held against shapes of lines.
func TestCompileSignsChanged(t *testing.T) {
	signs := strings.Split(" \n\t\r-+0123789aejlnuzAZ,\x00\xff", "")
	for _, s := range []string{rightYear, longSource, longNormal} {
		t.Run(s[:9], func(t *testing.T) {
			t.Parallel()
			for i := range len(s) + 1 {
				askByShape(t, s[:i])
				askByShape(t, s[i:])
				for _, sign := range signs {
					askByShape(t, s[:i]+sign+s[i:])
				}
				if i == len(s) {
					break
				}
				askByShape(t, s[:i]+s[i+1:])
				for _, sign := range signs {
					askByShape(t, s[:i]+sign+s[i+1:])
				}
			}
		})
	}
}

// Promise 10: texts put together by chance from lines that may stand in a source, and some that may not.
func TestCompileTextsByChance(t *testing.T) {
	t.Parallel()
	random := rand.New(rand.NewSource(1582))
	days := func() string { return dayWords(random.Intn(2), 474800+random.Intn(4)*5) }
	ends := func() string { return dayWords(random.Intn(2), 474804+random.Intn(4)*5) }
	line := func() string {
		switch random.Intn(40) {
		case 0, 1:
			return fmt.Sprintf("patch %s %s %d\n", days(), monthWords[random.Intn(12)], random.Intn(35))
		case 2, 3:
			return fmt.Sprintf("reign %s %s %s\n", []string{"x", "y", "zeta"}[random.Intn(3)], days(), ends())
		case 4, 5:
			return "rule " + []string{"day", "style"}[random.Intn(2)] + "\n"
		case 6:
			return []string{"\n", "x\n", "use\n", "rule x\n", "regime b\n", headSource}[random.Intn(6)]
		}
		return fmt.Sprintf("use %s %s %s %s%s\n", calWords[random.Intn(2)], styleWords[random.Intn(7)], days(), ends(), []string{"", "", "", " +1", " -3", " +4"}[random.Intn(6)])
	}
	var counts [6]int
	for range 60000 {
		s := fmt.Sprintf("regime a\nrange %s %s\n", days(), ends())
		for range random.Intn(5) {
			s += line()
		}
		counts[askByShape(t, s)]++
	}
	for _, code := range []int{impl.CompOk, impl.CompSyntax, impl.CompOverlap, impl.CompHole, impl.CompOther} {
		if counts[code] < 300 {
			t.Errorf("texts by chance have these codes: %v", counts)
		}
	}
}

func TestNormalOfWhatIsNone(t *testing.T) {
	for _, s := range []string{"", "\n", "x", "x\n", headSource, headSource + halfOne, rightYear + halfOne, rightYear + "x\n", rightYear + "patch jul 1300-1-1 feb 32\n", rightYear[:len(rightYear)-1], strings.Repeat("x", impl.MaxSource+1), headSource + strings.Repeat(halfOne, impl.MaxSegs+1)} {
		if got := impl.Normal(s); got != "" {
			t.Errorf("Normal(%q) = %q", s, got)
		}
	}
	if got, want := impl.Normal(headSource+halfTwo+"rule day\n"+halfOne), rightYear; got != want {
		t.Errorf("Normal = %q", got)
	}
}

// What a text was refused for is gone by the next call, and no two answers share memory.
func TestCompileAnswersAreNewMemory(t *testing.T) {
	first, _ := impl.Compile(longSource)
	for _, s := range []string{"", headSource, rightYear + halfOne, rightYear + "rule day\nrule day\n"} {
		impl.Compile(s)
		second, code := impl.Compile(longSource)
		if code != impl.CompOk || !impl.SameRegime(first, second) {
			t.Errorf("behind %q: %v, %d", s, second, code)
		}
		clear(second.Segs[:cap(second.Segs)])
		clear(second.Patches[:cap(second.Patches)])
		clear(second.Reigns[:cap(second.Reigns)])
	}
	if got := impl.ShowRegime(first); got != longNormal {
		t.Errorf("the first answer is %q now", got)
	}
}

// Nothing is written into a regime that is shown, nor into the spare room behind its lists.
func TestShowRegimeLeavesItsArgument(t *testing.T) {
	room := fullRegime()
	kept := copyRegime(room)
	for count := range 4 {
		r := room
		r.Segs, r.Patches, r.Reigns = room.Segs[:count], room.Patches[:min(count, 3)], room.Reigns[:min(count, 3)]
		if count > 0 {
			r.To = r.Segs[count-1].To
		}
		impl.ShowRegime(r)
	}
	impl.ShowRegime(room)
	askSame(t, "the argument", room, kept, true)
}

// Any bytes are answered.
func TestCompileOfAnyBytes(t *testing.T) {
	t.Parallel()
	eachText("u e\n", 6, func(s string) {
		askCode(t, s, impl.CompSyntax)
		askByShape(t, headSource+s)
	})
	random := rand.New(rand.NewSource(math.MaxInt32))
	for range 3000 {
		bytes := make([]byte, random.Intn(300))
		random.Read(bytes)
		askCode(t, string(bytes), impl.CompSyntax)
		askByShape(t, rightYear+string(bytes)+"\n")
	}
}
