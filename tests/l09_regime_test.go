package tests

import (
	"fmt"
	"math"
	"slices"
	"strings"
	"testing"

	"loop.example/g00638/impl"
)

// farNumbers are wrong wherever a regime has a number.
var farNumbers = []int{math.MinInt, math.MinInt + 1, -1 << 32, 1 << 32, math.MaxInt - 1, math.MaxInt}

var wrongNames = []string{"", "A", "Rome", "ro me", " rome", "rome ", "rome\n", "r0me", "\x00", "\xff", "`", "{", "\u00f6", "abcdefghijklmnopq", strings.Repeat("rome", 5000)}

// span is a segment of which nothing but the days matters.
func span(from, to int) impl.Segment { return impl.Segment{From: from, To: to} }

// romeRegime has two segments, between which ten dates are lost.
func romeRegime() impl.Regime {
	from, n, to := julDay(1582, 1, 1), greDay(1582, 10, 15), greDay(1583, 12, 31)
	return impl.Regime{Name: "rome", From: from, To: to, Segs: []impl.Segment{{From: from, To: n - 1}, {From: n, To: to, Cal: impl.CGre}}}
}

// parisRegime has one segment, of years from Easter on.
func parisRegime() impl.Regime {
	from, to := julDay(1344, 1, 1), julDay(1347, 12, 31)
	return impl.Regime{Name: "paris", From: from, To: to, Segs: []impl.Segment{{From: from, To: to, Style: impl.YEaster}}}
}

// fullRegime has several of all that a regime may have, with spare numbers around each of its days.
func fullRegime() impl.Regime {
	return impl.Regime{
		Name: "full", From: 600000, To: 600400,
		Segs: []impl.Segment{
			{From: 600000, To: 600099, Style: impl.YLady, Off: 1}, {From: 600100, To: 600100, Off: -3},
			{From: 600101, To: 600299, Cal: impl.CGre, Style: impl.YYule, Off: 3}, {From: 600300, To: 600400, Cal: impl.CGre},
		},
		Patches: []impl.Patch{{Day: 600000, Month: 2, Dom: 30}, {Day: 600100, Month: 12, Dom: 31}, {Day: 600400, Month: 1, Dom: 1}},
		Reigns:  []impl.Reign{{Name: "otto", From: 599000, To: 600050}, {Name: "otho", From: 600052, To: 600052}, {Name: "henry", From: 600053, To: 700000}},
		Rule:    impl.RStyle,
	}
}

// evenRegime has count segments of length days each, of all calendars, styles and Offs in turn.
func evenRegime(from, length, count int) impl.Regime {
	r := impl.Regime{Name: "even", From: from, To: from + length*count - 1}
	for i := range count {
		first := from + length*i
		r.Segs = append(r.Segs, impl.Segment{From: first, To: first + length - 1, Cal: i % 2, Style: i % impl.Styles, Off: i%7 - 3})
	}
	return r
}

// wholeRegime has all days that a regime may have, in twenty segments.
func wholeRegime() impl.Regime {
	r := evenRegime(impl.FirstDay, 54480, impl.MaxSegs)
	r.To = impl.LastDay
	r.Segs[impl.MaxSegs-1].To = impl.LastDay
	return r
}

// manyPatches puts a patch on each of the first count days.
func manyPatches(from, count int) []impl.Patch {
	var list []impl.Patch
	for i := range count {
		list = append(list, impl.Patch{Day: from + i, Month: i%12 + 1, Dom: i%31 + 1})
	}
	return list
}

func rightRegimes() []impl.Regime {
	patched := parisRegime()
	patched.Patches = manyPatches(patched.To-impl.MaxPatches+1, impl.MaxPatches)
	patched.Reigns = manyReigns(impl.MaxReigns)
	named := romeRegime()
	named.Name = "abcdefghijklmnop"
	return []impl.Regime{
		romeRegime(), parisRegime(), fullRegime(), wholeRegime(), patched, named, evenRegime(600000, 1, 1), evenRegime(600000, 1, impl.MaxSegs), evenRegime(600000, 7, 3),
		evenRegime(impl.FirstDay, 1, 1), evenRegime(impl.FirstDay, 3, 4), evenRegime(impl.LastDay, 1, 1), evenRegime(impl.LastDay-11, 3, 4),
	}
}

// copyRegime has memory of its own.
func copyRegime(r impl.Regime) impl.Regime {
	r.Segs, r.Patches, r.Reigns = slices.Clone(r.Segs), slices.Clone(r.Patches), slices.Clone(r.Reigns)
	return r
}

// numbersOf tells where each number of a regime stands.
func numbersOf(r *impl.Regime) []*int {
	list := []*int{&r.From, &r.To, &r.Rule}
	for i := range r.Segs {
		s := &r.Segs[i]
		list = append(list, &s.From, &s.To, &s.Cal, &s.Style, &s.Off)
	}
	for i := range r.Patches {
		p := &r.Patches[i]
		list = append(list, &p.Day, &p.Month, &p.Dom)
	}
	for i := range r.Reigns {
		list = append(list, &r.Reigns[i].From, &r.Reigns[i].To)
	}
	return list
}

func namesOf(r *impl.Regime) []*string {
	list := []*string{&r.Name}
	for i := range r.Reigns {
		list = append(list, &r.Reigns[i].Name)
	}
	return list
}

// segmentsOn tells how many segments have day n.
func segmentsOn(list []impl.Segment, n int) int {
	count := 0
	for _, s := range list {
		if s.From <= n && n <= s.To {
			count++
		}
	}
	return count
}

// tileOn tells what is wrong on day n alone.
func tileOn(from, to int, list []impl.Segment, n int) int {
	count := segmentsOn(list, n)
	switch {
	case count > 1:
		return impl.TileOverlap
	case count == 0 && n >= from && n <= to:
		return impl.TileHole
	}
	return impl.TileOk
}

// tilesByCount goes through first .. last, among which are all days of the segments and of from .. to.
func tilesByCount(from, to int, list []impl.Segment, first, last int) int {
	code := impl.TileOk
	for n := first; n <= last; n++ {
		code = worseTile(code, tileOn(from, to, list, n))
	}
	return code
}

// tilesByEnds looks at no other days than those on which something may begin to be wrong.
func tilesByEnds(from, to int, list []impl.Segment) int {
	code := tileOn(from, to, list, from)
	for _, s := range list {
		code = worseTile(code, tileOn(from, to, list, s.From))
		if s.To < math.MaxInt {
			code = worseTile(code, tileOn(from, to, list, s.To+1))
		}
	}
	return code
}

// worseTile is the code that counts of two.
func worseTile(a, b int) int {
	if a == impl.TileOverlap || b == impl.TileOverlap {
		return impl.TileOverlap
	}
	return max(a, b)
}

// eachList calls f with all lists of at most most segments whose ends are of ends; each has its number as Off.
func eachList(ends []int, most int, f func([]impl.Segment)) {
	var grow func(list []impl.Segment)
	grow = func(list []impl.Segment) {
		f(list)
		if len(list) == most {
			return
		}
		for _, from := range ends {
			for _, to := range ends {
				grow(append(slices.Clone(list), impl.Segment{From: from, To: to, Off: len(list)}))
			}
		}
	}
	grow(nil)
}

func askTiles(t *testing.T, from, to int, list []impl.Segment, want int) {
	t.Helper()
	if got := impl.Tiles(from, to, list); got != want {
		t.Errorf("Tiles(%d, %d, %v) = %d, want %d", from, to, list, got, want)
	}
}

// askSorted also asks that the list stays as it was.
func askSorted(t *testing.T, list []impl.Segment) {
	t.Helper()
	kept, want := slices.Clone(list), slices.Clone(list)
	slices.SortStableFunc(want, func(a, b impl.Segment) int {
		switch {
		case a.From < b.From || a.From == b.From && a.To < b.To:
			return -1
		case a.From == b.From && a.To == b.To:
			return 0
		}
		return 1
	})
	if got := impl.Sorted(list); !slices.Equal(got, want) {
		t.Errorf("Sorted(%v) = %v, want %v", kept, got, want)
	}
	if !slices.Equal(list, kept) {
		t.Errorf("Sorted left %v of %v", list, kept)
	}
}

func askRegimeOk(t *testing.T, what string, r impl.Regime, want bool) {
	t.Helper()
	if got := impl.RegimeOk(r); got != want {
		t.Errorf("%s: RegimeOk(%v) = %v", what, r, got)
	}
	if changes := impl.Changes(r); !want && len(changes) != 0 {
		t.Errorf("%s: Changes(%v) = %v", what, r, changes)
	}
}

func askSame(t *testing.T, what string, a, b impl.Regime, want bool) {
	t.Helper()
	if impl.SameRegime(a, b) != want || impl.SameRegime(b, a) != want {
		t.Errorf("%s: SameRegime(%v, %v) is not %v both ways", what, a, b, want)
	}
}

func TestRegimeConstants(t *testing.T) {
	if impl.MaxSegs != 20 || impl.MaxPatches != 8 || impl.FirstDay != 400 || impl.LastDay != 1090000 {
		t.Error(impl.MaxSegs, impl.MaxPatches, impl.FirstDay, impl.LastDay)
	}
	if impl.TileOk != 0 || impl.TileOverlap != 1 || impl.TileHole != 2 {
		t.Error(impl.TileOk, impl.TileOverlap, impl.TileHole)
	}
}

// Promise 9: of all lists of up to three segments over five days (some without a day), held against a count of each day.
func TestTilesOfAllSmallLists(t *testing.T) {
	t.Parallel()
	eachList([]int{1, 2, 3, 4, 5}, 3, func(list []impl.Segment) {
		for from := 0; from <= 6; from++ {
			for to := 0; to <= 6; to++ {
				askTiles(t, from, to, list, tilesByCount(from, to, list, 0, 6))
			}
		}
	})
}

func TestTilesOfFourSegments(t *testing.T) {
	t.Parallel()
	eachList([]int{-1, 0, 1, 2}, 4, func(list []impl.Segment) {
		for _, days := range [][2]int{{-1, 2}, {0, 1}, {0, 0}, {-2, 3}, {2, -1}} {
			askTiles(t, days[0], days[1], list, tilesByCount(days[0], days[1], list, -2, 3))
		}
	})
}

func TestSortedOfAllSmallLists(t *testing.T) {
	t.Parallel()
	eachList([]int{1, 2, 3, 4}, 3, func(list []impl.Segment) { askSorted(t, list) })
	eachList([]int{1, 2}, 6, func(list []impl.Segment) { askSorted(t, list) })
	eachList([]int{math.MinInt, -1, math.MaxInt}, 3, func(list []impl.Segment) { askSorted(t, list) })
}

func TestKnownTiles(t *testing.T) {
	cases := []struct {
		what     string
		from, to int
		list     []impl.Segment
		want     int
	}{
		{"one day", 5, 5, []impl.Segment{span(5, 5)}, impl.TileOk}, {"one day of three", 4, 6, []impl.Segment{span(5, 5)}, impl.TileHole}, {"three days, each one's", 4, 6, []impl.Segment{span(5, 5), span(6, 6), span(4, 4)}, impl.TileOk},
		{"no day", 5, 5, []impl.Segment{span(5, 4)}, impl.TileHole}, {"no day, none wanted", 5, 4, []impl.Segment{span(5, 4)}, impl.TileOk}, {"no day beside", 1, 9, []impl.Segment{span(1, 9), span(10, 9)}, impl.TileOk},
		{"no day within", 1, 9, []impl.Segment{span(1, 9), span(5, 4)}, impl.TileOk}, {"no day within, ahead", 1, 9, []impl.Segment{span(5, 4), span(1, 9)}, impl.TileOk}, {"no day at the beginning", 1, 9, []impl.Segment{span(1, 0), span(1, 9)}, impl.TileOk},
		{"no day, far back", 1, 9, []impl.Segment{span(9, 1), span(1, 9)}, impl.TileOk}, {"no day across a seam", 1, 9, []impl.Segment{span(1, 4), span(8, 2), span(5, 9)}, impl.TileOk}, {"no day in a hole", 1, 9, []impl.Segment{span(1, 4), span(5, 4), span(6, 9)}, impl.TileHole},
		{"two alike without a day", 1, 9, []impl.Segment{span(7, 3), span(7, 3), span(1, 9)}, impl.TileOk}, {"no day between two that overlap", 1, 9, []impl.Segment{span(1, 6), span(3, 2), span(5, 9)}, impl.TileOverlap},
		{"touch", 1, 9, []impl.Segment{span(1, 5), span(6, 9)}, impl.TileOk}, {"share a day", 1, 9, []impl.Segment{span(1, 5), span(5, 9)}, impl.TileOverlap}, {"a day between", 1, 9, []impl.Segment{span(1, 4), span(6, 9)}, impl.TileHole},
		{"alike", 1, 9, []impl.Segment{span(1, 9), span(1, 9)}, impl.TileOverlap}, {"one within", 1, 9, []impl.Segment{span(1, 9), span(4, 5)}, impl.TileOverlap}, {"one day twice", 5, 5, []impl.Segment{span(5, 5), span(5, 5)}, impl.TileOverlap},
		{"ahead of from", 5, 9, []impl.Segment{span(1, 4), span(5, 9)}, impl.TileOk}, {"behind to", 1, 5, []impl.Segment{span(6, 9), span(1, 5)}, impl.TileOk}, {"far ahead", 5, 9, []impl.Segment{span(1, 2), span(5, 9)}, impl.TileOk}, {"far behind", 1, 5, []impl.Segment{span(1, 5), span(8, 9)}, impl.TileOk},
		{"ahead alone", 5, 9, []impl.Segment{span(1, 4)}, impl.TileHole}, {"behind alone", 1, 5, []impl.Segment{span(6, 9)}, impl.TileHole}, {"across both ends", 3, 5, []impl.Segment{span(1, 9)}, impl.TileOk}, {"across from", 3, 5, []impl.Segment{span(1, 3), span(4, 5)}, impl.TileOk},
		{"first day bare", 1, 9, []impl.Segment{span(2, 9)}, impl.TileHole}, {"last day bare", 1, 9, []impl.Segment{span(1, 8)}, impl.TileHole},
		{"overlap behind to", 1, 9, []impl.Segment{span(1, 9), span(20, 30), span(30, 40)}, impl.TileOverlap}, {"overlap ahead of from", 11, 19, []impl.Segment{span(11, 19), span(1, 5), span(5, 6)}, impl.TileOverlap},
		{"hole, then overlap", 1, 9, []impl.Segment{span(1, 2), span(5, 7), span(7, 9)}, impl.TileOverlap}, {"overlap, then hole", 1, 9, []impl.Segment{span(1, 3), span(3, 4), span(8, 9)}, impl.TileOverlap}, {"hole, and overlap behind to", 1, 9, []impl.Segment{span(1, 3), span(20, 30), span(25, 28)}, impl.TileOverlap},
		{"from above to", 9, 1, nil, impl.TileOk}, {"from above to, covered", 9, 1, []impl.Segment{span(1, 9)}, impl.TileOk}, {"from above to, overlap", 9, 1, []impl.Segment{span(1, 5), span(5, 9)}, impl.TileOverlap}, {"from above to, far off", 9, 1, []impl.Segment{span(20, 30)}, impl.TileOk},
		{"empty list", 1, 9, nil, impl.TileHole}, {"empty list, one day", 5, 5, []impl.Segment{}, impl.TileHole},
		{"whatever the rest is", 1, 9, []impl.Segment{{From: 1, To: 5, Cal: 7, Style: -1, Off: math.MaxInt}, {From: 6, To: 9, Cal: -1, Style: 99, Off: math.MinInt}}, impl.TileOk},
	}
	for _, c := range cases {
		t.Run(c.what, func(t *testing.T) {
			askTiles(t, c.from, c.to, c.list, c.want)
			back := slices.Clone(c.list)
			slices.Reverse(back)
			askTiles(t, c.from, c.to, back, c.want)
		})
	}
}

// Days at both ends of the 64 bits, in segments, in from and in to.
func TestTilesFarOff(t *testing.T) {
	t.Parallel()
	ends := []int{math.MinInt, math.MinInt + 1, -1, 0, impl.FirstDay, math.MaxInt - 1, math.MaxInt}
	eachList(ends, 2, func(list []impl.Segment) {
		for _, from := range ends {
			for _, to := range ends {
				askTiles(t, from, to, list, tilesByEnds(from, to, list))
			}
		}
	})
	eachList([]int{math.MinInt, 0, math.MaxInt - 1, math.MaxInt}, 3, func(list []impl.Segment) {
		askTiles(t, math.MinInt, math.MaxInt, list, tilesByEnds(math.MinInt, math.MaxInt, list))
		askTiles(t, 1, math.MaxInt, list, tilesByEnds(1, math.MaxInt, list))
		askTiles(t, math.MinInt, math.MaxInt-1, list, tilesByEnds(math.MinInt, math.MaxInt-1, list))
	})
	least, most := math.MinInt, math.MaxInt
	askTiles(t, least, most, []impl.Segment{span(least, most)}, impl.TileOk)
	askTiles(t, least, most, []impl.Segment{span(0, most), span(least, -1)}, impl.TileOk)
	askTiles(t, least, most, []impl.Segment{span(most, most), span(least, least), span(least+1, most-1)}, impl.TileOk)
	askTiles(t, least, most, []impl.Segment{span(least, most-1)}, impl.TileHole)
	askTiles(t, least, most, []impl.Segment{span(least+1, most)}, impl.TileHole)
	askTiles(t, least, most, []impl.Segment{span(least, most), span(most, most)}, impl.TileOverlap)
	askTiles(t, least, most, []impl.Segment{span(least, least), span(least, most)}, impl.TileOverlap)
	askTiles(t, least, most, []impl.Segment{span(most, least), span(least, most)}, impl.TileOk)
	askTiles(t, most, least, nil, impl.TileOk)
	askTiles(t, least, most, nil, impl.TileHole)
}

// Lists need not keep to MaxSegs here; they stand in a mixed order.
func TestTilesAndSortedOfLongLists(t *testing.T) {
	t.Parallel()
	for _, count := range []int{7, impl.MaxSegs, impl.MaxSegs + 1, 100, 3000} {
		var list []impl.Segment
		for i := range count {
			at := i * 1009 % count
			list = append(list, impl.Segment{From: 3 * at, To: 3*at + 2, Off: i})
		}
		askTiles(t, 0, 3*count-1, list, impl.TileOk)
		askTiles(t, 0, 3*count, list, impl.TileHole)
		askTiles(t, -1, 3*count-1, list, impl.TileHole)
		askSorted(t, list)
		for _, at := range []int{0, 1, count / 2, count - 1} {
			askTiles(t, 0, 3*count-1, slices.Delete(slices.Clone(list), at, at+1), impl.TileHole)
			more := append(slices.Clone(list), impl.Segment{From: list[at].From + 1, To: list[at].From + 1, Off: count})
			askTiles(t, 0, 3*count-1, more, impl.TileOverlap)
			askTiles(t, 0, 3*count-1, slices.Delete(slices.Clone(more), at, at+1), impl.TileHole)
			askSorted(t, more)
		}
		for i := range list {
			list[i].From, list[i].To = i%3, i%2
		}
		askSorted(t, list)
	}
}

func TestSortedOfNothingAndOfMuch(t *testing.T) {
	if len(impl.Sorted(nil)) != 0 || len(impl.Sorted([]impl.Segment{})) != 0 {
		t.Error("Sorted of nothing is something")
	}
	list := []impl.Segment{{From: 5, To: 9}, {From: 1, To: 8}, {From: 1, To: 3, Off: 2}, {From: 1, To: 3, Off: 1}, {From: 1, To: -4, Style: 9}, {From: math.MinInt, To: math.MaxInt}, {From: math.MaxInt, To: math.MinInt}}
	want := []impl.Segment{list[5], list[4], list[2], list[3], list[1], list[0], list[6]}
	if got := impl.Sorted(list); !slices.Equal(got, want) {
		t.Errorf("Sorted(%v) = %v", list, got)
	}
}

func TestSegmentOk(t *testing.T) {
	days := append([]int{-1, 0, 1, impl.FirstDay - 1, impl.FirstDay, impl.FirstDay + 1, 600000, impl.LastDay - 1, impl.LastDay, impl.LastDay + 1}, farDays...)
	cals := append(slices.Clone(calendars), otherCalendars...)
	styles := append([]int{0, 1, 2, 3, 4, 5, 6}, otherStyles...)
	offs := append([]int{-5, -4, -3, -2, -1, 0, 1, 2, 3, 4, 5, 1 << 32, 1<<32 + 1}, farNumbers...)
	ask := func(from, to, cal, style, off int) {
		t.Helper()
		s := impl.Segment{From: from, To: to, Cal: cal, Style: style, Off: off}
		want := from >= 400 && from <= to && to <= 1090000 && (cal == 0 || cal == 1) && style >= 0 && style <= 6 && off >= -3 && off <= 3
		if got := impl.SegmentOk(s); got != want {
			t.Errorf("SegmentOk(%v) = %v", s, got)
		}
		if got := impl.SegText(s) != ""; got != want {
			t.Errorf("SegText(%v) is a text: %v", s, got)
		}
	}
	for _, from := range days {
		for _, to := range days {
			ask(from, to, impl.CJul, impl.YJan, 0)
			ask(from, to, impl.CGre, impl.YYule, -3)
		}
	}
	for _, cal := range cals {
		for _, style := range styles {
			for _, off := range offs {
				ask(impl.FirstDay, impl.LastDay, cal, style, off)
				ask(600000, 600000, cal, style, off)
				ask(600001, 600000, cal, style, off)
			}
		}
	}
}

func TestRightRegimes(t *testing.T) {
	for _, r := range rightRegimes() {
		askRegimeOk(t, "right", r, true)
		for _, rule := range rules {
			r.Rule = rule
			askRegimeOk(t, "rule", r, true)
		}
		for _, name := range []string{"a", "z", "rome", "abcdefghijklmnop"} {
			r.Name = name
			askRegimeOk(t, "name", r, true)
		}
		for _, rule := range otherRules {
			r.Rule = rule
			askRegimeOk(t, "other rule", r, false)
		}
	}
	askRegimeOk(t, "zero", impl.Regime{}, false)
}

// As many of each list as it may have, and one more.
func TestRegimesAtTheirLimits(t *testing.T) {
	for count := range impl.MaxSegs + 5 {
		askRegimeOk(t, fmt.Sprint(count, " segments"), evenRegime(600000, 2, count), count >= 1 && count <= impl.MaxSegs)
	}
	askRegimeOk(t, "very many segments", evenRegime(600000, 1, 20000), false)
	for count := range 15 {
		r := parisRegime()
		r.Patches = manyPatches(r.From, count)
		askRegimeOk(t, fmt.Sprint(count, " patches"), r, count <= impl.MaxPatches)
	}
	for _, list := range rightTables {
		r := parisRegime()
		r.Reigns = list
		askRegimeOk(t, "right reigns", r, true)
	}
	for _, list := range wrongTables {
		r := parisRegime()
		r.Reigns = list
		askRegimeOk(t, "wrong reigns", r, false)
	}
}

// Each number of a regime in its turn is so far off that it can not be right, and each name in its turn is none.
func TestRegimesWrongInOneField(t *testing.T) {
	full := fullRegime()
	for i := range numbersOf(&full) {
		for _, far := range farNumbers {
			r := fullRegime()
			*numbersOf(&r)[i] = far
			askRegimeOk(t, fmt.Sprint("number ", i), r, false)
		}
	}
	for i := range namesOf(&full) {
		for _, name := range wrongNames {
			r := fullRegime()
			*namesOf(&r)[i] = name
			askRegimeOk(t, fmt.Sprint("name ", i), r, false)
		}
	}
}

// Any day moved by one makes a hole, an overlap, or a segment beyond the regime.
func TestRegimesWithDaysMoved(t *testing.T) {
	for _, right := range rightRegimes() {
		for i := range right.Segs {
			for _, by := range []int{-1, 1} {
				r := copyRegime(right)
				r.Segs[i].From += by
				askRegimeOk(t, "From of a segment", r, false)
				r = copyRegime(right)
				r.Segs[i].To += by
				askRegimeOk(t, "To of a segment", r, false)
			}
			r := copyRegime(right)
			r.Segs = slices.Delete(r.Segs, i, i+1)
			askRegimeOk(t, "a segment less", r, false)
			r = copyRegime(right)
			r.Segs = slices.Insert(r.Segs, i, r.Segs[i])
			askRegimeOk(t, "a segment twice", r, false)
			r = copyRegime(right)
			r.Segs = slices.Insert(r.Segs, i, span(r.Segs[i].From, r.Segs[i].From-1))
			askRegimeOk(t, "a segment without a day", r, false)
			for j := range i {
				r = copyRegime(right)
				r.Segs[i], r.Segs[j] = r.Segs[j], r.Segs[i]
				askRegimeOk(t, "segments out of order", r, false)
			}
		}
		for _, by := range []int{-1, 1} {
			r := copyRegime(right)
			r.From += by
			askRegimeOk(t, "From", r, false)
			r = copyRegime(right)
			r.To += by
			askRegimeOk(t, "To", r, false)
		}
		r := copyRegime(right)
		r.From, r.To = r.To+1, r.From
		askRegimeOk(t, "From above To", r, false)
		for _, segs := range [][]impl.Segment{nil, {}} {
			r.Segs = segs
			askRegimeOk(t, "no segment", r, false)
			r.From = right.From
			r.To = right.From - 1
			askRegimeOk(t, "no segment and no day", r, false)
		}
	}
}

// Regimes may begin on FirstDay and end on LastDay, and not a day beyond.
func TestRegimesAtTheEndsOfTheLine(t *testing.T) {
	for by := -2; by <= 2; by++ {
		askRegimeOk(t, "one day at first", evenRegime(impl.FirstDay+by, 1, 1), by >= 0)
		askRegimeOk(t, "days at first", evenRegime(impl.FirstDay+by, 9, 3), by >= 0)
		askRegimeOk(t, "one day at last", evenRegime(impl.LastDay+by, 1, 1), by <= 0)
		askRegimeOk(t, "days at last", evenRegime(impl.LastDay-26+by, 9, 3), by <= 0)
	}
	for _, n := range farNumbers {
		askRegimeOk(t, "far", impl.Regime{Name: "far", From: n, To: n, Segs: []impl.Segment{span(n, n)}}, false)
	}
	askRegimeOk(t, "all", impl.Regime{Name: "all", From: math.MinInt, To: math.MaxInt, Segs: []impl.Segment{span(math.MinInt, math.MaxInt)}}, false)
}

// Promise 9: of all lists of up to three segments around four days, those are right that are in order, have days of the regime alone, and have each one once.
func TestRegimeOkOfAllSmallLists(t *testing.T) {
	t.Parallel()
	eachList([]int{999, 1000, 1001, 1002, 1003, 1004}, 3, func(list []impl.Segment) {
		for from := 1000; from <= 1003; from++ {
			for to := 999; to <= 1003; to++ {
				r := impl.Regime{Name: "small", From: from, To: to, Segs: list}
				if got, want := impl.RegimeOk(r), rightByCount(r); got != want {
					t.Errorf("RegimeOk(%v) = %v", r, got)
				}
			}
		}
	})
}

func rightByCount(r impl.Regime) bool {
	for i, s := range r.Segs {
		if s.From > s.To || s.From < r.From || s.To > r.To || i > 0 && s.From <= r.Segs[i-1].From {
			return false
		}
	}
	for n := r.From; n <= r.To; n++ {
		if segmentsOn(r.Segs, n) != 1 {
			return false
		}
	}
	return len(r.Segs) > 0
}

// All lists of up to three patches around a regime of three days.
func TestPatchesOfAllSmallLists(t *testing.T) {
	var grow func(list []impl.Patch)
	grow = func(list []impl.Patch) {
		r := evenRegime(1000, 1, 3)
		r.Patches = list
		want := true
		for i, p := range list {
			want = want && p.Day >= 1000 && p.Day <= 1002 && (i == 0 || p.Day > list[i-1].Day)
		}
		askRegimeOk(t, "patches", r, want)
		for day := 998; day <= 1004 && len(list) < 3; day++ {
			grow(append(slices.Clone(list), impl.Patch{Day: day, Month: 2, Dom: 30}))
		}
	}
	grow(nil)
}

func TestPatchesAtTheirEdges(t *testing.T) {
	ask := func(p impl.Patch, want bool) {
		t.Helper()
		r := romeRegime()
		r.Patches = []impl.Patch{p}
		askRegimeOk(t, fmt.Sprint("patch ", p), r, want)
		r.Patches = []impl.Patch{{Day: r.From, Month: 1, Dom: 1}, p}
		askRegimeOk(t, fmt.Sprint("second patch ", p), r, want && p.Day > r.From)
	}
	r := romeRegime()
	for m := -2; m <= 15; m++ {
		for dom := -2; dom <= 35; dom++ {
			ask(impl.Patch{Day: r.From + 9, Month: m, Dom: dom}, m >= 1 && m <= 12 && dom >= 1 && dom <= 31)
		}
	}
	for _, far := range append([]int{0, -1, 256, 1<<32 + 1}, farNumbers...) {
		ask(impl.Patch{Day: r.From + 9, Month: far, Dom: 1}, false)
		ask(impl.Patch{Day: r.From + 9, Month: 1, Dom: far}, false)
		ask(impl.Patch{Day: far, Month: 1, Dom: 1}, false)
	}
	for _, n := range []int{r.From - 1, r.From, r.From + 1, r.Segs[0].To, r.Segs[1].From, r.To - 1, r.To, r.To + 1} {
		ask(impl.Patch{Day: n, Month: 12, Dom: 31}, n >= r.From && n <= r.To)
	}
	ask(impl.Patch{}, false)
}

// Promise 9: each day of a right regime is in one segment, and SegAt tells it.
func TestSegAtEachDay(t *testing.T) {
	for _, r := range rightRegimes() {
		for n := r.From; n <= r.To; n++ {
			i := impl.SegAt(r, n)
			if i < 0 || i >= len(r.Segs) || n < r.Segs[i].From || n > r.Segs[i].To {
				t.Fatalf("SegAt(%v, %d) = %d", r, n, i)
			}
			if r.To-r.From < 10000 && segmentsOn(r.Segs, n) != 1 {
				t.Fatalf("day %d is in %d segments of %v", n, segmentsOn(r.Segs, n), r)
			}
		}
		around := append([]int{0, -1, 1, impl.FirstDay - 1, impl.LastDay + 1}, farDays...)
		for by := 1; by <= 400; by++ {
			around = append(around, r.From-by, r.To+by)
		}
		for _, n := range around {
			if got := impl.SegAt(r, n); got != -1 {
				t.Errorf("SegAt(%v, %d) = %d", r, n, got)
			}
		}
	}
	rome := romeRegime()
	for _, c := range []struct{ n, want int }{{julDay(1581, 12, 31), -1}, {julDay(1582, 1, 1), 0}, {julDay(1582, 10, 4), 0}, {greDay(1582, 10, 15), 1}, {greDay(1583, 12, 31), 1}, {greDay(1584, 1, 1), -1}} {
		if got := impl.SegAt(rome, c.n); got != c.want {
			t.Errorf("SegAt(rome, %d) = %d, want %d", c.n, got, c.want)
		}
	}
}

// A regime need not be right to be asked for a segment: of several that have the day, the first one counts.
func TestSegAtOfWrongRegimes(t *testing.T) {
	t.Parallel()
	ask := func(list []impl.Segment, n int) {
		t.Helper()
		want := slices.IndexFunc(list, func(s impl.Segment) bool { return n >= s.From && n <= s.To })
		if got := impl.SegAt(impl.Regime{Segs: list}, n); got != want {
			t.Errorf("SegAt(%v, %d) = %d, want %d", list, n, got, want)
		}
	}
	eachList([]int{1, 2, 3, 4}, 3, func(list []impl.Segment) {
		for n := range 6 {
			ask(list, n)
		}
	})
	ends := []int{math.MinInt, math.MinInt + 1, 0, math.MaxInt - 1, math.MaxInt}
	eachList(ends, 2, func(list []impl.Segment) {
		for _, n := range append([]int{-1, 1, 500}, ends...) {
			ask(list, n)
		}
	})
	for _, list := range [][]impl.Segment{nil, {}, evenRegime(5, 1, 50).Segs} {
		for _, n := range append([]int{0, 4, 5, 24, 25, 26, 54, 55}, farDays...) {
			ask(list, n)
		}
	}
}

func TestPatchAtEachDay(t *testing.T) {
	for _, r := range append(rightRegimes()[:3], rightRegimes()[4:]...) {
		for n := r.From - 400; n <= r.To+400; n++ {
			askPatchAt(t, r, n)
		}
		for _, n := range append([]int{0, -1, 1}, farDays...) {
			askPatchAt(t, r, n)
		}
	}
	full := fullRegime()
	for _, c := range []struct{ n, want int }{{599999, -1}, {600000, 0}, {600001, -1}, {600099, -1}, {600100, 1}, {600101, -1}, {600399, -1}, {600400, 2}, {600401, -1}} {
		if got := impl.PatchAt(full, c.n); got != c.want {
			t.Errorf("PatchAt(full, %d) = %d, want %d", c.n, got, c.want)
		}
	}
}

func askPatchAt(t *testing.T, r impl.Regime, n int) {
	t.Helper()
	want := slices.IndexFunc(r.Patches, func(p impl.Patch) bool { return p.Day == n })
	if got := impl.PatchAt(r, n); got != want {
		t.Errorf("PatchAt(%v, %d) = %d, want %d", r, n, got, want)
	}
}

// Of two patches on one day the first one counts, be the regime right or not.
func TestPatchAtOfWrongRegimes(t *testing.T) {
	list := []impl.Patch{{Day: 9}, {Day: 5, Month: 13}, {Day: 9, Month: 1, Dom: 1}, {Day: math.MinInt}, {Day: math.MaxInt, Dom: 32}, {Day: 5}, {}}
	r := impl.Regime{Patches: list}
	for _, n := range append([]int{-1, 0, 1, 5, 8, 9, 10}, farDays...) {
		askPatchAt(t, r, n)
		askPatchAt(t, impl.Regime{}, n)
	}
	for _, c := range []struct{ n, want int }{{9, 0}, {5, 1}, {math.MinInt, 3}, {math.MaxInt, 4}, {0, 6}, {math.MaxInt - 1, -1}} {
		if got := impl.PatchAt(r, c.n); got != c.want {
			t.Errorf("PatchAt(%d) = %d, want %d", c.n, got, c.want)
		}
	}
	long := impl.Regime{Patches: manyPatches(5, 100)}
	for n := range 110 {
		askPatchAt(t, long, n)
	}
}

func TestSameRegimes(t *testing.T) {
	list := append(rightRegimes(), impl.Regime{}, impl.Regime{Name: "\xff", From: 9, To: 5, Segs: []impl.Segment{span(7, 3), span(7, 3)}, Patches: []impl.Patch{{}, {}}, Reigns: []impl.Reign{{}}, Rule: -1})
	for i, a := range list {
		askSame(t, "itself", a, a, true)
		askSame(t, "a copy", a, copyRegime(a), true)
		for j, b := range list {
			askSame(t, fmt.Sprint(i, " and ", j), a, copyRegime(b), i == j)
		}
	}
}

// An empty list and nil are alike.
func TestSameRegimesWithoutLists(t *testing.T) {
	none := impl.Regime{Name: "rome", From: 600000, To: 600400}
	empty := none
	empty.Segs, empty.Patches, empty.Reigns = []impl.Segment{}, make([]impl.Patch, 0, 5), []impl.Reign{}
	askSame(t, "nil and empty", none, empty, true)
	full := fullRegime()
	cut := full
	cut.Segs, cut.Patches, cut.Reigns = full.Segs[:0], full.Patches[:0], full.Reigns[:0]
	cut.Name, cut.Rule = none.Name, none.Rule
	askSame(t, "nil and cut", none, cut, true)
	bare, bareToo := romeRegime(), romeRegime()
	bareToo.Patches, bareToo.Reigns = []impl.Patch{}, []impl.Reign{}
	askSame(t, "without patches and reigns", bare, bareToo, true)
}

// Any one number or name that is another makes another regime.
func TestSameRegimesButForOneField(t *testing.T) {
	full := fullRegime()
	for i, number := range numbersOf(&full) {
		for _, other := range append([]int{*number - 1, *number + 1, *number ^ 1<<32, -7}, farNumbers...) {
			c := copyRegime(full)
			*numbersOf(&c)[i] = other
			askSame(t, fmt.Sprint("number ", i), full, c, false)
		}
	}
	for i, name := range namesOf(&full) {
		for _, other := range append([]string{*name + "x", (*name)[1:], strings.ToUpper(*name)}, wrongNames...) {
			c := copyRegime(full)
			*namesOf(&c)[i] = other
			askSame(t, fmt.Sprint("name ", i), full, c, false)
		}
	}
}

// Any segment, patch or reign that is left out, put in, or stands elsewhere makes another regime.
func TestSameRegimesButForOneRow(t *testing.T) {
	full := fullRegime()
	eachOtherList(full.Segs, impl.Segment{}, func(list []impl.Segment) {
		c := full
		c.Segs = list
		askSame(t, "segments", full, c, false)
	})
	eachOtherList(full.Patches, impl.Patch{}, func(list []impl.Patch) {
		c := full
		c.Patches = list
		askSame(t, "patches", full, c, false)
	})
	eachOtherList(full.Reigns, impl.Reign{}, func(list []impl.Reign) {
		c := full
		c.Reigns = list
		askSame(t, "reigns", full, c, false)
	})
}

// eachOtherList calls f with list but for one row, which is left out, put in or stands elsewhere, with none, and with its beginnings in its own memory.
func eachOtherList[T any](list []T, zero T, f func([]T)) {
	f(nil)
	f(append(slices.Clone(list), zero))
	for i := range list {
		f(list[:i])
		f(slices.Delete(slices.Clone(list), i, i+1))
		f(slices.Insert(slices.Clone(list), i, zero))
		f(slices.Insert(slices.Clone(list), i, list[i]))
		for j := range i {
			c := slices.Clone(list)
			c[i], c[j] = c[j], c[i]
			f(c)
		}
	}
}

func TestChanges(t *testing.T) {
	for _, r := range rightRegimes() {
		var want []int
		for n := r.From + 1; n <= r.To; n++ {
			if impl.SegAt(r, n) != impl.SegAt(r, n-1) {
				want = append(want, n)
			}
		}
		if got := impl.Changes(r); !slices.Equal(got, want) || len(got) != len(r.Segs)-1 {
			t.Errorf("Changes(%v) = %v, want %v", r, got, want)
		}
	}
	known := []struct {
		r    impl.Regime
		want []int
	}{
		{parisRegime(), nil}, {romeRegime(), []int{greDay(1582, 10, 15)}}, {fullRegime(), []int{600100, 600101, 600300}}, {evenRegime(600000, 1, 3), []int{600001, 600002}},
		{evenRegime(impl.FirstDay, 1, 1), nil}, {impl.Regime{}, nil}, {evenRegime(600000, 1, impl.MaxSegs+1), nil}, {evenRegime(impl.FirstDay-1, 5, 3), nil},
	}
	for _, c := range known {
		if got := impl.Changes(c.r); !slices.Equal(got, c.want) {
			t.Errorf("Changes(%v) = %v, want %v", c.r, got, c.want)
		}
	}
}

// Two segments that touch and are alike in all but their days are two all the same.
func TestChangesOfSegmentsAlike(t *testing.T) {
	r := impl.Regime{Name: "alike", From: 500, To: 503, Segs: []impl.Segment{span(500, 501), span(502, 502), span(503, 503)}}
	askRegimeOk(t, "alike", r, true)
	if got := impl.Changes(r); !slices.Equal(got, []int{502, 503}) {
		t.Errorf("Changes(%v) = %v", r, got)
	}
}

func TestSegTexts(t *testing.T) {
	offs := map[int]string{-3: " -3", -2: " -2", -1: " -1", 0: "", 1: " +1", 2: " +2", 3: " +3"}
	eachStyle(func(cal, style int) {
		for off, tail := range offs {
			want := []string{"jul", "gre"}[cal] + " " + styleWords[style] + tail
			for _, days := range [][2]int{{impl.FirstDay, impl.LastDay}, {500, 500}, {impl.LastDay, impl.LastDay}} {
				s := impl.Segment{From: days[0], To: days[1], Cal: cal, Style: style, Off: off}
				if got := impl.SegText(s); got != want {
					t.Errorf("SegText(%v) = %q, want %q", s, got, want)
				}
			}
		}
	})
	known := []struct {
		s    impl.Segment
		want string
	}{
		{impl.Segment{From: 500, To: 500, Off: -3}, "jul jan -3"}, {impl.Segment{From: 500, To: 900, Cal: impl.CGre, Style: impl.YEaster, Off: 3}, "gre easter +3"}, {impl.Segment{From: 500, To: 900, Style: impl.YSept}, "jul sept"},
		{impl.Segment{}, ""}, {impl.Segment{From: 500, To: 499}, ""}, {impl.Segment{From: 399, To: 500}, ""}, {impl.Segment{From: 500, To: 1090001}, ""}, {impl.Segment{From: 500, To: 500, Off: 4}, ""}, {impl.Segment{From: 500, To: 500, Off: -4}, ""},
		{impl.Segment{From: 500, To: 500, Cal: 2}, ""}, {impl.Segment{From: 500, To: 500, Style: 7}, ""}, {impl.Segment{From: 500, To: 500, Off: math.MinInt}, ""}, {impl.Segment{From: 500, To: 500, Off: math.MaxInt}, ""},
	}
	for _, c := range known {
		if got := impl.SegText(c.s); got != c.want {
			t.Errorf("SegText(%v) = %q, want %q", c.s, got, c.want)
		}
	}
}

// Nothing is written into a regime or a list of segments, nor into the spare room behind it.
func TestRegimesStayAsTheyWere(t *testing.T) {
	full := fullRegime()
	mixed := full
	mixed.Segs = []impl.Segment{full.Segs[2], full.Segs[0], span(9, 5), full.Segs[3], full.Segs[1]}
	for _, room := range []impl.Regime{full, mixed} {
		kept := copyRegime(room)
		for count := range 4 {
			r := room
			r.Segs, r.Patches, r.Reigns = room.Segs[:count], room.Patches[:min(count, 2)], room.Reigns[:min(count, 2)]
			impl.Sorted(r.Segs)
			impl.Tiles(r.From, r.To, r.Segs)
			impl.RegimeOk(r)
			impl.SegAt(r, r.To)
			impl.PatchAt(r, r.To)
			impl.SameRegime(r, room)
			impl.Changes(r)
		}
		if impl.RegimeOk(room); !impl.SameRegime(room, kept) {
			t.Errorf("the regime is %v now, and was %v", room, kept)
		}
	}
}

func TestRegimeAnswersAreNewMemory(t *testing.T) {
	full := fullRegime()
	sorted, days := impl.Sorted(full.Segs), impl.Changes(full)
	clear(sorted[:cap(sorted)])
	clear(days)
	askSame(t, "the argument", full, fullRegime(), true)
	if got := impl.Changes(full); !slices.Equal(got, []int{600100, 600101, 600300}) {
		t.Errorf("Changes hang on each other: %v", got)
	}
	if got := impl.Sorted(full.Segs); !slices.Equal(got, fullRegime().Segs) {
		t.Errorf("Sorted hang on each other: %v", got)
	}
	one := impl.Sorted(full.Segs[:1])
	one[0].Off = 2
	askSame(t, "the argument", full, fullRegime(), true)
}
