package tests

import (
	"fmt"
	"math/rand"
	"slices"
	"strconv"
	"strings"
	"sync"
	"testing"

	"loop.example/g00638/impl"
)

var kindWords = []string{"day", "roman", "feast"}

var codeWords = []string{"ok", "big", "syntax", "overlap", "hole", "other"}

// deskWords is a session that cuts each line into words and counts them; what a line asks for it has from the chapters ahead.
type deskWords struct {
	one, two impl.Regime
	source   string
}

func (x *deskWords) tell(line string) string {
	w := strings.Split(line, " ")
	behind := func(count int) string { return strings.Join(w[count:], " ") }
	switch {
	case w[0] == "src" && len(w) >= 2:
		x.source += behind(1) + "\n"
		return "ok"
	case w[0] == "take" && len(w) == 1:
		r, code := impl.Compile(x.source)
		if x.source = ""; code == 0 {
			x.one = r
		}
		return codeWords[code]
	case w[0] == "turn" && len(w) == 1:
		x.one, x.two = x.two, x.one
		return "ok"
	case w[0] == "show" && len(w) == 1:
		return orDash(strings.Join(strings.Split(impl.ShowRegime(x.one), "\n"), ";"))
	case w[0] == "easter" && len(w) == 3:
		return easterTold(w[1], w[2])
	case w[0] == "write" && len(w) == 4 && slices.Contains(kindWords, w[1]):
		if d, ok := wordsDate(behind(2)); ok {
			return orDash(impl.Write(x.one, impl.DayOf(d), slices.Index(kindWords, w[1])))
		}
	case w[0] == "read" && len(w) >= 2:
		if days, ok := impl.Read(x.one, behind(1)); ok {
			return listWords(julDates(days))
		}
	case w[0] == "conv" && len(w) >= 3 && slices.Contains(kindWords, w[1]):
		return listWords(impl.Convert(x.one, x.two, behind(2), slices.Index(kindWords, w[1])))
	case len(w) == 2:
		return x.tellNumber(w[0], w[1])
	case len(w) == 3:
		return x.tellDate(w[0], behind(1))
	}
	return "what"
}

func (x *deskWords) tellNumber(word, number string) string {
	n, err := strconv.Atoi(number)
	if err != nil || strconv.Itoa(n) != number || n < 0 || n > 9999 {
		return "what"
	}
	switch word {
	case "length":
		return strconv.Itoa(impl.Length(x.one, n))
	case "lost":
		var texts []string
		for _, d := range impl.Lost(x.one, n) {
			texts = append(texts, dateWords(d))
		}
		return listWords(texts)
	}
	return "what"
}

func (x *deskWords) tellDate(word, text string) string {
	d, ok := wordsDate(text)
	if !ok {
		return "what"
	}
	n := impl.DayOf(d)
	switch word {
	case "day":
		return strconv.Itoa(n)
	case "weekday":
		return weekdayWords[((n%7)+7)%7]
	case "roman":
		return romanWords(impl.RomanOf(d))
	case "eras":
		return erasTold(d.Cal, n)
	case "all":
		return listWords(impl.All(x.one, n))
	case "about":
		return orDash(impl.Dated(x.one, n))
	}
	return "what"
}

func orDash(text string) string {
	if text == "" {
		return "-"
	}
	return text
}

func listWords(texts []string) string { return orDash(strings.Join(texts, ",")) }

func julDates(days []int) []string {
	var texts []string
	for _, n := range days {
		texts = append(texts, dayWords(impl.CJul, n))
	}
	return texts
}

func wordsDate(text string) (impl.Date, bool) {
	cal, d := "", impl.Date{}
	fmt.Sscanf(text, "%s %d-%d-%d", &cal, &d.Year, &d.Month, &d.Day)
	d.Cal = slices.Index(calWords[:], cal)
	return d, impl.DateOk(d) && dateWords(d) == text
}

func easterTold(cal, year string) string {
	for c, word := range calWords {
		if y, err := strconv.Atoi(year); err == nil && word == cal && y >= 1 && y <= 3000 && strconv.Itoa(y) == year {
			return dayWords(c, impl.EasterTable(c, y))
		}
	}
	return "what"
}

func erasTold(cal, n int) string {
	var texts []string
	for _, e := range eraRows {
		texts = append(texts, impl.EraText(cal, e.Name, n))
	}
	return strings.Join(texts, ",")
}

// rowsOf cuts rows of a line, a stroke and its answer.
func rowsOf(text string) (lines, answers []string) {
	for row := range strings.Lines(text) {
		row = strings.TrimPrefix(strings.TrimSuffix(row, "\n"), "\t\t")
		if row == "\t" || row == "" {
			continue
		}
		at := strings.LastIndex(row, " | ")
		lines, answers = append(lines, row[:at]), append(answers, row[at+3:])
	}
	return lines, answers
}

// joinLines puts a newline behind each line.
func joinLines(lines []string) string {
	text := ""
	for _, line := range lines {
		text += line + "\n"
	}
	return text
}

func askDesk(t *testing.T, text, want string) {
	t.Helper()
	if got := impl.Desk(text); got != want {
		t.Errorf("Desk(%.300q) = %.300q, want %.300q", text, got, want)
	}
}

// askRows asks a script for each answer, each of its beginnings, and Act for each line.
func askRows(t *testing.T, text string) {
	t.Helper()
	lines, answers := rowsOf(text)
	askActs(t, impl.Session{}, lines, answers)
	for count := 0; count <= len(lines) && !t.Failed(); count++ {
		askDesk(t, joinLines(lines[:count]), joinLines(answers[:count]))
	}
}

// askActs asks for the answer of each line, and that right regimes stay so. It tells the last session.
func askActs(t *testing.T, s impl.Session, lines, answers []string) impl.Session {
	t.Helper()
	x := deskWords{s.One, s.Two, s.Source}
	right := impl.RegimeOk(s.One) && impl.RegimeOk(s.Two)
	for i, line := range lines {
		var said string
		s, said = impl.Act(s, line)
		if said != answers[i] || x.tell(line) != answers[i] {
			t.Errorf("line %d %.200q: %.200q, want %.200q", i, line, said, answers[i])
		}
		askSession(t, line, s, impl.Session{One: x.one, Two: x.two, Source: x.source})
		if right && !(impl.RegimeOk(s.One) && impl.RegimeOk(s.Two)) {
			t.Errorf("line %d %.200q leaves a wrong regime", i, line)
		}
	}
	return s
}

func askSession(t *testing.T, what string, got, want impl.Session) {
	t.Helper()
	askSame(t, what, got.One, want.One, true)
	askSame(t, what, got.Two, want.Two, true)
	if got.Source != want.Source {
		t.Errorf("%.200q: the source is %.200q, want %.200q", what, got.Source, want.Source)
	}
}

// askAct asks for an answer, and for a session that is left as it is.
func askAct(t *testing.T, s impl.Session, line, want string) {
	t.Helper()
	left, said := impl.Act(s, line)
	if said != want {
		t.Errorf("Act(.., %.200q) = %.200q, want %.200q", line, said, want)
	}
	askSession(t, line, left, s)
}

// typed are the lines that make a regime the first one.
func typed(r impl.Regime) []string {
	var lines []string
	for _, line := range handLines(r, byBoth()) {
		lines = append(lines, "src "+strings.TrimSuffix(line, "\n"))
	}
	return append(lines, "take")
}

func TestDeskOfKnownLines(t *testing.T) {
	askRows(t, `
		src regime paris | ok
		src range jul 1344-1-1 jul 1347-12-31 | ok
		src use jul easter jul 1344-1-1 jul 1347-12-31 | ok
		src reign philip jul 1328-4-1 jul 1346-8-26 | ok
		take | ok
		show | regime paris;range jul 1344-1-1 jul 1347-12-31;use jul easter jul 1344-1-1 jul 1347-12-31;reign philip jul 1328-4-1 jul 1346-8-26;
		read 1 apr 1345 | jul 1345-4-1,jul 1346-4-1
		read 1 apr 1345/1346 | jul 1346-4-1
		read kal apr 1345/1345 jul | jul 1345-4-1
		read easter+3 1345 | jul 1345-3-30
		read 1 apr 1345 gre | -
		read 1 jan 1400 | -
		read 31 feb 1345 | -
		read x | what
		write day jul 1345-4-1 | 1 apr 1345/1345
		write roman jul 1345-4-1 | kal apr 1345/1345
		write feast jul 1345-4-1 | easter+5 1345
		write day gre 1345-4-9 | 1 apr 1345/1345
		write feast jul 1345-12-31 | -
		write day jul 1343-12-31 | -
		all jul 1345-4-1 | 1 apr 1345/1345,kal apr 1345/1345,easter+5 1345
		all jul 1345-12-31 | 31 dec 1345,prid kal jan 1345
		all jul 1348-1-1 | -
		about jul 1345-5-1 | 1 may 1345,sun,indiction XIII,XVIII philip
		about jul 1347-5-1 | 1 may 1347,tue,indiction XV,-
		about jul 1348-1-1 | -
		length 1345 | 385
		length 1343 | 94
		length 1342 | 0
		lost 0 | -
		lost 1 | -
		conv day 1 apr 1345 | -
		turn | ok
		show | -
		src regime venice | ok
		src range jul 1344-1-1 jul 1347-12-31 | ok
		src use jul march jul 1344-1-1 jul 1347-12-31 | ok
		take | ok
		conv day 1 apr 1345 | 1 apr 1345/1345
		turn | ok
		conv day 1 apr 1345 | 1 apr 1345,1 apr 1346
		conv roman 1 apr 1345 | kal apr 1345,kal apr 1346
		conv feast 1 apr 1345/1346 | ash+31 1346
		conv feast 31 dec 1345 | -
		conv day 31 feb 1345 | -
		conv day 1 apr | -
		turn | ok
		show | regime venice;range jul 1344-1-1 jul 1347-12-31;use jul march jul 1344-1-1 jul 1347-12-31;
	`)
	askRows(t, `
		src regime rome | ok
		src range jul 1582-1-1 gre 1583-12-31 | ok
		src use gre jan gre 1582-10-15 gre 1583-12-31 | ok
		src use jul jan jul 1582-1-1 jul 1582-10-4 | ok
		take | ok
		show | regime rome;range jul 1582-1-1 jul 1583-12-21;use jul jan jul 1582-1-1 jul 1582-10-4;use gre jan jul 1582-10-5 jul 1583-12-21;
		lost 1 | gre 1582-10-5,gre 1582-10-6,gre 1582-10-7,gre 1582-10-8,gre 1582-10-9,gre 1582-10-10,gre 1582-10-11,gre 1582-10-12,gre 1582-10-13,gre 1582-10-14
		lost 2 | -
		length 1582 | 355
		read 15 oct 1582 | jul 1582-10-5
		read 10 oct 1582 | -
		write day gre 1582-10-15 | 15 oct 1582
		about jul 1582-10-5 | 15 oct 1582,fri,indiction XI,-
		src regime sweden | ok
		src range jul 1712-1-1 jul 1712-12-31 | ok
		src use jul jan jul 1712-3-1 jul 1712-12-31 | ok
		src use jul jan jul 1712-1-1 jul 1712-2-29 +1 | ok
		src patch jul 1712-2-29 feb 30 | ok
		src rule style | ok
		take | ok
		show | regime sweden;range jul 1712-1-1 jul 1712-12-31;use jul jan jul 1712-1-1 jul 1712-2-29 +1;use jul jan jul 1712-3-1 jul 1712-12-31;patch jul 1712-2-29 feb 30;rule style;
		read 30 feb 1712 | jul 1712-2-29
		read prid kal mar 1712 | jul 1712-2-28
		all jul 1712-2-29 | 30 feb 1712
		write day jul 1712-2-29 | 30 feb 1712
		write roman jul 1712-2-29 | -
		write feast jul 1712-2-29 | -
		about jul 1712-2-29 | 30 feb 1712,fri,indiction V,-
		lost 1 | -
		length 1712 | 366
		conv day 1 mar 1712 | -
	`)
}

func TestDeskOfLinesWithoutRegime(t *testing.T) {
	askRows(t, `
		day jul 1-1-1 | -1
		day gre 1-1-1 | 1
		day jul 1-1-2 | 0
		day gre 2000-1-1 | 730120
		day jul 1500-2-29 | 547567
		day gre 3000-12-31 | 1095727
		weekday jul 1-1-1 | sat
		weekday jul 1-1-2 | sun
		weekday gre 1-1-1 | mon
		weekday gre 1970-1-1 | thu
		weekday jul 1582-10-4 | thu
		weekday gre 1582-10-15 | fri
		roman jul 1344-2-24 | bis VI kal mar
		roman gre 1900-2-24 | VI kal mar
		roman gre 1345-3-15 | id mar
		roman jul 1345-12-31 | prid kal jan
		roman jul 1345-1-1 | kal jan
		roman jul 1345-3-3 | V non mar
		eras jul 1345-1-10 | ad MCCCXLV,incarnation MCCCXLIV,mundi 6853,hispania MCCCLXXXIII,urbis MMXCVIII,indiction XIII,bedan XIII,golden XVI,solar X
		easter jul 1345 | jul 1345-3-27
		easter gre 2000 | gre 2000-4-23
		easter jul 1 | jul 1-3-27
		easter gre 1 | gre 1-4-1
		easter jul 0 | what
		easter gre 3001 | what
		easter gre 9999 | what
		easter gre 10000 | what
		easter x 1345 | what
		show | -
		turn | ok
		show | -
		take | syntax
		write day jul 1345-1-1 | -
		write roman jul 1345-1-1 | -
		write feast jul 1345-1-1 | -
		all jul 1345-1-1 | -
		read 1 jan 1345 | what
		read | what
		conv day 1 jan 1345 | -
		conv feast x | -
		about jul 1345-1-1 | -
		lost 0 | -
		lost 1 | -
		length 1345 | 0
	`)
	for y := 2990; y <= 3010; y++ {
		for _, cal := range calWords {
			year := strconv.Itoa(y)
			askDesk(t, "easter "+cal+" "+year+"\n", easterTold(cal, year)+"\n")
			if (impl.Desk("easter "+cal+" "+year+"\n") == "what\n") != (y > 3000) {
				t.Error("easter", cal, y)
			}
		}
	}
}

// An era that has not begun keeps its place.
func TestDeskOfEarlyEras(t *testing.T) {
	askRows(t, `
		eras jul 1-1-1 | ad I,,mundi 5509,hispania XXXIX,urbis DCCLIV,indiction IV,bedan IV,golden II,solar X
		eras gre 1-3-24 | ad I,,mundi 5509,hispania XXXIX,urbis DCCLIV,indiction IV,bedan IV,golden II,solar X
		eras gre 1-3-25 | ad I,incarnation I,mundi 5509,hispania XXXIX,urbis DCCLIV,indiction IV,bedan IV,golden II,solar X
	`)
	for _, cal := range calendars {
		for _, d := range []impl.Date{date(cal, 1, 1, 1), date(cal, 1, 9, 1), date(cal, 3000, 8, 31), date(cal, 3000, 9, 1), date(cal, 3000, 12, 24), date(cal, 3000, 12, 25), date(cal, 3000, 12, 31)} {
			want := erasTold(cal, impl.DayOf(d))
			if strings.Count(want, ",") != 8 {
				t.Errorf("%d eras of %v", strings.Count(want, ",")+1, d)
			}
			askDesk(t, "eras "+dateWords(d)+"\n", want+"\n")
		}
	}
}

// A line has as many words as it must, one blank between two, and none of them with a capital.
func TestDeskOfLinesThatAreNone(t *testing.T) {
	right := []string{
		"take", "turn", "show", "day jul 1345-1-1", "easter jul 1345", "weekday jul 1345-1-1", "roman jul 1345-1-1", "eras jul 1345-1-1",
		"write day jul 1345-1-1", "write roman jul 1345-1-1", "write feast jul 1345-1-1", "all jul 1345-1-1", "about jul 1345-1-1", "lost 1", "length 1345", "length 0", "length 9999", "lost 0", "lost 9999",
	}
	s := impl.Session{One: fullRegime(), Two: romeRegime(), Source: "a\n"}
	for _, line := range right {
		if _, said := impl.Act(s, line); said == "what" {
			t.Errorf("%q is none", line)
		}
		words := strings.Split(line, " ")
		for i := range words {
			if less := strings.Join(slices.Delete(slices.Clone(words), i, i+1), " "); !slices.Contains(right, less) {
				askAct(t, s, less, "what")
			}
			for _, more := range []string{"", "x", words[i], "day", "jul", "1345-1-1", "1", "0", "-", "\xff", "\x00", "\u00f6"} {
				askAct(t, s, strings.Join(slices.Insert(slices.Clone(words), i, more), " "), "what")
				askAct(t, s, line+" "+more, "what")
			}
			for _, other := range []string{"", "x", strings.ToUpper(words[i]), strings.ToUpper(words[i][:1]) + words[i][1:], words[i] + "x", "x" + words[i], words[i][:1], words[i] + "\t", "\xff", words[i] + "\x00"} {
				if other == words[i] || len(other) == 1 && other >= "0" && other <= "9" {
					continue
				}
				changed := slices.Clone(words)
				changed[i] = other
				askAct(t, s, strings.Join(changed, " "), "what")
			}
		}
		for _, other := range []string{" " + line, line + " ", line + "  ", line + "\n", "\n" + line, line + "\r", line + "\t", strings.ReplaceAll(line, " ", "  "), "src" + line, "\ufeff" + line} {
			if other != line {
				askAct(t, s, other, "what")
			}
		}
	}
	for _, line := range []string{"", " ", "  ", "\n", "\x00", "\xff", "\u00f6", "x", "what", "ok", "-", "long", "src", "read", "conv", "conv day", "conv x", "conv day1 apr 1345", "day", "easter", "lost", "length", "write", "write day", "write day jul", "all", "all jul", "src\ta", "Src a", "SRC a", "srca", "read\t1 jan 1345", "Read 1 jan 1345", "Conv day 1 jan 1345", "conv Day 1 jan 1345", "conv DAY 1 jan 1345", "conv  day 1 jan 1345", "conv days 1 jan 1345", "conv year 1 jan 1345", strings.Repeat("x", 9000), strings.Repeat(" ", 9000), strings.Repeat("day ", 3000)} {
		askAct(t, s, line, "what")
	}
}

// DATE is as in chapter 10: of a calendar, and one that it has.
func TestDeskOfDatesThatAreNone(t *testing.T) {
	s := impl.Session{One: parisRegime(), Two: veniceRegime()}
	known := []string{"day", "weekday", "roman", "eras", "write day", "write roman", "write feast", "all", "about"}
	wrong := []string{
		"x", "jul", "1345-1-1", "jul x", "jul 1345", "jul 1345-1", "jul 1345-1-1-1", "jul 1345-1-", "jul -1345-1-1", "jul 1345--1-1", "jul -1-1", "jul --", "jul 1345/1/1", "jul 1345 1 1", "1345-1-1 jul", "jul1345-1-1", "jul-1345-1-1",
		"jul 1345-13-1", "jul 1345-0-1", "jul 1345-1-0", "jul 1345-1-32", "jul 1345-4-31", "jul 1345-2-29", "jul 1300-2-30", "gre 1300-2-29", "gre 1700-2-29", "gre 1900-2-29", "gre 2000-2-30", "jul 0-1-1", "jul 3001-1-1", "gre 9999-1-1", "jul 10000-1-1", "jul 4294968641-1-1",
		"jul 01345-1-1", "jul 1345-01-1", "jul 1345-1-01", "jul +1345-1-1", "jul 1345-1-+1", "jul 1345-1-1.", "jul 1345-jan-1", "jul MCCCXLV-1-1", "Jul 1345-1-1", "GRE 1345-1-1", "ju 1345-1-1", "julian 1345-1-1", "0 1345-1-1", "ad 1345-1-1", "jul 1345-1-1\n", "jul \u0661-1-1", "\xff 1345-1-1", "jul 1345-1-\x00",
	}
	for _, line := range known {
		for _, text := range wrong {
			askAct(t, s, line+" "+text, "what")
		}
		// The leap day of a calendar is one by that calendar alone.
		for _, y := range []int{1300, 1500, 1600, 1700, 1900, 2000, 2004} {
			for cal, word := range calWords {
				text := fmt.Sprintf("%s %s %d-2-29", line, word, y)
				if _, said := impl.Act(s, text); (said == "what") == impl.Leap(cal, y) {
					t.Errorf("%q: %q", text, said)
				}
			}
		}
	}
	for _, kind := range []string{"x", "", "Day", "days", "roma", "feasts", "year", "month", "0", "1", "2", "-", "read", "jul", "day,roman", "\xff"} {
		askAct(t, s, "write "+kind+" jul 1345-1-1", "what")
		askAct(t, s, "conv "+kind+" 1 may 1345", "what")
		askAct(t, s, "write "+kind, "what")
		askAct(t, s, "conv "+kind, "what")
	}
}

func TestDeskOfNumbers(t *testing.T) {
	s := impl.Session{One: romeRegime(), Two: parisRegime()}
	for _, number := range []string{"", "-1", "+1", "00", "01", "01582", "-0", "+0", "10000", "10001", "99999", "1582.", "1582.0", "1e3", "0x5", "1_582", "x", "MDLXXXII", "1582x", "x1582", "1582 ", " 1582", "4294967297", "4294968878", "999999999", "1000000000", "9223372036854775807", "9223372036854775808", "18446744073709551617", "18446744073709553198", "-9223372036854775808", "\u0661", "1\x00", "1\n", strings.Repeat("1", 9000), strings.Repeat("0", 9000) + "1"} {
		for _, line := range []string{"lost ", "length ", "easter jul ", "easter gre "} {
			askAct(t, s, line+number, "what")
		}
	}
	for n := range 10000 {
		number := strconv.Itoa(n)
		lost, length, easter := "-", "0", "what"
		switch n {
		case 1:
			lost = "gre 1582-10-5,gre 1582-10-6,gre 1582-10-7,gre 1582-10-8,gre 1582-10-9,gre 1582-10-10,gre 1582-10-11,gre 1582-10-12,gre 1582-10-13,gre 1582-10-14"
		case 1582:
			length = "355"
		case 1583:
			length = "365"
		}
		if n >= 1 && n <= 3000 {
			easter = dayWords(impl.CGre, greDay(n, 3, 21)+gaussEaster(impl.CGre, n))
		}
		askAct(t, s, "lost "+number, lost)
		askAct(t, s, "length "+number, length)
		askAct(t, s, "easter gre "+number, easter)
	}
}

const parisSource = "regime paris\nrange jul 1344-1-1 jul 1347-12-31\nuse jul easter jul 1344-1-1 jul 1347-12-31\n"

// codeSources has sources of each code, and such as are refused for more than one reason.
func codeSources() map[string]int {
	head := "regime a\nrange jul 1300-1-1 jul 1300-12-31\n"
	whole, half := "use jul jan jul 1300-1-1 jul 1300-12-31\n", "use jul jan jul 1300-1-1 jul 1300-6-30\n"
	patch := "patch jul 1300-1-1 jan 1\n"
	return map[string]int{
		head + whole: impl.CompOk, parisSource: impl.CompOk, head + whole + patch: impl.CompOk,
		"": impl.CompSyntax, "\n": impl.CompSyntax, "x\n": impl.CompSyntax, head + "\n" + whole: impl.CompSyntax, whole + head: impl.CompSyntax, head + whole + "rule day\nrule day\n": impl.CompSyntax,
		strings.Repeat("use\n", 21): impl.CompSyntax, strings.Repeat("use \n", 20): impl.CompSyntax, strings.Repeat("x", impl.MaxSource-1) + "\n": impl.CompSyntax,
		strings.Repeat("use \n", 21): impl.CompBig, head + strings.Repeat(whole, 21): impl.CompBig, strings.Repeat("x", impl.MaxSource) + "\n": impl.CompBig,
		head + whole + half: impl.CompOverlap, head + half + half: impl.CompOverlap, head + half + half + patch + patch: impl.CompOverlap,
		head + half: impl.CompHole, head: impl.CompHole, head + half + patch + patch: impl.CompHole,
		head + whole + patch + patch: impl.CompOther, head + whole + "patch jul 1299-1-1 jan 1\n": impl.CompOther, "regime a\nrange jul 1-1-1 jul 1-1-5\nuse jul jan jul 1-1-1 jul 1-1-5\n": impl.CompOther,
	}
}

// A regime stays where the source is none; the source is gone in either case.
func TestTakeOfEachCode(t *testing.T) {
	told := map[int]int{}
	for source, code := range codeSources() {
		told[code]++
		if _, got := impl.Compile(source); got != code {
			t.Errorf("Compile(%.200q) tells %d, want %d", source, got, code)
		}
		for _, first := range []impl.Regime{{}, romeRegime(), {Name: "Wrong"}} {
			s := impl.Session{One: first, Two: fullRegime(), Source: source}
			one := first
			if code == impl.CompOk {
				one, _ = impl.Compile(source)
			}
			next, said := impl.Act(s, "take")
			if said != codeWords[code] {
				t.Errorf("take of %.200q tells %q, want %q", source, said, codeWords[code])
			}
			askSession(t, "take", next, impl.Session{One: one, Two: fullRegime()})
			again, said := impl.Act(next, "take")
			if said != "syntax" {
				t.Errorf("take of an empty source tells %q", said)
			}
			askSession(t, "take again", again, next)
			// By a script, where the source has as many lines as that may.
			var lines []string
			for _, line := range strings.SplitAfter(source, "\n") {
				if line != "" {
					lines = append(lines, "src "+line)
				}
			}
			if text := strings.Join(lines, "") + "take\nshow\ntake\nsrc x\n"; strings.HasSuffix(source, "\n") {
				shown := orDash(strings.ReplaceAll(impl.ShowRegime(one), "\n", ";"))
				if code != impl.CompOk {
					shown = "-"
				}
				askDesk(t, text, strings.Repeat("ok\n", len(lines))+codeWords[code]+"\n"+shown+"\nsyntax\nok\n")
			}
		}
	}
	for code := range codeWords {
		if told[code] == 0 {
			t.Error("no source of code", code)
		}
	}
	// A source longer than a script may be, as Act may be given.
	for _, source := range []string{strings.Repeat("x", 9000), strings.Repeat("use \n", 5000), strings.Repeat("\n", 9000), strings.Repeat(parisSource, 100), strings.Repeat("\xff", 100000)} {
		next, said := impl.Act(impl.Session{One: romeRegime(), Source: source}, "take")
		if said != "big" {
			t.Errorf("take of %.50q tells %q", source, said)
		}
		askSession(t, "take", next, impl.Session{One: romeRegime()})
		next, said = impl.Act(impl.Session{Source: source}, "src y")
		if said != "ok" || next.Source != source+"y\n" {
			t.Errorf("src behind %d bytes tells %q", len(source), said)
		}
		askAct(t, impl.Session{One: romeRegime(), Source: source}, "length 1582", "355")
		askAct(t, impl.Session{One: romeRegime(), Source: source}, "show", "regime rome;range jul 1582-1-1 jul 1583-12-21;use jul jan jul 1582-1-1 jul 1582-10-4;use gre jan jul 1582-10-5 jul 1583-12-21;")
	}
}

// All behind the first blank is the text, whatever it is.
func TestSrcOfAnyText(t *testing.T) {
	s := impl.Session{One: romeRegime(), Two: parisRegime()}
	for _, rest := range []string{"", " ", "  ", "a", " a", "a ", "a  b", "src a", "take", "regime a", "\t", "\x00", "\xff", "\u00f6", "a\nb", "\n", "\n\n", ";", strings.Repeat("x", 20000), strings.Repeat("\xe2\x82", 40)} {
		for _, source := range []string{"", "x\n", "no newline", "\xff"} {
			s.Source = source
			next, said := impl.Act(s, "src "+rest)
			if said != "ok" {
				t.Errorf("src %.50q tells %q", rest, said)
			}
			askSession(t, "src", next, impl.Session{One: s.One, Two: s.Two, Source: source + rest + "\n"})
			askSession(t, "src", s, impl.Session{One: romeRegime(), Two: parisRegime(), Source: source})
		}
	}
	// A blank too many is one of the source, which so is none.
	askRows(t, `
		src  regime paris | ok
		src range jul 1344-1-1 jul 1347-12-31 | ok
		src use jul easter jul 1344-1-1 jul 1347-12-31 | ok
		take | syntax
		src regime paris | ok
		src range jul 1344-1-1 jul 1347-12-31 | ok
		src use jul easter jul 1344-1-1 jul 1347-12-31 | ok
		src | what
		show | -
		src patch jul 1344-1-1 feb 30 | ok
		take | ok
		src  | ok
		take | syntax
		show | regime paris;range jul 1344-1-1 jul 1347-12-31;use jul easter jul 1344-1-1 jul 1347-12-31;patch jul 1344-1-1 feb 30;
	`)
}

// A source is in pieces of any kind: a line may be taken ahead of its newline only by Act.
func TestTakeOfPieces(t *testing.T) {
	for at := range len(parisSource) {
		next, said := impl.Act(impl.Session{Source: parisSource[:at]}, "src "+parisSource[at:len(parisSource)-1])
		if said != "ok" || next.Source != parisSource {
			t.Errorf("src tells %q, and the source is %q", said, next.Source)
		}
		next, said = impl.Act(next, "take")
		if said != "ok" || !impl.SameRegime(next.One, parisRegime()) || next.Source != "" {
			t.Errorf("take tells %q", said)
		}
	}
}

func TestTurn(t *testing.T) {
	rome, paris := romeRegime(), parisRegime()
	for _, s := range []impl.Session{{}, {One: rome}, {Two: rome}, {One: rome, Two: paris}, {One: rome, Two: rome}, {One: rome, Two: paris, Source: "a\n"}, {One: impl.Regime{Name: "Wrong"}, Two: rome}} {
		next, said := impl.Act(s, "turn")
		if said != "ok" {
			t.Errorf("turn tells %q", said)
		}
		askSession(t, "turn", next, impl.Session{One: s.Two, Two: s.One, Source: s.Source})
		back, _ := impl.Act(next, "turn")
		askSession(t, "turn back", back, s)
	}
	lines := append(typed(rome), "turn", "show", "turn", "show", "turn", "turn", "show", "turn", "take", "show")
	answers := slices.Repeat([]string{"ok"}, len(lines))
	shown := strings.ReplaceAll(impl.ShowRegime(rome), "\n", ";")
	copy(answers[len(typed(rome)):], []string{"ok", "-", "ok", shown, "ok", "ok", shown, "ok", "syntax", "-"})
	askDesk(t, joinLines(lines), joinLines(answers))
	askActs(t, impl.Session{}, lines, answers)
}

func TestDeskOfSayings(t *testing.T) {
	s := impl.Session{One: parisRegime(), Two: veniceRegime(), Source: "a\n"}
	texts := slices.DeleteFunc(slices.Clone(noSayingTexts), func(text string) bool { return strings.Contains(text, "\n") })
	for _, text := range append(texts, "\n", "1 jan\n1345", "1 jan 1345\n") {
		askAct(t, s, "read "+text, "what")
		for _, kind := range kindWords {
			askAct(t, s, "conv "+kind+" "+text, "-")
		}
		if script := "read " + text + "\nconv day " + text + "\n"; len(script) <= impl.MaxScript && !strings.Contains(text, "\n") {
			askDesk(t, joinLines(typed(s.One))+script, strings.Repeat("ok\n", len(typed(s.One)))+"what\n-\n")
		}
	}
	askAct(t, s, "read easter 1345", "jul 1345-3-27")
	askAct(t, s, "read easter+3 1345/1345 jul", "jul 1345-3-30")
	askAct(t, s, "read 1 apr 1345", "jul 1345-4-1,jul 1346-4-1")
	askAct(t, s, "read 1 apr 1345 ", "what")
	askAct(t, s, "read  1 apr 1345", "what")
	askAct(t, s, "conv day 1 apr 1345", "1 apr 1345,1 apr 1346")
	askAct(t, s, "conv day 1 apr 1345 ", "-")
	askAct(t, s, "conv day  1 apr 1345", "-")
	askAct(t, s, "conv feast 31 dec 1345", "-")
	// Of two days one alone may have a writing there.
	s.Two.From, s.Two.To, s.Two.Segs = julDay(1346, 1, 1), julDay(1346, 12, 31), []impl.Segment{span(julDay(1346, 1, 1), julDay(1346, 12, 31))}
	askAct(t, s, "conv day 1 apr 1345", "1 apr 1346")
	askAct(t, s, "conv roman 1 apr 1345", "kal apr 1346")
	askAct(t, s, "conv day 1 apr 1345/1345", "-")
}

// A script has at most 80 lines and MaxScript bytes, and a newline at its end.
func TestScripts(t *testing.T) {
	askDesk(t, "", "")
	askDesk(t, "\n", "what\n")
	for _, text := range []string{"x", "show", "show\nshow", "\nx", " ", "\x00", "\xff", "show\n ", "show\n\x00", "show\r"} {
		askDesk(t, text, "long\n")
	}
	for count := range 90 {
		for line, answer := range map[string]string{"": "what\n", "show": "-\n", "src \u00f6": "ok\n", "\xe2\x82": "what\n", "day jul 1345-1-1": "490895\n"} {
			text, want := strings.Repeat(line+"\n", count), strings.Repeat(answer, count)
			if count > 80 {
				want = "long\n"
			}
			askDesk(t, text, want)
			askDesk(t, text+"x", "long\n")
			askDesk(t, "x"+text, map[bool]string{true: "long\n", false: strings.Replace(want, answer, "what\n", min(count, 1))}[count == 0 || count > 80])
		}
	}
	for size := impl.MaxScript - 20; size <= impl.MaxScript+20; size++ {
		for _, line := range []string{"x", "\u00f6", "\xff", " ", "src a"} {
			room := size - len("show\n\n")
			text := "show\n" + strings.Repeat(line, room/len(line)) + strings.Repeat("y", room%len(line)) + "\n"
			want := "-\nwhat\n"
			if line == "src a" {
				want = "-\nok\n"
			}
			if size > impl.MaxScript {
				want = "long\n"
			}
			if len(text) != size {
				t.Fatal(len(text), "are no", size, "bytes")
			}
			askDesk(t, text, want)
			askDesk(t, text[:size-1], "long\n")
		}
	}
	// Both limits at once.
	full := strings.Repeat(strings.Repeat("x", 99)+"\n", 80)
	askDesk(t, full, strings.Repeat("what\n", 80))
	askDesk(t, "x"+full, "long\n")
	askDesk(t, full+"\n", "long\n")
	askDesk(t, full[1:]+"\n", "long\n")
	for _, text := range []string{strings.Repeat("\n", 100000), strings.Repeat("x", 100000), strings.Repeat("show\n", 100000)} {
		askDesk(t, text, "long\n")
	}
}

// A newline alone ends a line, whatever signs are beside it.
func TestScriptsOfAnyBytes(t *testing.T) {
	for b := range 256 {
		sign := string([]byte{byte(b)})
		if sign == "\n" {
			continue
		}
		want := "what\n-\n"
		askDesk(t, sign+"\nshow\n", want)
		askDesk(t, "x"+sign+"\nshow\n", want)
		askDesk(t, sign+sign+sign+"\nshow\n", want)
		askDesk(t, "src"+" "+sign+"\nshow\n", "ok\n-\n")
		if sign != " " {
			askDesk(t, "show"+sign+"\n"+"show\n", want)
			askDesk(t, sign+"show\n"+"show\n", want)
		}
	}
	for _, sign := range []string{"\xe2\x82", "\xf0\x9f\x98", "\xc3", "\xed\xa0\x80", "\ufeff", "\u2028", "\u0085", "\u010a", "\r", "\v", "\f"} {
		askDesk(t, sign+"\nshow\n", "what\n-\n")
		askDesk(t, "show"+sign+"\nshow\n", "what\n-\n")
	}
}

// deskRegimes are right ones that a script has room for.
func deskRegimes() []impl.Regime {
	return slices.DeleteFunc(auditRegimes(), func(r impl.Regime) bool {
		lines := typed(r)
		return len(lines) > 30 || len(joinLines(lines)) > 2500
	})
}

// someLine asks for something that may be found in a regime.
func someLine(random *rand.Rand, r impl.Regime) string {
	n := r.From - 2 + random.Intn(r.To-r.From+5)
	day := dayWords(random.Intn(2), n)
	kind := random.Intn(3)
	saying := impl.Write(r, n, kind)
	if x, ok := impl.Marked(r, n, kind, random.Intn(4)); ok {
		saying = impl.SayingText(x)
	}
	if saying == "" {
		saying = []string{"", "x", "1 jan 1345", "31 feb 1345", "easter 1582"}[random.Intn(5)]
	}
	x, _ := impl.ReadingOf(r, n)
	switch random.Intn(14) {
	case 0:
		return "turn"
	case 1:
		return "show"
	case 2:
		return "lost " + strconv.Itoa(random.Intn(len(r.Segs)+1))
	case 3:
		return "length " + strconv.Itoa(x.Year)
	case 4:
		return "easter " + calWords[random.Intn(2)] + " " + strconv.Itoa(x.Year)
	case 5:
		return "read " + saying
	case 6, 7:
		return "conv " + kindWords[random.Intn(3)] + " " + saying
	case 8:
		return "write " + kindWords[kind] + " " + day
	}
	return []string{"day", "weekday", "roman", "eras", "all", "about", "all", "about"}[random.Intn(8)] + " " + day
}

// otherLine has a word more or less, or another one, or a blank or a capital.
func otherLine(random *rand.Rand, line string) string {
	words := strings.Split(line, " ")
	i := random.Intn(len(words))
	switch random.Intn(6) {
	case 0:
		words = slices.Delete(words, i, i+1)
	case 1:
		words = slices.Insert(words, i, words[random.Intn(len(words))])
	case 2:
		words[i] = []string{"", "x", "day", "roman", "feast", "jul", "gre", "0", "9999", "10000", "-1", "1345-1-1", "take", "src"}[random.Intn(14)]
	case 3:
		words[i] = strings.ToUpper(words[i])
	case 4:
		words[i] = " " + words[i]
	case 5:
		return line + " "
	}
	return strings.Join(words, " ")
}

// Promise 16: each answer is what the chapters say, by Desk and by Act; a script's answers begin with those of its beginnings; right regimes stay so.
func TestDeskByChance(t *testing.T) {
	random := rand.New(rand.NewSource(16))
	list := deskRegimes()
	if len(list) < 20 {
		t.Fatal("too few regimes")
	}
	told := map[string]int{}
	for range 400 {
		a := list[random.Intn(len(list))]
		b := besideRegime(random, a)
		lines := append(append(typed(b), "turn"), typed(a)...)
		if len(lines) > 60 || random.Intn(4) == 0 {
			lines = typed(a)
		}
		for len(lines) < 80 {
			line := someLine(random, a)
			if random.Intn(8) == 0 {
				line = otherLine(random, line)
			}
			lines = append(lines, line)
		}
		askScript(t, random, lines, told)
	}
	for _, word := range []string{"src", "take", "turn", "show", "day", "easter", "weekday", "roman", "eras", "write", "all", "read", "conv", "about", "lost", "length"} {
		if told[word] < 50 {
			t.Errorf("%s is answered %d times", word, told[word])
		}
	}
}

// askScript counts the lines by their first word that have an answer of their own.
func askScript(t *testing.T, random *rand.Rand, lines []string, told map[string]int) {
	t.Helper()
	for len(joinLines(lines)) > impl.MaxScript {
		lines = lines[:len(lines)-1]
	}
	var x deskWords
	var answers []string
	for _, line := range lines {
		said := x.tell(line)
		answers = append(answers, said)
		if said != "what" && said != "-" {
			told[strings.Split(line, " ")[0]]++
		}
	}
	for _, count := range []int{random.Intn(len(lines) + 1), random.Intn(len(lines) + 1), len(lines)} {
		askDesk(t, joinLines(lines[:count]), joinLines(answers[:count]))
	}
	askActs(t, impl.Session{}, lines, answers)
}

// Regimes that are right stay so behind any line, from a session that has two of them.
func TestActKeepsRightRegimes(t *testing.T) {
	random := rand.New(rand.NewSource(17))
	for _, r := range auditRegimes() {
		s := impl.Session{One: r, Two: besideRegime(random, r)}
		var lines []string
		for range 60 {
			lines = append(lines, someLine(random, r))
			switch random.Intn(12) {
			case 0:
				lines = append(lines, "take")
			case 1:
				source := handLines(r, byBoth())
				lines = append(lines, "src "+strings.TrimSuffix(source[random.Intn(len(source))], "\n"))
			}
		}
		for source := range codeSources() {
			lines = append(lines, "src "+strings.TrimSuffix(source, "\n"), "take", "show", "turn")
		}
		x := deskWords{s.One, s.Two, s.Source}
		var answers []string
		for _, line := range lines {
			answers = append(answers, x.tell(line))
		}
		askActs(t, s, lines, answers)
	}
}

// Of a wrong regime, wherever it is wrong, there is nothing; it stays as it is.
func TestActInWrongRegimes(t *testing.T) {
	rows := map[string]string{
		"show": "-", "write day jul 1642-10-5": "-", "write roman gre 1643-1-1": "-", "write feast jul 1643-4-9": "-", "all jul 1642-10-5": "-", "read 5 oct 1642": "what", "read easter 1643": "what", "read x": "what",
		"conv day 5 oct 1642": "-", "conv roman 5 oct 1642": "-", "conv feast x": "-", "about jul 1642-10-5": "-", "lost 1": "-", "lost 3": "-", "lost 0": "-", "length 1642": "0", "length 1643": "0", "length 0": "0",
		"day jul 1345-1-1": "490895", "easter gre 2000": "gre 2000-4-23", "weekday jul 1345-1-1": "sat", "roman jul 1344-2-24": "bis VI kal mar", "": "what", "x": "what", "day x": "what", "write x jul 1345-1-1": "what",
	}
	full := fullRegime()
	for _, r := range wrongRegimes() {
		askRegimeOk(t, "wrong", r, false)
		for line, want := range rows {
			askAct(t, impl.Session{One: r, Two: full, Source: "a\n"}, line, want)
			askAct(t, impl.Session{One: r, Two: r}, line, want)
		}
		for _, n := range []int{600000, 600050, 600100, 600101, 600303} {
			s := impl.Session{One: full, Two: r}
			text := impl.Write(full, n, impl.WDay)
			askAct(t, s, "conv day "+text, "-")
			askAct(t, s, "read "+text, dayWords(impl.CJul, n))
			askAct(t, s, "about "+dayWords(impl.CGre, n), impl.Dated(full, n))
		}
		turned, said := impl.Act(impl.Session{One: full, Two: r, Source: "b"}, "turn")
		if said != "ok" {
			t.Errorf("turn tells %q", said)
		}
		askSession(t, "turn", turned, impl.Session{One: r, Two: full, Source: "b"})
		next, said := impl.Act(impl.Session{One: r, Two: r, Source: parisSource}, "take")
		if said != "ok" {
			t.Errorf("take tells %q", said)
		}
		askSession(t, "take", next, impl.Session{One: parisRegime(), Two: r})
		next, said = impl.Act(impl.Session{One: r, Two: full}, "src a")
		if said != "ok" {
			t.Errorf("src tells %q", said)
		}
		askSession(t, "src", next, impl.Session{One: r, Two: full, Source: "a\n"})
	}
}

// spoil writes into all that a regime's lists have room for.
func spoil(r impl.Regime) {
	for i := range r.Segs[:cap(r.Segs)] {
		r.Segs[:cap(r.Segs)][i] = impl.Segment{From: -1, To: -1, Cal: -1, Style: -1, Off: -1}
	}
	for i := range r.Patches[:cap(r.Patches)] {
		r.Patches[:cap(r.Patches)][i] = impl.Patch{Day: -1, Month: -1, Dom: -1}
	}
	for i := range r.Reigns[:cap(r.Reigns)] {
		r.Reigns[:cap(r.Reigns)][i] = impl.Reign{Name: "Spoilt", From: -1, To: -1}
	}
}

// Nothing is written into a session, and no list of an answer is one of another regime.
func TestActAnswersAreNewMemory(t *testing.T) {
	lines := []string{"src a", "take", "turn", "show", "day jul 1345-1-1", "easter jul 1345", "weekday jul 1345-1-1", "roman jul 1345-1-1", "eras jul 1345-1-1", "write day gre 1643-9-24", "all gre 1643-9-24", "read 5 oct 1643", "conv day 5 oct 1643", "about gre 1643-9-24", "lost 3", "length 1643", "", "what", "write x jul 1345-1-1"}
	for _, source := range []string{"", "a\n", parisSource} {
		for _, line := range lines {
			room := fullRegime()
			one := room
			one.Segs, one.Patches, one.Reigns = room.Segs[:3], room.Patches[:2], room.Reigns[:2]
			// Both regimes have the same lists.
			s := impl.Session{One: one, Two: room, Source: source}
			first, said := impl.Act(s, line)
			askSame(t, line, room, fullRegime(), true)
			kept := impl.Session{One: copyRegime(first.One), Two: copyRegime(first.Two), Source: first.Source}
			spoil(first.One)
			askSame(t, line, first.Two, kept.Two, true)
			askSame(t, line, room, fullRegime(), true)
			spoil(first.Two)
			askSame(t, line, room, fullRegime(), true)
			again, saidAgain := impl.Act(s, line)
			if said != saidAgain {
				t.Errorf("%q: %q, then %q", line, said, saidAgain)
			}
			askSession(t, line, again, kept)
		}
	}
	// What was the first one is none of the second one's, though both were one.
	s := impl.Session{One: fullRegime()}
	s.Two = s.One
	for _, line := range []string{"turn", "show", "x"} {
		next, _ := impl.Act(s, line)
		spoil(next.Two)
		askSame(t, line, next.One, fullRegime(), true)
	}
}

// Nothing is kept from one script to another, and none waits for another one.
func TestDeskOfManyAtOnce(t *testing.T) {
	list := deskRegimes()[:8]
	var asked sync.WaitGroup
	for i := range 32 {
		asked.Go(func() {
			r := list[i%len(list)]
			lines := append(typed(r), "show", "turn", "show", "take", "show")
			shown := strings.ReplaceAll(impl.ShowRegime(r), "\n", ";")
			answers := append(slices.Repeat([]string{"ok"}, len(lines)-5), shown, "ok", "-", "syntax", "-")
			for range 20 {
				askDesk(t, joinLines(lines), joinLines(answers))
			}
		})
	}
	asked.Wait()
}
