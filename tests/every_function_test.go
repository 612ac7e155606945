package tests

import (
	"fmt"
	"go/ast"
	"go/parser"
	"go/token"
	"hash/fnv"
	"maps"
	"math"
	"math/rand"
	"path/filepath"
	"reflect"
	"slices"
	"strconv"
	"strings"
	"testing"
	"unsafe"

	"loop.example/g00638/impl"
)

// everyFunction has each function that the package hands out.
var everyFunction = map[string]any{
	// Chapter 1.
	"FloorDiv": impl.FloorDiv, "FloorMod": impl.FloorMod, "DecText": impl.DecText, "ReadDec": impl.ReadDec, "PutRoman": impl.PutRoman, "GetRoman": impl.GetRoman,
	"Words": impl.Words, "Lines": impl.Lines, "NameOk": impl.NameOk, "MonthName": impl.MonthName, "MonthOf": impl.MonthOf,
	// Chapter 2.
	"Leap": impl.Leap, "MonthDays": impl.MonthDays, "DateOk": impl.DateOk, "DayOf": impl.DayOf, "DateOf": impl.DateOf, "Weekday": impl.Weekday, "WeekdayName": impl.WeekdayName,
	"DayInYear": impl.DayInYear, "CalName": impl.CalName, "Apart": impl.Apart, "CompareDates": impl.CompareDates,
	// Chapter 3.
	"Golden": impl.Golden, "Epact": impl.Epact, "FullMoon": impl.FullMoon, "EasterTable": impl.EasterTable, "Easter": impl.Easter, "Letter": impl.Letter, "EasterDays": impl.EasterDays, "Moves": impl.Moves,
	// Chapter 4.
	"FeastOk": impl.FeastOk, "Feasts": impl.Feasts, "FeastDay": impl.FeastDay, "FeastsOn": impl.FeastsOn, "FindFeast": impl.FindFeast, "FeastText": impl.FeastText, "ReadFeast": impl.ReadFeast, "FeastPlus": impl.FeastPlus,
	// Chapter 5.
	"RomanOf": impl.RomanOf, "DayOfRoman": impl.DayOfRoman, "RomanText": impl.RomanText, "ReadRoman": impl.ReadRoman, "Nones": impl.Nones, "Ides": impl.Ides,
	// Chapter 6.
	"StyleName": impl.StyleName, "StyleOf": impl.StyleOf, "YearStart": impl.YearStart, "YearDays": impl.YearDays, "StyleYear": impl.StyleYear, "Twins": impl.Twins, "YearText": impl.YearText, "ReadYear": impl.ReadYear, "SolarYears": impl.SolarYears,
	// Chapter 7.
	"EraOk": impl.EraOk, "Eras": impl.Eras, "EraYear": impl.EraYear, "EraSpan": impl.EraSpan, "FindEra": impl.FindEra, "EraText": impl.EraText, "EraDays": impl.EraDays,
	// Chapter 8.
	"ReignsOk": impl.ReignsOk, "ReignAt": impl.ReignAt, "ReignYear": impl.ReignYear, "ReignDays": impl.ReignDays, "ReignText": impl.ReignText, "ReadReign": impl.ReadReign, "Gaps": impl.Gaps, "LastYear": impl.LastYear,
	// Chapter 9.
	"SegmentOk": impl.SegmentOk, "Sorted": impl.Sorted, "Tiles": impl.Tiles, "RegimeOk": impl.RegimeOk, "SegAt": impl.SegAt, "PatchAt": impl.PatchAt, "SameRegime": impl.SameRegime, "Changes": impl.Changes, "SegText": impl.SegText,
	// Chapter 10.
	"DateText": impl.DateText, "ReadDate": impl.ReadDate, "Compile": impl.Compile, "ShowRegime": impl.ShowRegime, "CompText": impl.CompText, "Normal": impl.Normal,
	// Chapter 11.
	"ReadingOf": impl.ReadingOf, "DaysOf": impl.DaysOf, "Year": impl.Year, "Month": impl.Month, "Plain": impl.Plain, "Shift": impl.Shift, "ReadingText": impl.ReadingText, "NextDay": impl.NextDay,
	// Chapter 12.
	"WhenOk": impl.WhenOk, "WhenText": impl.WhenText, "SayingOk": impl.SayingOk, "SayingText": impl.SayingText, "ReadSaying": impl.ReadSaying, "Means": impl.Means, "DaysSaid": impl.DaysSaid, "Read": impl.Read,
	// Chapter 13.
	"Whens": impl.Whens, "Marked": impl.Marked, "Marks": impl.Marks, "Write": impl.Write, "All": impl.All, "Doubtful": impl.Doubtful, "Rewrite": impl.Rewrite,
	// Chapter 14.
	"Convert": impl.Convert, "Concord": impl.Concord, "Same": impl.Same, "Meet": impl.Meet, "Letters": impl.Letters, "Before": impl.Before,
	// Chapter 15.
	"Lost": impl.Lost, "Twice": impl.Twice, "Length": impl.Length, "Fits": impl.Fits, "Dated": impl.Dated, "Agree": impl.Agree, "FeastsIn": impl.FeastsIn,
	// Chapter 16.
	"Desk": impl.Desk, "Act": impl.Act,
}

// handedOut tells the names of arguments of each function that the package hands out, and of each method of its types.
func handedOut(t *testing.T) map[string][]string {
	t.Helper()
	files, err := filepath.Glob("../impl/*.go")
	if err != nil || len(files) == 0 {
		t.Fatal("no files of the package: ", err)
	}
	found := map[string][]string{}
	for _, file := range files {
		tree, err := parser.ParseFile(token.NewFileSet(), file, nil, 0)
		if err != nil {
			t.Fatal(err)
		}
		for _, decl := range tree.Decls {
			f, ok := decl.(*ast.FuncDecl)
			if !ok || !f.Name.IsExported() {
				continue
			}
			if f.Recv != nil && !ast.IsExported(ownerOf(f.Recv.List[0].Type)) {
				continue
			}
			names := []string{}
			for _, field := range f.Type.Params.List {
				for _, name := range field.Names {
					names = append(names, name.Name)
				}
			}
			found[f.Name.Name] = names
		}
	}
	return found
}

func ownerOf(e ast.Expr) string {
	switch x := e.(type) {
	case *ast.StarExpr:
		return ownerOf(x.X)
	case *ast.Ident:
		return x.Name
	}
	return ""
}

func TestEveryFunctionIsHere(t *testing.T) {
	have, want := slices.Sorted(maps.Keys(everyFunction)), slices.Sorted(maps.Keys(handedOut(t)))
	if !slices.Equal(have, want) {
		t.Errorf("the functions asked are %v, those of the package %v", have, want)
	}
}

// ownCopy has memory of its own, and behind each list spare room that is written.
func ownCopy(v reflect.Value, spare int) reflect.Value {
	c := reflect.New(v.Type()).Elem()
	switch v.Kind() {
	case reflect.Struct:
		for i := range v.NumField() {
			c.Field(i).Set(ownCopy(v.Field(i), spare))
		}
	case reflect.Array:
		for i := range v.Len() {
			c.Index(i).Set(ownCopy(v.Index(i), spare))
		}
	case reflect.Slice:
		if v.IsNil() {
			break
		}
		c.Set(reflect.MakeSlice(v.Type(), v.Len()+spare, v.Len()+spare))
		for i := range v.Len() + spare {
			if i < v.Len() {
				c.Index(i).Set(ownCopy(v.Index(i), spare))
			} else {
				mark(c.Index(i), 777)
			}
		}
		c.SetLen(v.Len())
	case reflect.String:
		c.SetString(strings.Clone(v.String()))
	default:
		c.Set(v)
	}
	return c
}

// mark writes into all of a value.
func mark(v reflect.Value, n int64) {
	switch v.Kind() {
	case reflect.Struct:
		for i := range v.NumField() {
			mark(v.Field(i), n)
		}
	case reflect.Array:
		for i := range v.Len() {
			mark(v.Index(i), n)
		}
	case reflect.Slice:
		whole := wholeOf(v)
		for i := range whole.Len() {
			mark(whole.Index(i), n)
		}
	case reflect.Int:
		v.SetInt(n)
	case reflect.Bool:
		v.SetBool(!v.Bool())
	case reflect.String:
		v.SetString("Marked")
	}
}

// wholeOf is a list with its spare room.
func wholeOf(v reflect.Value) reflect.Value {
	return v.Slice3(0, v.Cap(), v.Cap())
}

// alike holds the spare room of lists against each other too.
func alike(a, b reflect.Value) bool {
	switch a.Kind() {
	case reflect.Struct:
		for i := range a.NumField() {
			if !alike(a.Field(i), b.Field(i)) {
				return false
			}
		}
		return true
	case reflect.Slice:
		x, y := wholeOf(a), wholeOf(b)
		if a.Len() != b.Len() || x.Len() != y.Len() {
			return false
		}
		for i := range x.Len() {
			if !alike(x.Index(i), y.Index(i)) {
				return false
			}
		}
		return true
	}
	return reflect.DeepEqual(a.Interface(), b.Interface())
}

func eachAlike(a, b []reflect.Value) bool {
	return slices.EqualFunc(a, b, alike)
}

func ownCopies(list []reflect.Value, spare int) []reflect.Value {
	var copies []reflect.Value
	for _, v := range list {
		copies = append(copies, ownCopy(v, spare))
	}
	return copies
}

// room is what a list or a text takes of the memory.
type room struct{ from, to uintptr }

func (a room) shares(b room) bool { return a.from < b.to && b.from < a.to }

// roomsOf tells those of all lists, and of texts, in a value.
func roomsOf(v reflect.Value, lists, texts *[]room) {
	switch v.Kind() {
	case reflect.Struct:
		for i := range v.NumField() {
			roomsOf(v.Field(i), lists, texts)
		}
	case reflect.Slice:
		if size := uintptr(v.Cap()) * v.Type().Elem().Size(); size > 0 {
			*lists = append(*lists, room{v.Pointer(), v.Pointer() + size})
		}
		for i := range v.Len() {
			roomsOf(v.Index(i), lists, texts)
		}
	case reflect.String:
		if s := v.String(); s != "" {
			from := uintptr(unsafe.Pointer(unsafe.StringData(s)))
			*texts = append(*texts, room{from, from + uintptr(len(s))})
		}
	}
}

// sharing tells what an answer shares with its arguments, or two lists of it with each other.
func sharing(args, out []reflect.Value) string {
	var lists, texts, ownLists, ownTexts []room
	for _, v := range args {
		roomsOf(v, &lists, &texts)
	}
	for _, v := range out {
		roomsOf(v, &ownLists, &ownTexts)
	}
	for i, a := range ownLists {
		if slices.ContainsFunc(ownLists[:i], a.shares) {
			return "two lists of one answer"
		}
		if slices.ContainsFunc(lists, a.shares) {
			return "a list and an argument"
		}
	}
	for _, a := range ownTexts {
		if slices.ContainsFunc(texts, a.shares) {
			return "a text and an argument"
		}
	}
	return ""
}

// caught calls a function, and tells what it panics with.
func caught(f reflect.Value, args []reflect.Value) (out []reflect.Value, told any) {
	defer func() { told = recover() }()
	return f.Call(args), nil
}

// shown are values as a text of a line, cut where it is long.
func shown(list []reflect.Value) string {
	text := fmt.Sprint(list)
	return strconv.Quote(text[:min(500, len(text))])
}

// askEvery asks a function twice: what is written into the first answer changes neither the arguments nor the second one. It tells whether there is an answer but a zero one.
func askEvery(t *testing.T, name string, given []reflect.Value) bool {
	t.Helper()
	f := reflect.ValueOf(everyFunction[name])
	args := ownCopies(given, 3)
	kept := ownCopies(given, 3)
	out, told := caught(f, args)
	if told != nil {
		t.Errorf("%s(%s) panics: %v", name, shown(kept), told)
		return false
	}
	if !eachAlike(args, kept) {
		t.Errorf("%s(%s) writes into its arguments", name, shown(kept))
	}
	if shared := sharing(args, out); shared != "" {
		t.Errorf("%s(%s) shares the memory of %s", name, shown(kept), shared)
	}
	first := ownCopies(out, 0)
	for i := range out {
		spoilt := reflect.New(out[i].Type()).Elem()
		spoilt.Set(out[i])
		mark(spoilt, -99)
	}
	if !eachAlike(args, kept) {
		t.Errorf("an answer of %s(%s) is a piece of its arguments", name, shown(kept))
	}
	second, told := caught(f, args)
	if told != nil || !slices.EqualFunc(ownCopies(second, 0), first, func(a, b reflect.Value) bool { return reflect.DeepEqual(a.Interface(), b.Interface()) }) {
		t.Errorf("%s(%s) answers %s, then %s", name, shown(kept), shown(first), shown(second))
	}
	return slices.ContainsFunc(first, func(v reflect.Value) bool { return !v.IsZero() && !(v.Kind() == reflect.Int && v.Int() == -1) })
}

// Ordinary arguments, by their names and types.
var (
	someDays   = []int{490613, 490895, 490904, 490979, 490980, 490985, 491000, 491069, 491138, 491345, 491350, 600000, 600050, 600099, 600100, 600101, 600299, 600300, 600400, 625000}
	someYears  = []int{1, 1300, 1343, 1344, 1345, 1346, 1347, 1582, 1583, 1642, 1643, 1644, 1712, 2000, 3000}
	someNumber = map[string][]int{
		"a": {0, 7, -7, 1345}, "b": {1, 7, 19}, "cal": {0, 1}, "y": someYears, "solar": someYears, "m": {1, 2, 3, 4, 9, 12}, "d": {1, 5, 24, 29, 31}, "w": {0, 1, 2, 3, 4, 5, 6},
		"style": {0, 1, 2, 3, 4, 5, 6}, "s": {0, 1, 2, 3, 4, 5, 6}, "rule": {0, 1}, "kind": {0, 1, 2}, "marks": {0, 1, 2, 3}, "k": {1, 2, 13, 14, 1345, 6853}, "i": {0, 1, 2, 3}, "days": {0, 1, 7, 400}, "most": {0, 1, 20, 1000},
		"code": {0, 1, 2, 3, 4, 5}, "n": append([]int{1, 7, 1345, 3999}, someDays...), "from": append([]int{1300}, someDays...), "to": append([]int{1345}, someDays...),
	}
	someNames = map[string][]string{"cal": {"jul", "gre"}, "name": {"ad", "mundi", "indiction", "golden", "easter", "christmas", "lady", "sept"}}
	someTexts = []string{
		"0", "1345", "999999999", "MCCCXLV", "XVI kal mar", "a\nb\n", "rome", "jan", "dec", "jul", "gre", "1345-1-1", "1582-10-15", "easter", "christmas", "palm+6", "annunciation+28", "prid non oct", "bis VI kal mar", "lady", "sept",
		"1345/1346", "ad", "mundi", "indiction", "I otto", "XVIII edward", "IV henry", "1 apr 1345", "1 apr 1345/1346 jul", "easter+3 1345", "kal apr 1345", "31 dec 1345", "5 oct 1582", "15 oct 1582", "30 feb 1712", "1 jan 1583", "14 nov 1642", "1 jan 1644",
		parisSource, strings.Join(handLines(fullRegime(), byJul), ""), joinLines(typed(parisRegime())) + "show\nlength 1345\n", "take\nshow\nturn\n", "src a", "take", "turn", "show", "read 1 apr 1345", "conv day 1 apr 1345", "write feast jul 1345-4-1", "all jul 1345-4-1", "about gre 1643-9-24", "lost 1", "length 1345", "eras jul 1345-1-1", "easter jul 1345",
	}
	oddTexts = []string{"", " ", "\n", "\x00", "\xff", "\xe2\x82", "\u00f6", "x", "X", "-", "+", "/", "-1", "01", "10000", "1000000000", "18446744073709551617", "jul ", " jul", "1 apr 1345\n", "  ", "\n\n", "easter+", "/1345", "read ", "conv day ", "src ", "day jul", "abcdefghijklmnopq", "feast", strings.Repeat("x", 9000), strings.Repeat(" ", 9000), strings.Repeat("\n", 9000), strings.Repeat("use \n", 30), strings.Repeat("M", 9000)}
	ends     = []int{math.MinInt, math.MinInt + 1, math.MaxInt - 1, math.MaxInt}
	oddInts  = slices.Concat(daysFromTo(-4, 40), []int{256, 399, 401, 1000, 1001, 3001, 3999, 4000, 9999, 10000, 1090000, 1090001, -1 << 32, 1 << 32, math.MinInt / 2, math.MaxInt / 2}, ends, ends, ends)
)

// someValues are ordinary structs and lists of each type.
func someValues() map[reflect.Type][]reflect.Value {
	reigns := fullRegime().Reigns
	wholeDay, _ := impl.ReadingOf(romeRegime(), greDay(1582, 10, 15))
	parisDay, _ := impl.ReadingOf(parisRegime(), 490985)
	list := []any{
		parisRegime(), romeRegime(), fullRegime(), swedenRegime(), offRegime(), patchedRegime(), veniceRegime(), evenRegime(490900, 40, impl.MaxSegs), impl.Regime{},
		date(0, 1345, 4, 1), date(1, 1582, 10, 15), date(0, 1344, 2, 29), impl.Date{},
		impl.Feasts()[3], impl.Feasts()[9], impl.Feasts()[19], impl.Feast{}, impl.Eras()[0], impl.Eras()[2], impl.Eras()[5], impl.Eras()[6], impl.Era{},
		reigns[0], reigns[1], englishReigns[0], impl.Reign{Name: "short", From: 490900, To: 491400}, impl.Reign{}, reigns, englishReigns, manyReigns(30), []impl.Reign{}, []impl.Reign(nil),
		span(490895, 491000), fullRegime().Segs[0], impl.Segment{}, fullRegime().Segs, romeRegime().Segs, slices.Repeat(romeRegime().Segs, 12), []impl.Segment{}, []impl.Segment(nil),
		impl.RomanOf(date(0, 1345, 4, 1)), impl.RomanOf(date(0, 1344, 2, 24)), impl.Roman{}, wholeDay, parisDay, impl.Reading{},
		whenDay(4, 1), whenRoman(impl.RomanOf(date(0, 1345, 4, 1))), whenFeast("easter", 5), impl.When{}, say(whenDay(4, 1), 1345), say(whenFeast("easter", 5), 1345), say(whenDay(10, 15), 1582), impl.Saying{},
		impl.Session{}, impl.Session{One: parisRegime(), Two: veniceRegime(), Source: parisSource}, impl.Session{One: fullRegime(), Two: romeRegime(), Source: "a\n"}, impl.Session{One: romeRegime()},
		true, false,
	}
	values := map[reflect.Type][]reflect.Value{}
	for _, x := range list {
		v := reflect.ValueOf(x)
		values[v.Type()] = append(values[v.Type()], v)
	}
	return values
}

// slotsOf tells where each number and each text of a value stands.
func slotsOf(v reflect.Value) []reflect.Value {
	var slots []reflect.Value
	switch v.Kind() {
	case reflect.Struct:
		for i := range v.NumField() {
			slots = append(slots, slotsOf(v.Field(i))...)
		}
	case reflect.Slice:
		for i := range v.Len() {
			slots = append(slots, slotsOf(v.Index(i))...)
		}
	case reflect.Int, reflect.String:
		return []reflect.Value{v}
	}
	return slots
}

// asker makes arguments of one function.
type asker struct {
	random *rand.Rand
	types  []reflect.Type
	names  []string
	values map[reflect.Type][]reflect.Value
}

// ordinary has one value for each argument, with memory of its own.
func (a asker) ordinary() []reflect.Value {
	var args []reflect.Value
	for i, kind := range a.types {
		v := reflect.New(kind).Elem()
		switch kind.Kind() {
		case reflect.Int:
			list := someNumber[a.names[i]]
			v.SetInt(int64(list[a.random.Intn(len(list))]))
		case reflect.String:
			list := someNames[a.names[i]]
			if len(list) == 0 || a.random.Intn(4) == 0 {
				list = someTexts
			}
			v.SetString(list[a.random.Intn(len(list))])
		default:
			list := a.values[kind]
			v.Set(ownCopy(list[a.random.Intn(len(list))], 0))
		}
		args = append(args, v)
	}
	// So many days as most functions may be asked for.
	if from, to := slices.Index(a.names, "from"), slices.Index(a.names, "to"); from >= 0 && to >= 0 && a.random.Intn(4) > 0 {
		args[to].SetInt(args[from].Int() + int64(a.random.Intn(400)))
	}
	return args
}

func (a asker) slots(args []reflect.Value) []reflect.Value {
	var slots []reflect.Value
	for _, v := range args {
		slots = append(slots, slotsOf(v)...)
	}
	return slots
}

// put writes something odd.
func (a asker) put(slot reflect.Value) {
	if slot.Kind() == reflect.Int {
		slot.SetInt(int64(oddInts[a.random.Intn(len(oddInts))]))
	} else {
		slot.SetString(oddTexts[a.random.Intn(len(oddTexts))])
	}
}

// Promise 17, for each function: it answers, and writes into no argument, and its answer is new memory, at ordinary arguments, at such as are wrong in one place or more, and at both ends of the 64 bits.
func TestEveryFunctionAtAnyArguments(t *testing.T) {
	values := someValues()
	handed := handedOut(t)
	for name, function := range everyFunction {
		t.Run(name, func(t *testing.T) {
			t.Parallel()
			kind := reflect.TypeOf(function)
			seed := fnv.New32()
			seed.Write([]byte(name))
			a := asker{random: rand.New(rand.NewSource(int64(seed.Sum32()))), names: handed[name], values: values}
			for i := range kind.NumIn() {
				a.types = append(a.types, kind.In(i))
			}
			told := 0
			for tries := 0; tries < 300 || told < 20; tries++ {
				if tries == 6000 {
					t.Fatalf("%s has %d answers of %d at ordinary arguments", name, told, tries)
				}
				if askEvery(t, name, a.ordinary()) {
					told++
				}
			}
			a.askOdd(t, name)
		})
	}
}

// askOdd changes ordinary arguments in one place after the other, then in some at once, then in all.
func (a asker) askOdd(t *testing.T, name string) {
	t.Helper()
	for range 3 {
		args := a.ordinary()
		for i, slot := range a.slots(args) {
			for _, end := range ends {
				changed := ownCopies(args, 0)
				if slot.Kind() == reflect.Int {
					a.slots(changed)[i].SetInt(int64(end))
				} else {
					a.put(a.slots(changed)[i])
				}
				askEvery(t, name, changed)
			}
		}
	}
	for range 300 {
		args := a.ordinary()
		slots := a.slots(args)
		for range a.random.Intn(4) {
			if len(slots) > 0 {
				a.put(slots[a.random.Intn(len(slots))])
			}
		}
		askEvery(t, name, args)
	}
	for i := range 200 {
		args := a.ordinary()
		for _, slot := range a.slots(args) {
			if slot.Kind() == reflect.Int && i < len(ends) {
				slot.SetInt(int64(ends[i]))
			} else {
				a.put(slot)
			}
		}
		askEvery(t, name, args)
	}
}
