package tests

import (
	"fmt"
	"math"
	"math/big"
	"slices"
	"strings"
	"testing"

	"loop.example/g00638/impl"
)

// eachText calls f with every text of the given signs, of 0 .. most of them.
func eachText(signs string, most int, f func(string)) {
	level := []string{""}
	for n := 0; n <= most; n++ {
		var next []string
		for _, s := range level {
			f(s)
			for i := range len(signs) {
				next = append(next, s+signs[i:i+1])
			}
		}
		level = next
	}
}

func TestFloorBySmallNumbers(t *testing.T) {
	cases := []struct{ a, b, q, r int }{
		{7, 2, 3, 1}, {-7, 2, -4, 1}, {-8, 4, -2, 0}, {0, 5, 0, 0}, {-1, 5, -1, 4},
		{-5, 5, -1, 0}, {-6, 5, -2, 4}, {4, 5, 0, 4}, {5, 5, 1, 0}, {-3, 1, -3, 0},
	}
	for _, c := range cases {
		if q, r := impl.FloorDiv(c.a, c.b), impl.FloorMod(c.a, c.b); q != c.q || r != c.r {
			t.Errorf("%d by %d: got %d and %d, want %d and %d", c.a, c.b, q, r, c.q, c.r)
		}
	}
}

func TestFloorAtTheEnds(t *testing.T) {
	var numbers []int
	for _, n := range []int{math.MinInt, math.MinInt / 2, -1000000007, 0, 1000000007, math.MaxInt / 2, math.MaxInt} {
		for d := -9; d <= 9; d++ {
			numbers = append(numbers, n+d) // wraps round at the ends, to the other one
		}
	}
	for _, a := range numbers {
		for _, b := range numbers {
			q, r := 0, 0
			if b > 0 {
				x, y := new(big.Int).DivMod(big.NewInt(int64(a)), big.NewInt(int64(b)), new(big.Int))
				q, r = int(x.Int64()), int(y.Int64())
			}
			if got := impl.FloorDiv(a, b); got != q {
				t.Errorf("FloorDiv(%d, %d) = %d, want %d", a, b, got, q)
			}
			if got := impl.FloorMod(a, b); got != r {
				t.Errorf("FloorMod(%d, %d) = %d, want %d", a, b, got, r)
			}
		}
	}
}

func TestFloorByNoDivisor(t *testing.T) {
	for _, a := range []int{math.MinInt, -7, -1, 0, 1, 7, math.MaxInt} {
		for _, b := range []int{0, -1, -2, -7, math.MinInt} {
			if q, r := impl.FloorDiv(a, b), impl.FloorMod(a, b); q != 0 || r != 0 {
				t.Errorf("%d by %d: got %d and %d, want 0 and 0", a, b, q, r)
			}
		}
	}
}

func TestDecText(t *testing.T) {
	cases := map[int]string{
		0: "0", 7: "7", -7: "-7", 10: "10", -120: "-120", 100200: "100200", 999999999: "999999999", 1000000000: "1000000000",
		math.MaxInt: "9223372036854775807", math.MinInt: "-9223372036854775808",
	}
	for n, want := range cases {
		if got := impl.DecText(n); got != want {
			t.Errorf("DecText(%d) = %q, want %q", n, got, want)
		}
	}
}

func TestReadDecComesBack(t *testing.T) {
	for n := 0; n <= 999999999; n += 1 + n/500 {
		s := fmt.Sprintf("%d", n)
		if impl.DecText(n) != s || impl.ReadDec(s) != n {
			t.Fatalf("%d: text %q, back %d", n, impl.DecText(n), impl.ReadDec(s))
		}
	}
	for _, n := range []int{0, 9, 10, 99, 100, 99999999, 100000000, 999999998, 999999999} {
		if got := impl.ReadDec(impl.DecText(n)); got != n {
			t.Errorf("ReadDec(DecText(%d)) = %d", n, got)
		}
	}
}

func TestReadDecOfNoNumber(t *testing.T) {
	wrong := []string{
		"", "00", "01", "007", "000000001", "0999999999", "+1", "+0", "-0", "-1", "-120", "1-", " 1", "1 ", "1 2", "1\n", "1_000", "1.", "1.0", "1e3", "0x1",
		"1000000000", "9999999999", "18446744073709551617", "9223372036854775808", strings.Repeat("9", 1000), strings.Repeat("0", 1000),
		"a", "1a", "/", ":", "1:", "1/", "\x00", "1\x00", "\xb1", "١", "１", "XII",
	}
	for _, s := range wrong {
		if got := impl.ReadDec(s); got != -1 {
			t.Errorf("ReadDec(%q) = %d, want -1", s, got)
		}
	}
}

func TestReadDecOfAllShortTexts(t *testing.T) {
	right := map[string]int{}
	for n := range 100000 {
		right[fmt.Sprintf("%d", n)] = n
	}
	eachText("019 -+/:", 5, func(s string) {
		want, ok := right[s]
		if !ok {
			want = -1
		}
		if got := impl.ReadDec(s); got != want {
			t.Errorf("ReadDec(%q) = %d, want %d", s, got, want)
		}
	})
}

// numeral tells it another way than the program: the greatest of thirteen that still goes, again and again.
func numeral(n int) string {
	steps := []struct {
		value int
		signs string
	}{
		{1000, "M"}, {900, "CM"}, {500, "D"}, {400, "CD"}, {100, "C"}, {90, "XC"}, {50, "L"}, {40, "XL"}, {10, "X"}, {9, "IX"}, {5, "V"}, {4, "IV"}, {1, "I"},
	}
	text := ""
	for _, step := range steps {
		for n >= step.value {
			n -= step.value
			text += step.signs
		}
	}
	return text
}

func TestRomanComesBack(t *testing.T) {
	if impl.MaxNumeral != 3999 {
		t.Fatal("MaxNumeral", impl.MaxNumeral)
	}
	for n := 1; n <= impl.MaxNumeral; n++ {
		want := numeral(n)
		if got := impl.PutRoman(n); got != want {
			t.Errorf("PutRoman(%d) = %q, want %q", n, got, want)
		}
		if got := impl.GetRoman(want); got != n {
			t.Errorf("GetRoman(%q) = %d, want %d", want, got, n)
		}
	}
}

func TestRomanBeyond(t *testing.T) {
	for _, n := range []int{0, -1, -4, -1000, 4000, 4001, 10000, 1 << 32, math.MinInt, math.MaxInt} {
		if got := impl.PutRoman(n); got != "" {
			t.Errorf("PutRoman(%d) = %q, want nothing", n, got)
		}
	}
}

func TestRomanOfNoNumeral(t *testing.T) {
	wrong := []string{
		"", "IIII", "XXXX", "CCCC", "MMMM", "VV", "LL", "DD", "VX", "LC", "DM", "IC", "IL", "ID", "IM", "XD", "XM", "VIV", "IVI", "IXI", "XIIX", "IIX", "IIV",
		"CMC", "CMCM", "XCX", "IXX", "VIIII", "DCCCC", "CMD", "XCL", "IXV", "IM", "CMM", "MMMCMXCIXI", "MMMMCMXCIX", "IIVX", "VM",
		"i", "iv", "mcm", "Iv", "xI", "MCMXCIx", " I", "I ", "X I", "I\n", "\n", "1", "a", "IA", "XaI", "aX", "I\x00", "\x00I", "\xffI", "Ⅳ", "MⅣ",
		strings.Repeat("M", 5000), strings.Repeat("I", 3999), strings.Repeat("IX", 1000), strings.Repeat("a", 1000),
	}
	for _, s := range wrong {
		if got := impl.GetRoman(s); got != 0 {
			t.Errorf("GetRoman(%q) = %d, want 0", s, got)
		}
	}
}

func TestRomanOfAllShortTexts(t *testing.T) {
	right := map[string]int{}
	for n := 1; n <= impl.MaxNumeral; n++ {
		right[numeral(n)] = n
	}
	eachText("IVXLCDM", 6, func(s string) {
		if got := impl.GetRoman(s); got != right[s] {
			t.Errorf("GetRoman(%q) = %d, want %d", s, got, right[s])
		}
	})
	// Two signs of a numeral in another order, and one foreign sign in it.
	for n := 1; n <= impl.MaxNumeral; n++ {
		s := numeral(n)
		for i := range len(s) {
			changed := []byte(s)
			if i > 0 {
				changed[i-1], changed[i] = changed[i], changed[i-1]
			}
			if got := impl.GetRoman(string(changed)); got != right[string(changed)] {
				t.Errorf("GetRoman(%q) = %d, want %d", changed, got, right[string(changed)])
			}
			for _, c := range []string{"a", strings.ToLower(s[i : i+1]), " "} {
				if got := impl.GetRoman(s[:i] + c + s[i+1:]); got != 0 {
					t.Errorf("GetRoman(%q) = %d, want 0", s[:i]+c+s[i+1:], got)
				}
			}
		}
	}
}

func TestWords(t *testing.T) {
	cases := map[string][]string{
		"": {""}, " ": {"", ""}, "  ": {"", "", ""}, "a": {"a"}, "a b": {"a", "b"}, "a  b": {"a", "", "b"}, " a": {"", "a"}, "a ": {"a", ""},
		" a b ": {"", "a", "b", ""}, "prid kal mar": {"prid", "kal", "mar"}, "a\nb": {"a\nb"}, "a\tb": {"a\tb"}, "a\u00a0b": {"a\u00a0b"}, "\xff \x00": {"\xff", "\x00"},
	}
	for s, want := range cases {
		if got := impl.Words(s); !slices.Equal(got, want) {
			t.Errorf("Words(%q) = %q, want %q", s, got, want)
		}
	}
}

func TestLines(t *testing.T) {
	cases := map[string][]string{
		"": {}, "\n": {""}, "\n\n": {"", ""}, "a": {"a"}, "a\n": {"a"}, "a\nb": {"a", "b"}, "a\nb\n": {"a", "b"}, "a\n\nb\n": {"a", "", "b"}, "\na": {"", "a"},
		"a\n\n": {"a", ""}, " ": {" "}, "\n ": {"", " "}, "a b\nc\n": {"a b", "c"}, "a\r\nb": {"a\r", "b"}, "\xff\n\x00": {"\xff", "\x00"},
	}
	for s, want := range cases {
		if got := impl.Lines(s); !slices.Equal(got, want) {
			t.Errorf("Lines(%q) = %q, want %q", s, got, want)
		}
	}
}

func TestPartsArePutTogetherAgain(t *testing.T) {
	check := func(s string) {
		words := impl.Words(s)
		if strings.Join(words, " ") != s || len(words) != strings.Count(s, " ")+1 {
			t.Errorf("Words(%q) = %q", s, words)
		}
		ended := s
		if s != "" && !strings.HasSuffix(s, "\n") {
			ended += "\n"
		}
		joined := ""
		lines := impl.Lines(s)
		for _, line := range lines {
			joined += line + "\n"
		}
		if joined != ended || len(lines) != strings.Count(ended, "\n") {
			t.Errorf("Lines(%q) = %q", s, lines)
		}
	}
	eachText("a \n", 7, check)
	check(strings.Repeat("ab c\n", 2000))
	check(strings.Repeat(" ", 3000))
	check(strings.Repeat("\n", 3000))
}

func TestPartsAreNewMemory(t *testing.T) {
	s := "a b\nc d\n"
	words, lines := impl.Words(s), impl.Lines(s)
	for _, list := range [][]string{words, lines} {
		for i := range list {
			list[i] = "z"
		}
		_ = append(list, "z")
	}
	if !slices.Equal(impl.Words(s), []string{"a", "b\nc", "d\n"}) || !slices.Equal(impl.Lines(s), []string{"a b", "c d"}) {
		t.Error("an answer was written into a later one", impl.Words(s), impl.Lines(s))
	}
}

func TestNameOk(t *testing.T) {
	for _, s := range []string{"a", "z", "m", "pisa", "az", "abcdefghijklmnop", "qrstuvwxyz", strings.Repeat("z", 16)} {
		if !impl.NameOk(s) {
			t.Errorf("%q is a name", s)
		}
	}
	wrong := []string{
		"", "abcdefghijklmnopq", strings.Repeat("a", 17), strings.Repeat("a", 5000), "Pisa", "pisA", "PISA", "pi sa", " pisa", "pisa ", "pisa\n", "\npisa",
		"pisa1", "1pisa", "pi-sa", "pi_sa", "pisä", "ä", "ſ", "\x00", "a\x00", "a\xff", "`", "{", "a`", "a{", "a{b", strings.Repeat("a", 15) + "A",
	}
	for _, s := range wrong {
		if impl.NameOk(s) {
			t.Errorf("%q is no name", s)
		}
	}
	for c := range 256 {
		want := c >= 'a' && c <= 'z'
		for _, s := range []string{string([]byte{byte(c)}), string([]byte{byte(c), 'a'}), string([]byte{'a', byte(c)})} {
			if impl.NameOk(s) != want {
				t.Errorf("NameOk(%q) = %v", s, !want)
			}
		}
	}
}

func TestMonths(t *testing.T) {
	names := strings.Fields("jan feb mar apr may jun jul aug sep oct nov dec")
	for i, name := range names {
		if got := impl.MonthName(i + 1); got != name {
			t.Errorf("MonthName(%d) = %q, want %q", i+1, got, name)
		}
		if got := impl.MonthOf(name); got != i+1 {
			t.Errorf("MonthOf(%q) = %d, want %d", name, got, i+1)
		}
		for _, s := range []string{strings.ToUpper(name), strings.ToUpper(name[:1]) + name[1:], " " + name, name + " ", name + "\n", name[:2], name + "s", name + name} {
			if got := impl.MonthOf(s); got != 0 {
				t.Errorf("MonthOf(%q) = %d, want 0", s, got)
			}
		}
	}
	for _, m := range []int{0, -1, -12, 13, 14, 1 << 32, math.MinInt, math.MaxInt} {
		if got := impl.MonthName(m); got != "" {
			t.Errorf("MonthName(%d) = %q, want nothing", m, got)
		}
	}
	for _, s := range []string{"", "january", "foo", "1", "\x00", "j\xffn"} {
		if got := impl.MonthOf(s); got != 0 {
			t.Errorf("MonthOf(%q) = %d, want 0", s, got)
		}
	}
}
