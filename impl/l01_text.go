package impl

import (
	"iter"
	"strconv"
	"strings"
)

const MaxNumeral = 3999

const (
	maxDigits = 9  // as many as 999999999 has
	maxName   = 16 // letters of a name
)

// digitShapes stands for all places of a numeral: a, b and c are a place's signs for 1, 5 and 10 of it.
var digitShapes = [10]string{"", "a", "aa", "aaa", "ab", "b", "ba", "baa", "baaa", "ac"}

var monthNames = [12]string{"jan", "feb", "mar", "apr", "may", "jun", "jul", "aug", "sep", "oct", "nov", "dec"}

func FloorDiv(a int, b int) int {
	if b <= 0 {
		return 0
	}
	q := a / b
	// Go cuts towards nought, which is one too high where something is left below it.
	if a%b < 0 {
		q--
	}
	return q
}

func FloorMod(a int, b int) int {
	if b <= 0 {
		return 0
	}
	return a - b*FloorDiv(a, b)
}

func DecText(n int) string {
	return strconv.Itoa(n)
}

func ReadDec(s string) int {
	if len(s) > maxDigits {
		return -1
	}
	n := 0
	for i := range len(s) {
		if s[i] < '0' || s[i] > '9' {
			return -1
		}
		n = n*10 + int(s[i]-'0')
	}
	// The empty text and needless noughts come as far as this.
	if DecText(n) != s {
		return -1
	}
	return n
}

// PutRoman enters at the greatest place that n has; the lesser ones follow whatever they are.
func PutRoman(n int) string {
	if n < 1 || n > MaxNumeral {
		return ""
	}
	text := ""
	switch {
	case n >= 1000:
		text += strings.Repeat("M", n/1000)
		fallthrough
	case n >= 100:
		text += digitSigns(n/100%10, "CDM")
		fallthrough
	case n >= 10:
		text += digitSigns(n/10%10, "XLC")
		fallthrough
	default:
		text += digitSigns(n%10, "IVX")
	}
	return text
}

func digitSigns(digit int, signs string) string {
	text := []byte(digitShapes[digit])
	for i, c := range text {
		text[i] = signs[c-'a']
	}
	return string(text)
}

func GetRoman(s string) int {
	n := 0
	for i := range len(s) {
		v := signValue(s[i])
		if i+1 < len(s) && v < signValue(s[i+1]) {
			v = -v
		}
		n += v
	}
	// The sum is right of a numeral, but other texts have sums too.
	if PutRoman(n) != s {
		return 0
	}
	return n
}

func signValue(sign byte) int {
	switch sign {
	case 'I':
		return 1
	case 'V':
		return 5
	case 'X':
		return 10
	case 'L':
		return 50
	case 'C':
		return 100
	case 'D':
		return 500
	case 'M':
		return 1000
	}
	return 0
}

// parts tells the texts of s between gaps, each as a copy, since an answer shares no memory with an argument.
func parts(s string, gap byte) iter.Seq[string] {
	return func(yield func(string) bool) {
		start := 0
		for i := range len(s) {
			if s[i] != gap {
				continue
			}
			if !yield(strings.Clone(s[start:i])) {
				return
			}
			start = i + 1
		}
		yield(strings.Clone(s[start:]))
	}
}

func Words(s string) []string {
	var list []string
	for part := range parts(s, ' ') {
		list = append(list, part)
	}
	return list
}

func Lines(s string) []string {
	var list []string
	for part := range parts(s, '\n') {
		list = append(list, part)
	}
	last := len(list) - 1
	if list[last] == "" {
		list = list[:last]
	}
	return list
}

func NameOk(s string) bool {
	if len(s) < 1 || len(s) > maxName {
		return false
	}
	for i := range len(s) {
		if s[i] < 'a' || s[i] > 'z' {
			return false
		}
	}
	return true
}

func MonthName(m int) string {
	if m < 1 || m > len(monthNames) {
		return ""
	}
	return monthNames[m-1]
}

func MonthOf(s string) int {
	for i, name := range monthNames {
		if name == s {
			return i + 1
		}
	}
	return 0
}
