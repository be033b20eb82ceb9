package line

import (
	"strconv"
	"strings"

	"wallgauge/api"
)

// words has the word of each kind.
var words = [...]string{Pipe: "pipe", Bend: "bend", Valve: "valve"}

// What stands in a text besides the items.
const (
	zoneWord     = "zone"
	limitWord    = "limit"
	zoneNumbers  = 3
	limitNumbers = 2
	maxNumber    = 10 // digits
)

// Text returns the text of a line.
func Text(l Line) (string, api.Errno) {
	if e := Check(l); e != api.OK {
		return "", e
	}
	var b strings.Builder
	write := func(word string, numbers ...int) {
		b.WriteString(word)
		for _, n := range numbers {
			b.WriteString(" " + strconv.Itoa(n))
		}
		b.WriteString("\n")
	}
	for _, x := range l.Items {
		numbers := [...]int{x.Length, x.Outer, x.Wall, x.Grade, x.Seam, x.Radius}
		write(words[x.Kind], numbers[:itemNumbers(x.Kind)]...)
	}
	for _, z := range l.Zones {
		write(zoneWord, z.From, z.To, z.Class)
	}
	for _, x := range l.Limits {
		write(limitWord, x.From, x.Most)
	}
	return b.String(), api.OK
}

// Parse returns the line with a text.
func Parse(s string) (Line, api.Errno) {
	if len(s) > api.MaxText {
		return Line{}, api.ErrSize
	}
	l, ok := read(s)
	if !ok {
		return Line{}, api.ErrForm
	}
	if e := Check(l); e != api.OK {
		return Line{}, e
	}
	return l, api.OK
}

// itemNumbers returns how many numbers the text of an item of a kind has: only a bend tells its radius.
func itemNumbers(kind int) int {
	if kind == Bend {
		return 6
	}
	return 5
}

// read returns the line that a text is made like, which may have an error of a line.
func read(s string) (Line, bool) {
	var l Line
	take, done := reader(s)
	item := func() bool {
		for kind, word := range words {
			if n, ok := take(word, itemNumbers(kind)); ok {
				x := Item{Kind: kind, Length: n[0], Outer: n[1], Wall: n[2], Grade: n[3], Seam: n[4]}
				if kind == Bend {
					x.Radius = n[5]
				}
				l.Items = append(l.Items, x)
				return true
			}
		}
		return false
	}
	zone := func() bool {
		n, ok := take(zoneWord, zoneNumbers)
		if ok {
			l.Zones = append(l.Zones, Zone{n[0], n[1], n[2]})
		}
		return ok
	}
	limit := func() bool {
		n, ok := take(limitWord, limitNumbers)
		if ok {
			l.Limits = append(l.Limits, Limit{n[0], n[1]})
		}
		return ok
	}
	for _, next := range [...]func() bool{item, zone, limit} {
		for next() {
		}
	}
	return l, done()
}

// reader returns a function that takes the next line of a text away and returns its numbers, if it has a certain word and so many numbers, and one that reports whether nothing is left.
func reader(s string) (take func(word string, count int) ([]int, bool), done func() bool) {
	take = func(word string, count int) ([]int, bool) {
		first, rest, ended := strings.Cut(s, "\n")
		fields := strings.Split(first, " ")
		if !ended || len(fields) != count+1 || fields[0] != word {
			return nil, false
		}
		numbers := make([]int, count)
		for i := range numbers {
			n, ok := number(fields[i+1])
			if !ok {
				return nil, false
			}
			numbers[i] = n
		}
		s = rest
		return numbers, true
	}
	done = func() bool { return s == "" }
	return take, done
}

// number returns the number whose digits are s.
func number(s string) (int, bool) {
	if !between(len(s), 1, maxNumber) || s[0] == '0' && s != "0" {
		return 0, false
	}
	n := 0
	for i := range len(s) {
		if s[i] < '0' || s[i] > '9' {
			return 0, false
		}
		n = 10*n + int(s[i]-'0')
	}
	return n, true
}
