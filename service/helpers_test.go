package service_test

import (
	"math"
	"math/rand/v2"
	"strings"
	"testing"

	"wallgauge/api"
	"wallgauge/service"
)

// must returns x, and fails the test if there is an error.
func must[T any](t *testing.T) func(x T, e api.Errno) T {
	return func(x T, e api.Errno) T {
		t.Helper()
		if e != api.OK {
			t.Fatalf("error %v", e)
		}
		return x
	}
}

// dice makes numbers that look random, but are always the same.
type dice struct{ *rand.Rand }

func newDice(seed uint64) dice { return dice{rand.New(rand.NewPCG(seed, 10))} }

// from returns a number from lo to hi.
func (d dice) from(lo, hi int) int { return lo + d.IntN(hi-lo+1) }

// oneOf returns one of some words.
func (d dice) oneOf(words ...string) string { return words[d.IntN(len(words))] }

// among returns one of the words of a text.
func (d dice) among(words string) string { return d.oneOf(strings.Fields(words)...) }

// people are the lines of five hands.
func people() []string {
	return []string{"hand ann run", "hand bob read", "hand cy dig", "hand dan sign", "hand eve sign"}
}

// example are the lines of the chapter's example that are performed.
func example() []string {
	return append(people(), "block b1 ann 00000000000000ff", "find f1 bob 3200 b1", "dig f1 cy 3000", "decide f1 dan cut", "sign f1 eve", "report r1 f1", "withdraw b1")
}

// long are lines with more of everything than the example: a finding that is read again, reports that share findings, and lines that concern none of them.
func long() []string {
	return append(people(),
		"block b1 ann 00000000000000ff", "block b-2 ann 0123456789abcdef", "block b3 ann ffffffffffffffff", "block b4 ann 0000000000000000",
		"find f1 bob 3200 b1", "find f2 bob 0 b3 b1", "find f3 bob 99999999 b-2", "find f4 bob 7 b4 b3",
		"decide f1 dan watch", "dig f2 cy 3000", "decide f2 eve cut", "sign f2 dan", "sign f1 eve",
		"report r1 f1", "withdraw b1", "again f1 bob 3100 b-2 b3", "decide f3 eve sleeve", "sign f3 dan",
		"dig f1 cy 0", "decide f1 eve cut", "sign f1 dan", "hand fay read", "again f2 fay 5 b-2", "decide f2 dan sleeve", "sign f2 eve",
		"report r2 f3 f1", "report r3 f3 f2", "withdraw b4", "withdraw b-2", "again f2 bob 12 b3")
}

// performed returns a book in which lines were performed.
func performed(t *testing.T, lines ...string) *service.Book {
	t.Helper()
	b := service.New()
	perform(t, b, lines...)
	return b
}

// perform performs lines.
func perform(t *testing.T, b *service.Book, lines ...string) {
	t.Helper()
	for _, line := range lines {
		if e := b.Do(line); e != api.OK {
			t.Fatalf("%q: error %v", line, e)
		}
	}
}

// refuses fails the test if a line does not have an error, or changes a book.
func refuses(t *testing.T, b *service.Book, line string, want api.Errno) {
	t.Helper()
	before := shot(b)
	if e := b.Do(line); e != want {
		t.Errorf("%q: error %v, not %v", line, e, want)
	}
	if after := shot(b); after != before {
		t.Errorf("%q changes %s to %s", line, before, after)
	}
}

// extremes are ints that are no value of anything here.
func extremes() []int { return []int{math.MinInt, -1, math.MaxInt} }

// wordsOf returns words with one space between them.
func wordsOf(words ...string) string { return strings.Join(words, " ") }
