package service

import (
	"iter"
	"slices"
	"strconv"
	"strings"

	"wallgauge/api"
)

// Ledger returns the ledger.
func (b *Book) Ledger() string {
	var out strings.Builder
	for _, line := range b.known().ledger {
		out.WriteString(line + "\n")
	}
	return out.String()
}

// enter writes a command into the ledger.
func (b *Book) enter(command string) {
	line, sum := b.next(command)
	b.ledger, b.sum = append(b.ledger, line), sum
}

// next returns the line that the ledger would have for a command, and its digest.
func (b *Book) next(command string) (line string, sum uint64) {
	text := strconv.Itoa(len(b.ledger)+1) + " " + command
	sum = Digest(b.sum, text)
	return text + " " + hexOf(sum), sum
}

// textOf returns a line of the ledger without its digest.
func textOf(line string) string { return line[:len(line)-digestLength-1] }

// Resume returns the book of a ledger, and the number of bytes that were read.
func Resume(ledger string) (*Book, int) {
	b, read := New(), 0
	for line := range wholeLines(ledger) {
		if !b.resumes(line) {
			break
		}
		read += len(line) + 1
	}
	return b, read
}

// wholeLines yields the lines of a text that end with a line feed, without it.
func wholeLines(text string) iter.Seq[string] {
	return func(yield func(line string) bool) {
		line, rest, ended := strings.Cut(text, "\n")
		for ended && yield(line) {
			line, rest, ended = strings.Cut(rest, "\n")
		}
	}
}

// resumes performs the command of a line, if that is the next one of the ledger, and tells whether it did.
func (b *Book) resumes(line string) bool {
	_, command, _ := strings.Cut(line, " ")
	command = command[:max(strings.LastIndex(command, " "), 0)]
	// The number and the digest are right if the ledger would get the same line.
	next, _ := b.next(command)
	return line == next && b.Do(command) == api.OK
}

// Same reports whether two books have the same state and ledger.
func Same(a, b *Book) bool {
	if a == nil || b == nil {
		return a == b
	}
	// The state follows from the commands of the ledger.
	return slices.Equal(a.ledger, b.ledger)
}
