package service

import (
	"slices"
	"strconv"
	"strings"

	"wallgauge/api"
)

// papersStart is the start of the digest of papers.
const papersStart = 1

// Papers returns the papers of a report.
func (b *Book) Papers(report string) (string, api.Errno) {
	known := b.known()
	i := indexOf(known.reports, report)
	if i < 0 {
		return "", api.ErrNone
	}
	r := known.reports[i]
	var out strings.Builder
	out.WriteString("report " + r.Name + " " + strings.Join(r.Items, " ") + "\n")
	sources := known.sources(r)
	for _, line := range known.ledger {
		text := textOf(line)
		if concerns(strings.Split(text, " "), r, sources) {
			out.WriteString(text + "\n")
		}
	}
	return sealed(out.String()), api.OK
}

// sources returns the blocks that the findings of a report were ever read from.
func (b *Book) sources(r Report) []string {
	var out []string
	for _, line := range b.ledger {
		words := strings.Split(textOf(line), " ")
		if (words[1] == "find" || words[1] == "again") && slices.Contains(r.Items, words[2]) {
			out = append(out, words[5:]...)
		}
	}
	return out
}

// concerns tells whether a line of the ledger, of these words, concerns a report whose findings were read from these blocks.
func concerns(words []string, r Report, sources []string) bool {
	switch words[1] {
	case "hand":
		return false
	case "block", "withdraw":
		return slices.Contains(sources, words[2])
	case "report":
		return words[2] == r.Name
	}
	return slices.Contains(r.Items, words[2])
}

// sealed returns lines with their digest behind them.
func sealed(lines string) string {
	return lines + "digest " + hexOf(Digest(papersStart, lines)) + "\n"
}

// Check returns what papers say.
func Check(text string) (History, api.Errno) {
	body, ended := strings.CutSuffix(text, "\n")
	lines := strings.Split(body, "\n")
	last := len(lines) - 1
	if !ended || last < 2 || !areNumbered(lines[1:last]) || !hasForm("digest DIGEST", strings.Split(lines[last], " ")) {
		return History{}, api.ErrForm
	}
	head := strings.Split(lines[0], " ")
	if !hasForm("report REPORT ITEM ..", head) || len(head) > 2+maxReported {
		return History{}, api.ErrForm
	}
	if text != sealed(text[:len(text)-len(lines[last])-1]) {
		return History{}, api.ErrSum
	}
	return History{Name: head[1], Items: head[2:], Lines: lines[1:last]}, api.OK
}

// areNumbered tells whether texts are lines behind numbers that rise.
func areNumbered(texts []string) bool {
	last := 0
	for _, text := range texts {
		word, line, _ := strings.Cut(text, " ")
		number, _ := strconv.Atoi(word) // an error means that word is no number
		if !isNumber(word) || number <= last || len(line) > maxLine || !isLine(line) {
			return false
		}
		last = number
	}
	return true
}
