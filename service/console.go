package service

import (
	"strconv"
	"strings"

	"wallgauge/api"
)

// Answer performs a command or answers a question, in words.
func (b *Book) Answer(line string) string {
	answer, _ := b.answer(line)
	return answer
}

// answer returns the answer to a line, and the error in it: an answer of names may have the words of an error.
func (b *Book) answer(line string) (string, api.Errno) {
	answer, e := b.reply(line)
	if e != api.OK {
		return "error " + e.Error(), e
	}
	return answer, api.OK
}

// reply returns the answer to a line without an error.
func (b *Book) reply(line string) (string, api.Errno) {
	words := strings.Split(line, " ")
	switch {
	case b == nil:
		return "", api.ErrArg
	case hasForm("items", words):
		return b.itemNames(), api.OK
	case hasForm("trace REPORT", words):
		blocks, e := b.Trace(words[1])
		return strings.Join(blocks, " "), e
	case hasForm("suspects", words):
		return strings.Join(b.Suspects(), " "), api.OK
	case hasForm("show ITEM", words):
		x, e := b.Item(words[1])
		return shown(x), e
	}
	return "ok", b.Do(line)
}

// itemNames returns the names of all findings.
func (b *Book) itemNames() string {
	var names []string
	for _, x := range b.items {
		names = append(names, x.Name)
	}
	return strings.Join(names, " ")
}

// shown returns the state and the depths of a finding.
func shown(x Item) string {
	return strconv.Itoa(x.State) + " " + strconv.Itoa(x.Read) + " " + strconv.Itoa(x.Dug)
}

// Run answers the lines of a script.
func (b *Book) Run(script string) (string, int, api.Errno) {
	if b == nil {
		return "", 0, api.ErrArg
	}
	if len(script) > api.MaxText {
		return "", 0, api.ErrSize
	}
	var answers strings.Builder
	for i, line := range strings.Split(script, "\n") {
		if line == "" || line[0] == '#' {
			continue
		}
		answer, e := b.answer(line)
		answers.WriteString(answer + "\n")
		if e != api.OK {
			return answers.String(), i + 1, e
		}
	}
	return answers.String(), 0, api.OK
}
