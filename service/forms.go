package service

import (
	"slices"
	"strconv"
	"strings"

	"wallgauge/api"
)

const (
	digits    = "0123456789"
	hexDigits = digits + "abcdef"
	nameBytes = digits + "abcdefghijklmnopqrstuvwxyz-"

	maxNumber    = 8   // digits
	maxLine      = 400 // bytes
	digestLength = 16  // hexadecimal digits
)

// What a decision is.
const (
	watch  = "watch"
	sleeve = "sleeve"
	cut    = "cut"
)

// roles has the word of each role.
var roles = [...]string{Runner: "run", Reader: "read", Digger: "dig", Signer: "sign"}

// roleOf returns the role with a word, or -1.
func roleOf(word string) int {
	for role, x := range roles {
		if x == word {
			return role
		}
	}
	return -1
}

// hasForm tells whether words have a form: its words in capital letters stand for what they name, two dots at its end for any number of names, and others for themselves.
func hasForm(form string, words []string) bool {
	kinds := strings.Split(form, " ")
	least := len(kinds)
	if kinds[least-1] == ".." {
		least--
	}
	if len(words) < least || len(words) > least && least == len(kinds) {
		return false
	}
	for i, word := range words {
		if !hasKind(kinds[min(i, len(kinds)-1)], word) {
			return false
		}
	}
	return true
}

// hasKind tells whether a word is what a word of a form stands for.
func hasKind(kind, word string) bool {
	switch kind {
	case "HAND", "BLOCK", "ITEM", "REPORT", "..":
		return isName(word)
	case "DEPTH":
		return isNumber(word)
	case "DIGEST":
		return len(word) == digestLength && isOf(hexDigits, word)
	case "ROLE":
		return roleOf(word) >= 0
	case "WORD":
		return word == watch || word == sleeve || word == cut
	}
	return word == kind
}

// isOf tells whether all bytes of a word are some of these.
func isOf(some, word string) bool { return strings.Trim(word, some) == "" }

// isName tells whether a word is a name.
func isName(word string) bool {
	return isWithin(len(word), 1, api.MaxName) && isOf(nameBytes, word)
}

// isNumber tells whether a word is a number.
func isNumber(word string) bool {
	return isWithin(len(word), 1, maxNumber) && isOf(digits, word) && (word == "0" || word[0] != '0')
}

// isLine tells whether a text is words with one space between them.
func isLine(text string) bool {
	return !slices.ContainsFunc(strings.Split(text, " "), func(word string) bool {
		return word == "" || strings.ContainsFunc(word, func(r rune) bool { return r < 33 || r > 126 })
	})
}

// hexOf returns the hexadecimal digits of a digest.
func hexOf(digest uint64) string {
	s := strconv.FormatUint(digest, 16)
	return strings.Repeat("0", digestLength-len(s)) + s
}
