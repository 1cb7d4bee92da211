package code

import (
	"strconv"
	"strings"

	"weave/api"
)

// split tells the words of a line. Only the byte 32 is a blank: other white space belongs to words, which are none then.
func split(line string) []string {
	counts, _, _ := strings.Cut(line, "#")
	var words []string
	for w := range strings.SplitSeq(counts, " ") {
		if w != "" {
			words = append(words, w)
		}
	}
	return words
}

func isDigit(c byte) bool  { return '0' <= c && c <= '9' }
func isLetter(c byte) bool { return 'a' <= c && c <= 'z' }

func isRegister(word string) bool {
	return len(word) == 2 && word[0] == 'r' && '0' <= word[1] && word[1] <= '3'
}

func isNumber(word string) bool {
	if len(word) < 1 || len(word) > 3 {
		return false
	}
	for i := range len(word) {
		if !isDigit(word[i]) {
			return false
		}
	}
	return true
}

func isName(word string) bool {
	if len(word) < 1 || len(word) > longestName || isRegister(word) {
		return false
	}
	for i := range len(word) {
		if !isLetter(word[i]) && !isDigit(word[i]) {
			return false
		}
	}
	return isLetter(word[0])
}

func areNames(words []string) bool {
	for _, w := range words {
		if !isName(w) {
			return false
		}
	}
	return true
}

// fits tells whether words have the form of the parts, whatever they stand for.
func fits(words []string, parts string) bool {
	if len(words) != len(parts) {
		return false
	}
	for i, w := range words {
		if !fitsPart(w, parts[i]) {
			return false
		}
	}
	return true
}

func fitsPart(word string, part byte) bool {
	switch part {
	case register:
		return isRegister(word)
	case firstArg, nextArg:
		return isRegister(word) || isNumber(word)
	}
	return isName(word)
}

func registerNumber(word string) int { return int(word[1] - '0') }

func argOf(word string) api.Arg {
	if isRegister(word) {
		return api.Arg{Reg: true, N: registerNumber(word)}
	}
	n, _ := strconv.Atoi(word) // isNumber held
	return api.Arg{N: n}
}
