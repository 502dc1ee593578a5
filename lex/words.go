package lex

import "strings"

// spelt has the words of the language, as the chapter tells them.
const spelt = "use as pub def let in if then else fun true false"

// words has them one by one; it is filled at the start.
var words = wordTable()

// wordTable takes the words apart.
func wordTable() [12]string {
	var table [12]string
	copy(table[:], strings.Fields(spelt))
	return table
}

// Words gives the words of the language, in the chapter's order.
func Words() [12]string { return words }

// Word tells whether a text is a word of the language.
func Word(s string) bool { return isWord(s) }

// isWord works out what Word answers, and what tokens are found by; it reads no table, so that these hang on their arguments alone.
func isWord(s string) bool {
	switch s {
	case "use", "as", "pub", "def", "let", "in", "if", "then", "else", "fun", "true", "false":
		return true
	}
	return false
}
