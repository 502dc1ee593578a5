package lex

import "strings"

// spelt has the words of the language, as the chapter tells them.
const spelt = "use as pub def let in if then else fun true false"

// words has them one by one; it is filled at the start.
var words = wordTable()

// wordTable takes the words apart.
func wordTable() [12]string {
	var table [12]string
	copy(table[:], strings.Fields(spelt))
	return table
}

// Word tells whether a text is a word of the language.
func Word(s string) bool {
	for i := range words {
		if words[i] == s {
			return true
		}
	}
	return false
}
