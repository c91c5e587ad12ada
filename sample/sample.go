// Package sample generates texts for the tests of the other packages, which call nothing else of it.
package sample

// Words returns all texts of at most most words of an alphabet, with nothing in between.
func Words(alphabet []string, most int) []string {
	all := []string{""}
	last := all
	for range most {
		var next []string
		for _, s := range last {
			for _, word := range alphabet {
				next = append(next, s+word)
			}
		}
		all = append(all, next...)
		last = next
	}
	return all
}

// Bytes returns all texts of at most most bytes of an alphabet.
func Bytes(alphabet string, most int) []string {
	var words []string
	for i := range len(alphabet) {
		words = append(words, alphabet[i:i+1])
	}
	return Words(words, most)
}
