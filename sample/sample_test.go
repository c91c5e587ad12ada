package sample_test

import (
	"slices"
	"testing"

	"filespace/sample"
)

// TestWords checks that every text is there, and in the order of the lengths.
func TestWords(t *testing.T) {
	want := []string{"", "a", "bc", "aa", "abc", "bca", "bcbc"}
	if all := sample.Words([]string{"a", "bc"}, 2); !slices.Equal(all, want) {
		t.Errorf("Words returns %q", all)
	}
	if n := len(sample.Words([]string{"a", "b", "c"}, 4)); n != 1+3+9+27+81 {
		t.Errorf("Words returns %d texts", n)
	}
	if all := sample.Words(nil, 3); !slices.Equal(all, []string{""}) {
		t.Errorf("Words of no words returns %q", all)
	}
}

// TestBytes checks that a byte beyond ASCII is a word too.
func TestBytes(t *testing.T) {
	want := []string{"", "a", "\xff", "aa", "a\xff", "\xffa", "\xff\xff"}
	if all := sample.Bytes("a\xff", 2); !slices.Equal(all, want) {
		t.Errorf("Bytes returns %q", all)
	}
}
