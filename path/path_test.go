package path_test

import (
	"slices"
	"strings"
	"testing"

	"filespace/api"
	"filespace/path"
)

// paths returns texts of up to five parts, among them texts that are not names, and the texts at the limits of a path.
func paths() []string {
	parts := []string{"", ".", "..", "a", "b", "...", "a b"}
	var all []string
	last := []string{""}
	for i := range 5 {
		var next []string
		for _, s := range last {
			for _, part := range parts {
				if i == 0 {
					next = append(next, part)
				} else {
					next = append(next, s+"/"+part)
				}
			}
		}
		all = append(all, next...)
		last = next
	}
	return append(all, longPaths()...)
}

// longPaths returns texts at both sides of the limits of a path.
func longPaths() []string {
	var all []string
	for _, n := range []int{31, 32, 33, 34} {
		for _, part := range []string{"a", "..", ".", "", strings.Repeat("x", 31), strings.Repeat("x", 30)} {
			relative := strings.TrimSuffix(strings.Repeat(part+"/", n), "/")
			all = append(all, relative, relative+"/..", "../"+relative, "/"+relative, "/"+relative+"/..", relative+"/b\x00")
		}
	}
	for _, n := range []int{1022, 1023, 1024, 1025} {
		all = append(all, strings.Repeat("/", n), strings.Repeat("a", n), strings.Repeat("a/", n/2)+strings.Repeat("/", n%2))
	}
	for _, n := range []int{63, 64, 65} {
		name := strings.Repeat("n", n)
		all = append(all, name, "/"+name, "a/"+name+"/..")
	}
	return all
}

// relations returns paths of few parts, short enough that all pairs and triples of them can be tried.
func relations() []string {
	return []string{
		"", ".", "..", "/", "//", "/..", "/.", "a", "a/b", "../a", "/a", "/a/", "/ab", "/abc", "/a/b", "/b/a", "/a/a", "/a/./b/", "/a/../b", "/a/b/c", "/a/b/..", "/ab/b", "/b", "/a b", "a b", "/...", "/.../a",
		strings.Repeat("/a", 31), strings.Repeat("/a", 32), strings.Repeat("/a", 33), strings.Repeat("a/", 32), strings.Repeat("/", 1024), strings.Repeat("/", 1025),
	}
}

// isNameOfChapter follows the definition of a name word by word.
func isNameOfChapter(s string) bool {
	if len(s) < 1 || len(s) > 64 {
		return false
	}
	for i := range len(s) {
		if s[i] < 33 || s[i] > 126 || s[i] == 47 {
			return false
		}
	}
	return s != "." && s != ".."
}

// partsOf cuts a text at its slashes, byte by byte.
func partsOf(p string) []string {
	parts := []string{""}
	for i := range len(p) {
		if p[i] == '/' {
			parts = append(parts, "")
		} else {
			parts[len(parts)-1] += p[i : i+1]
		}
	}
	return parts
}

// cleanOfChapter follows the definition of Clean step by step: three passes, in the order of the errors.
func cleanOfChapter(p string) (string, []string, api.Errno) {
	if len(p) > 1024 {
		return "", nil, api.ErrLong
	}
	parts := partsOf(p)
	for _, part := range parts {
		if part != "" && part != "." && part != ".." && !isNameOfChapter(part) {
			return "", nil, api.ErrName
		}
	}
	rooted := p != "" && p[0] == '/'
	var elems []string
	for _, part := range parts {
		n := len(elems)
		if part == "" || part == "." || part == ".." && rooted && n == 0 {
			continue
		}
		if part == ".." && n > 0 && elems[n-1] != ".." {
			elems = elems[:n-1]
			continue
		}
		elems = append(elems, part)
	}
	if len(elems) > 32 {
		return "", nil, api.ErrLong
	}
	cleaned := ""
	for _, elem := range elems {
		cleaned += "/" + elem
	}
	if rooted {
		return "/" + strings.TrimPrefix(cleaned, "/"), elems, api.OK
	}
	if len(elems) == 0 {
		return ".", nil, api.OK
	}
	return cleaned[1:], elems, api.OK
}

// TestValid checks P3.1.
func TestValid(t *testing.T) {
	for _, s := range []string{"a", "a.b", "...", "....", ".a", "a.", "..a", "a..", "-", "~", "!", "A", "0", "a\\b", "#", "*", "'", strings.Repeat("x", 63), strings.Repeat("x", 64), strings.Repeat(".", 64)} {
		if !path.Valid(s) {
			t.Errorf("Valid(%q) is false", s)
		}
	}
	for _, s := range []string{"", ".", "..", "a b", " ", " a", "a ", "/", "a/b", "/a", "a/", "a/.", "a\tb", "a\n", "\x00", "a\x00", "\x7f", "a\x7f", "é", "aé", "\xff", "\x80", strings.Repeat("x", 65), strings.Repeat("x", 64) + "/", strings.Repeat(".", 65), strings.Repeat("x", 1<<20)} {
		if path.Valid(s) {
			t.Errorf("Valid(%.80q) is true", s)
		}
	}
}

// TestValidOfEveryByte checks for every byte, at each place of a text, whether P3.1 takes it into a name.
func TestValidOfEveryByte(t *testing.T) {
	for i := range 256 {
		b := string([]byte{byte(i)})
		inName := 33 <= i && i <= 126 && i != '/'
		for _, s := range []string{b + "x", "x" + b, "x" + b + "x", strings.Repeat("x", 63) + b} {
			if path.Valid(s) != inName {
				t.Errorf("Valid(%q) is %v", s, !inName)
			}
		}
		if alone := inName && b != "."; path.Valid(b) != alone {
			t.Errorf("Valid(%q) is %v", b, !alone)
		}
	}
}

// TestClean checks the paths of P3.2.
func TestClean(t *testing.T) {
	for _, x := range []struct{ p, want string }{
		{"/a/../b//c/.", "/b/c"},
		{"a/../../b", "../b"},
		{"/..", "/"},
		{"", "."},
		{".", "."},
		{"./", "."},
		{"./.", "."},
		{"/", "/"},
		{"//", "/"},
		{"/.", "/"},
		{"/./..", "/"},
		{"/../..", "/"},
		{"/../a", "/a"},
		{"/a/../..", "/"},
		{"/a/../../b", "/b"},
		{"//a", "/a"},
		{"..", ".."},
		{"../", ".."},
		{"../..", "../.."},
		{"../../a", "../../a"},
		{"../a/..", ".."},
		{"../a/../..", "../.."},
		{"a/..", "."},
		{"a/../", "."},
		{"a/../..", ".."},
		{"a/b/../../..", ".."},
		{"./../a/./..", ".."},
		{"a", "a"},
		{"./a", "a"},
		{"a/", "a"},
		{"a//b", "a/b"},
		{"a/./b", "a/b"},
		{"a/../b", "b"},
		{"/a", "/a"},
		{"/a/b/..", "/a"},
		{".../a", ".../a"},
		{"a/.../..", "a"},
		{"..a/..", "."},
		{"~!", "~!"},
	} {
		if s, e := path.Clean(x.p); s != x.want || e != api.OK {
			t.Errorf("Clean(%q) is %q, %d, want %q", x.p, s, e, x.want)
		}
	}
}

// TestCleanLimits checks both sides of the limits of P3.2: the length of the text, the length of a name, and the number of elements that remain.
func TestCleanLimits(t *testing.T) {
	full := strings.Repeat("/"+strings.Repeat("x", 31), 32)
	for _, x := range []struct {
		p, want string
		e       api.Errno
	}{
		{full, full, api.OK},
		{full + "/", "", api.ErrLong},
		{strings.Repeat("/", 1024), "/", api.OK},
		{strings.Repeat("/", 1025), "", api.ErrLong},
		{strings.Repeat("./", 512), ".", api.OK},
		{strings.Repeat("./", 512) + ".", "", api.ErrLong},
		{strings.Repeat("/", 1<<20), "", api.ErrLong},
		{strings.Repeat("x", 64), strings.Repeat("x", 64), api.OK},
		{strings.Repeat("x", 65), "", api.ErrName},
		{strings.Repeat("x", 1024), "", api.ErrName},
		{strings.Repeat("/a", 32), strings.Repeat("/a", 32), api.OK},
		{strings.Repeat("/a", 33), "", api.ErrLong},
		{strings.Repeat("a/", 32), strings.Repeat("a/", 31) + "a", api.OK},
		{strings.Repeat("a/", 33), "", api.ErrLong},
		{strings.Repeat("../", 32), strings.Repeat("../", 31) + "..", api.OK},
		{strings.Repeat("../", 33), "", api.ErrLong},
		{"../" + strings.Repeat("a/", 31), "../" + strings.Repeat("a/", 30) + "a", api.OK},
		{"../" + strings.Repeat("a/", 32), "", api.ErrLong},
		{strings.Repeat("/..", 341), "/", api.OK},
		{strings.Repeat("/a", 33) + "/..", strings.Repeat("/a", 32), api.OK},
		{strings.Repeat("a/", 33) + "..", strings.Repeat("a/", 31) + "a", api.OK},
		{strings.Repeat("/a", 200) + strings.Repeat("/..", 200), "/", api.OK},
		{strings.Repeat("/a", 34) + "/..", "", api.ErrLong},
	} {
		if s, e := path.Clean(x.p); s != x.want || e != x.e {
			t.Errorf("Clean of %d bytes (%.40q) is %.80q, %d, want %.80q, %d", len(x.p), x.p, s, e, x.want, x.e)
		}
	}
}

// TestCleanNotAName checks the ErrName of P3.2, also for parts that a later part would remove.
func TestCleanNotAName(t *testing.T) {
	for _, part := range []string{"a b", " ", "\x00", "\x7f", "é", "\xff", "\n", ". ", ".. ", strings.Repeat("x", 65)} {
		for _, p := range []string{part, "/" + part, part + "/", "a/" + part, part + "/a", part + "/..", "/" + part + "/..", "/a/" + part + "/../..", "../" + part, part + "/../" + strings.Repeat("a/", 40)} {
			if s, e := path.Clean(p); s != "" || e != api.ErrName {
				t.Errorf("Clean(%q) is %q, %d", p, s, e)
			}
		}
	}
}

// TestCleanOrder checks the order of the errors of P3.2.
func TestCleanOrder(t *testing.T) {
	for _, x := range []struct {
		p string
		e api.Errno
	}{
		{strings.Repeat(" ", 1025), api.ErrLong},
		{"a b/" + strings.Repeat("/", 1024), api.ErrLong},
		{strings.Repeat(" ", 1024), api.ErrName},
		{strings.Repeat("/a", 33) + "/a b", api.ErrName},
		{strings.Repeat("a/", 40) + " ", api.ErrName},
		{" /" + strings.Repeat("a/", 40), api.ErrName},
		{strings.Repeat("../", 33) + "\x00", api.ErrName},
	} {
		if s, e := path.Clean(x.p); s != "" || e != x.e {
			t.Errorf("Clean(%.80q) is %q, %d, want %d", x.p, s, e, x.e)
		}
	}
}

// TestCleanOfManyPaths checks P3.2 and P3.3 against the definitions of the chapter.
func TestCleanOfManyPaths(t *testing.T) {
	for _, p := range paths() {
		want, wantElems, wantErr := cleanOfChapter(p)
		if s, e := path.Clean(p); s != want || e != wantErr {
			t.Errorf("Clean(%.80q) is %.80q, %d, want %.80q, %d", p, s, e, want, wantErr)
		}
		if l, e := path.Split(p); !slices.Equal(l, wantElems) || e != wantErr {
			t.Errorf("Split(%.80q) is %.80q, %d, want %.80q, %d", p, l, e, wantElems, wantErr)
		}
	}
}

// TestSplit checks P3.3.
func TestSplit(t *testing.T) {
	for _, x := range []struct {
		p    string
		want []string
		e    api.Errno
	}{
		{"/a//b", []string{"a", "b"}, api.OK},
		{"a//b", []string{"a", "b"}, api.OK},
		{"/", nil, api.OK},
		{"", nil, api.OK},
		{".", nil, api.OK},
		{"/..", nil, api.OK},
		{"a/..", nil, api.OK},
		{"../a", []string{"..", "a"}, api.OK},
		{"../..", []string{"..", ".."}, api.OK},
		{"/a/../b/c/", []string{"b", "c"}, api.OK},
		{"/a/./...", []string{"a", "..."}, api.OK},
		{strings.Repeat("a/", 32), slices.Repeat([]string{"a"}, 32), api.OK},
		{strings.Repeat("a/", 33), nil, api.ErrLong},
		{strings.Repeat("/", 1025), nil, api.ErrLong},
		{"/a/a b", nil, api.ErrName},
		{"/a/a b/..", nil, api.ErrName},
	} {
		if l, e := path.Split(x.p); !slices.Equal(l, x.want) || e != x.e {
			t.Errorf("Split(%.80q) is %q, %d, want %q, %d", x.p, l, e, x.want, x.e)
		}
	}
}

// TestJoin checks P3.4.
func TestJoin(t *testing.T) {
	for _, x := range []struct{ dir, p, want string }{
		{"/a/b", "../c", "/a/c"},
		{"/a", "/c", "/c"},
		{"", "a", "a"},
		{"", "", "."},
		{"", "/", "/"},
		{"", "/a/..", "/"},
		{"", "../a", "../a"},
		{"/", "", "/"},
		{"/", "a", "/a"},
		{"/", "..", "/"},
		{"/", "../a", "/a"},
		{"/a", "", "/a"},
		{"/a", ".", "/a"},
		{"/a", "..", "/"},
		{"/a", "../..", "/"},
		{"/a/", "b/", "/a/b"},
		{"/a/..", "b", "/b"},
		{"a", "", "a"},
		{"a", "b", "a/b"},
		{"a", "/b", "/b"},
		{"a", "../..", ".."},
		{".", "a", "a"},
		{".", "", "."},
		{"..", "a", "../a"},
		{"..", "..", "../.."},
		{"a b", "/c", "/c"},
		{strings.Repeat("/", 1025), "/c", "/c"},
		{strings.Repeat("/a", 33), "..", strings.Repeat("/a", 32)},
		{strings.Repeat("/", 1023), "", "/"},
		{strings.Repeat("/", 1022), "a", "/a"},
		{"", strings.Repeat("a/", 32), strings.Repeat("a/", 31) + "a"},
	} {
		if s, e := path.Join(x.dir, x.p); s != x.want || e != api.OK {
			t.Errorf("Join(%.80q, %.80q) is %q, %d, want %q", x.dir, x.p, s, e, x.want)
		}
	}
}

// TestJoinErrors checks that the errors of P3.4 are those of Clean for the joined text.
func TestJoinErrors(t *testing.T) {
	for _, x := range []struct {
		dir, p string
		e      api.Errno
	}{
		{"a b", "c", api.ErrName},
		{"a b", "..", api.ErrName},
		{"/a", "b c", api.ErrName},
		{"/a", "/b c", api.ErrName},
		{"", "b c", api.ErrName},
		{"/a", strings.Repeat("x", 65), api.ErrName},
		{strings.Repeat("/", 1024), "", api.ErrLong},
		{strings.Repeat("/", 1023), "a", api.ErrLong},
		{strings.Repeat("/", 1023), ".", api.ErrLong},
		{strings.Repeat("/", 512), strings.Repeat("./", 256), api.ErrLong},
		{"/a", strings.Repeat("/", 1025), api.ErrLong},
		{"a", strings.Repeat("./", 512), api.ErrLong},
		{strings.Repeat("/a", 32), "b", api.ErrLong},
		{strings.Repeat("/a", 33), "b", api.ErrLong},
		{strings.Repeat("/a", 32), "b c", api.ErrName},
		{"a b", strings.Repeat("/", 1025), api.ErrLong},
	} {
		if s, e := path.Join(x.dir, x.p); s != "" || e != x.e {
			t.Errorf("Join(%.80q, %.80q) is %q, %d, want %d", x.dir, x.p, s, e, x.e)
		}
	}
}

// TestJoinOfManyPaths checks P3.4 against the definition of the chapter.
func TestJoinOfManyPaths(t *testing.T) {
	for _, dir := range relations() {
		for _, p := range relations() {
			joined := p
			if dir != "" && (p == "" || p[0] != '/') {
				joined = dir + "/" + p
			}
			want, _, wantErr := cleanOfChapter(joined)
			if s, e := path.Join(dir, p); s != want || e != wantErr {
				t.Errorf("Join(%.80q, %.80q) is %q, %d, want %q, %d", dir, p, s, e, want, wantErr)
			}
		}
	}
}

// TestEnds checks P3.5.
func TestEnds(t *testing.T) {
	for _, x := range []struct{ p, base, dir string }{
		{"/a/b/", "b", "/a"},
		{"/a/b", "b", "/a"},
		{"/a", "a", "/"},
		{"a", "a", "."},
		{"a/b", "b", "a"},
		{"./a", "a", "."},
		{"a/b/..", "a", "."},
		{"/a/b/..", "a", "/"},
		{"/", "/", "/"},
		{"/..", "/", "/"},
		{"//", "/", "/"},
		{"", ".", "."},
		{".", ".", "."},
		{"a/..", ".", "."},
		{"/a/..", "/", "/"},
		{"..", "..", "."},
		{"../..", "..", ".."},
		{"../a", "a", ".."},
		{"../../a/b", "b", "../../a"},
		{"/...", "...", "/"},
		{strings.Repeat("/a", 32), "a", strings.Repeat("/a", 31)},
		{strings.Repeat("/", 1024), "/", "/"},
		{"a b", "", ""},
		{"/a b/..", "", ""},
		{"/a b/c", "", ""},
		{"a b/c", "", ""},
		{strings.Repeat("x", 65), "", ""},
		{strings.Repeat("/a", 33), "", ""},
		{strings.Repeat("/", 1025), "", ""},
	} {
		if b, d := path.Base(x.p), path.Dir(x.p); b != x.base || d != x.dir {
			t.Errorf("Base and Dir of %.80q are %q and %q, want %q and %q", x.p, b, d, x.base, x.dir)
		}
	}
}

// TestEndsOfManyPaths checks P3.5 against the elements of the chapter.
func TestEndsOfManyPaths(t *testing.T) {
	for _, p := range paths() {
		base, elems, e := cleanOfChapter(p)
		dir := base
		if n := len(elems); e == api.OK && n > 0 {
			base = elems[n-1]
			dir = strings.Join(elems[:n-1], "/")
			if strings.HasPrefix(p, "/") {
				dir = "/" + dir
			} else if n == 1 {
				dir = "."
			}
		}
		if b, d := path.Base(p), path.Dir(p); b != base || d != dir {
			t.Errorf("Base and Dir of %.80q are %q and %q, want %q and %q", p, b, d, base, dir)
		}
	}
}

// TestUnder checks the paths of P3.6 that are under another one.
func TestUnder(t *testing.T) {
	for _, x := range []struct{ dir, p string }{
		{"/a", "/a/b"},
		{"/", "/a/b"},
		{"/a/b", "/a/b"},
		{"/a", "/a/."},
		{"/a/", "/a"},
		{"/", "/"},
		{"/", "/.."},
		{"/..", "/a"},
		{"//", "/a"},
		{"/a", "/a/b/c"},
		{"/a", "/b/../a/c"},
		{"/a/../b", "/b/c"},
		{"/a/b/..", "/a/c"},
		{"/", strings.Repeat("/a", 32)},
		{strings.Repeat("/a", 32), strings.Repeat("/a", 32)},
		{strings.Repeat("/", 1024), "/a"},
	} {
		if !path.Under(x.dir, x.p) {
			t.Errorf("Under(%.80q, %.80q) is false", x.dir, x.p)
		}
	}
}

// TestNotUnder checks the paths of P3.6 that are not under another one: by their elements, because they are not rooted, or because of an error.
func TestNotUnder(t *testing.T) {
	for _, x := range []struct{ dir, p string }{
		{"/a", "/ab"},
		{"/ab", "/a"},
		{"/a/b", "/a"},
		{"/a", "/"},
		{"/a", "/b"},
		{"/a", "/b/a"},
		{"/a/b", "/a/c"},
		{"/a/b", "/b/b"},
		{"/a", "/a/.."},
		{"/a", "/a/../b"},
		{"a", "a/b"},
		{"a", "a"},
		{"/a", "a/b"},
		{"a", "/a/b"},
		{".", "."},
		{"", ""},
		{"", "/a"},
		{"/", ""},
		{"/", "a"},
		{".", "/a"},
		{"..", "/a"},
		{"..", "../a"},
		{"/a b", "/a b"},
		{"/a b", "/a"},
		{"/a b/..", "/a"},
		{"/a", "/a/b c"},
		{"/a", "/a/b c/.."},
		{"/", strings.Repeat("/a", 33)},
		{strings.Repeat("/a", 33), strings.Repeat("/a", 33)},
		{"/", strings.Repeat("/", 1025)},
		{strings.Repeat("/", 1025), "/"},
	} {
		if path.Under(x.dir, x.p) {
			t.Errorf("Under(%.80q, %.80q) is true", x.dir, x.p)
		}
	}
}

// TestUnderOfManyPaths checks P3.6 against the elements of the chapter.
func TestUnderOfManyPaths(t *testing.T) {
	for _, dir := range relations() {
		for _, p := range relations() {
			_, outer, e := cleanOfChapter(dir)
			_, inner, f := cleanOfChapter(p)
			want := e == api.OK && f == api.OK && strings.HasPrefix(dir, "/") && strings.HasPrefix(p, "/") && len(outer) <= len(inner)
			for i := 0; want && i < len(outer); i++ {
				want = outer[i] == inner[i]
			}
			if path.Under(dir, p) != want {
				t.Errorf("Under(%.80q, %.80q) is %v", dir, p, !want)
			}
		}
	}
}

// TestCleanOfClean checks P3.7.
func TestCleanOfClean(t *testing.T) {
	for _, p := range paths() {
		cleaned, e := path.Clean(p)
		if e != api.OK {
			continue
		}
		if again, f := path.Clean(cleaned); again != cleaned || f != api.OK {
			t.Errorf("Clean(%q) is %q, %d", cleaned, again, f)
		}
		l, f := path.Split(cleaned)
		joined := strings.Join(l, "/")
		if strings.HasPrefix(p, "/") {
			joined = "/" + joined
		}
		// The path without elements that is not rooted is written with a dot, which is no element.
		if joined == "" {
			joined = "."
		}
		if joined != cleaned || f != api.OK {
			t.Errorf("Split(%q) is %q, %d", cleaned, l, f)
		}
	}
}

// TestJoinOfEnds checks P3.8.
func TestJoinOfEnds(t *testing.T) {
	for _, p := range paths() {
		l, e := path.Split(p)
		if e != api.OK || len(l) == 0 || l[len(l)-1] == ".." {
			continue
		}
		cleaned, _ := path.Clean(p)
		if s, f := path.Join(path.Dir(p), path.Base(p)); s != cleaned || f != api.OK {
			t.Errorf("Dir and Base of %q are joined to %q, %d", p, s, f)
		}
	}
}

// TestJoinIsUnder checks the first sentence of P3.9.
func TestJoinIsUnder(t *testing.T) {
	for _, dir := range relations() {
		for _, p := range paths() {
			if !strings.HasPrefix(dir, "/") || strings.HasPrefix(p, "/") || slices.Contains(partsOf(p), "..") {
				continue
			}
			if joined, e := path.Join(dir, p); e == api.OK && !path.Under(dir, joined) {
				t.Errorf("Join(%q, %q) is %q, which is not under it", dir, p, joined)
			}
		}
	}
}

// TestUnderIsTransitive checks the second sentence of P3.9.
func TestUnderIsTransitive(t *testing.T) {
	for _, a := range relations() {
		for _, b := range relations() {
			for _, c := range relations() {
				if path.Under(a, b) && path.Under(b, c) && !path.Under(a, c) {
					t.Errorf("%q is under %q, and it under %q, but not %q under %q", c, b, a, c, a)
				}
			}
		}
	}
}

// TestArbitraryTexts checks that every call ends without a panic, and with the zero values of an error, for texts that are no paths.
func TestArbitraryTexts(t *testing.T) {
	texts := append(relations(), "\x00", "\xff\xfe", "é/λ", "\xc0\xaf", "a\x00/..", strings.Repeat("\xff", 2000), strings.Repeat("/../x y", 500), strings.Repeat("x", 1<<20))
	for _, p := range texts {
		s, e := path.Clean(p)
		l, f := path.Split(p)
		if e != f || e != api.OK && (s != "" || len(l) != 0 || path.Base(p) != "" || path.Dir(p) != "" || path.Under(p, p)) {
			t.Errorf("Clean, Split, Base, Dir of %.80q are %q, %d, %q, %d, %q, %q", p, s, e, l, f, path.Base(p), path.Dir(p))
		}
		for _, dir := range texts {
			if s, e := path.Join(dir, p); e != api.OK && s != "" {
				t.Errorf("Join(%.80q, %.80q) is %q, %d", dir, p, s, e)
			}
			path.Under(dir, p)
		}
	}
}
