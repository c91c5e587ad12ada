package perm_test

import (
	"fmt"
	"math"
	"slices"
	"strings"
	"testing"

	"filespace/api"
	"filespace/perm"
	"filespace/sample"
)

// The bits of a mode besides its permissions, and the types of qids that belong to them, as numbers.
const (
	dir    = 2147483648
	app    = 1073741824
	excl   = 536870912
	auth   = 134217728
	qDir   = 128
	qApp   = 64
	qExcl  = 32
	qAuth  = 8
	noBits = 0
)

// heads are the bits of the valid modes besides their permissions, with their texts.
var heads = map[int]string{noBits: "--", dir: "d-", app: "a-", excl: "-l", dir + excl: "dl", app + excl: "al"}

// negatives are numbers that are no modes; most of them have all bits of a mode.
var negatives = []int{-1, -2, -7, -8, -64, -420, -512, -513, -dir, -dir - 1, -app, -excl, -auth, math.MinInt, math.MinInt + 1, math.MinInt + 420}

// strange are bits that are in no valid mode.
func strange() []int {
	var l []int
	for i := 9; i < 63; i++ {
		if i < 29 || i > 31 {
			l = append(l, 1<<i)
		}
	}
	return l
}

// validTexts returns the modes that are valid, by their texts: three digits in octal, each with its own letters.
func validTexts() map[string]int {
	letters := []string{"---", "--x", "-w-", "-wx", "r--", "r-x", "rw-", "rwx"}
	modes := map[string]int{}
	for bits, text := range heads {
		for p := range 512 {
			s := text
			for _, digit := range fmt.Sprintf("%03o", p) {
				s += letters[digit-'0']
			}
			modes[s] = bits + p
		}
	}
	return modes
}

// isIn follows the chapter's definition of a bit that is in a mode that is not negative.
func isIn(bit, mode int) bool {
	return mode/bit%2 == 1
}

// digitOf returns the rights of a class in a mode: 0 for the owner, 1 for the group, 2 for others.
func digitOf(mode, class int) int {
	return mode % 512 / []int{64, 8, 1}[class] % 8
}

// checkParse reports a result of Parse that is not the one by the texts of the valid modes.
func checkParse(t *testing.T, s string, modes map[string]int) {
	t.Helper()
	want, ok := modes[s]
	wantError := api.ErrForm
	if ok {
		wantError = api.OK
	}
	if mode, e := perm.Parse(s); mode != want || e != wantError {
		t.Errorf("Parse(%.80q) is %d, %d, want %d, %d", s, mode, e, want, wantError)
	}
}

// TestText checks P6.1.
func TestText(t *testing.T) {
	for mode, want := range map[int]string{
		api.DMDir + 493:              "d-rwxr-xr-x",
		420:                          "--rw-r--r--",
		0:                            "-----------",
		511:                          "--rwxrwxrwx",
		448:                          "--rwx------",
		56:                           "-----rwx---",
		7:                            "--------rwx",
		292:                          "--r--r--r--",
		146:                          "---w--w--w-",
		73:                           "----x--x--x",
		api.DMDir:                    "d----------",
		api.DMAppend:                 "a----------",
		api.DMExcl:                   "-l---------",
		api.DMDir + api.DMExcl:       "dl---------",
		api.DMAppend + api.DMExcl:    "al---------",
		api.DMAppend + 384:           "a-rw-------",
		api.DMDir + api.DMExcl + 511: "dlrwxrwxrwx",
	} {
		if s := perm.Text(mode); s != want {
			t.Errorf("Text(%d) is %q, want %q", mode, s, want)
		}
	}
}

// TestTextOfEveryMode checks P6.1 for all modes that are valid.
func TestTextOfEveryMode(t *testing.T) {
	modes := validTexts()
	if len(modes) != 6*512 {
		t.Fatalf("%d modes are valid", len(modes))
	}
	for want, mode := range modes {
		if s := perm.Text(mode); s != want {
			t.Errorf("Text(%d) is %q, want %q", mode, s, want)
		}
	}
}

// TestTextNotValid checks that P6.1 has no text for a mode that is not valid: a bit that is in no mode, or the two that exclude each other.
func TestTextNotValid(t *testing.T) {
	modes := append([]int{512, 513, 1023, dir + app, dir + app + 511, dir + app + excl, dir + app + excl + auth, 2 * dir, dir - 1, math.MaxInt, math.MaxInt - 511}, negatives...)
	for bits := range heads {
		for _, bit := range strange() {
			modes = append(modes, bits+bit, bits+bit+420, bits+bit+511)
		}
	}
	for _, mode := range modes {
		if s := perm.Text(mode); s != "" {
			t.Errorf("Text(%d) is %q", mode, s)
		}
	}
}

// TestParse checks P6.2 for the texts of all modes that are valid.
func TestParse(t *testing.T) {
	if mode, e := perm.Parse("a-rw-------"); mode != api.DMAppend+384 || e != api.OK {
		t.Errorf("Parse of the chapter's example is %d, %d", mode, e)
	}
	modes := validTexts()
	for s := range modes {
		checkParse(t, s, modes)
	}
}

// TestParseForm checks the ErrForm of P6.2.
func TestParseForm(t *testing.T) {
	for _, s := range []string{
		"", "-", "d", "d-rwxr-xr-", "d-rwxr-xr-x ", " d-rwxr-xr-x", "d-rwxr-xr-x\n", "d-rwxr-xr-x\x00", "----------", "------------", "x-rwxr-xr-x", "-drwxr-xr-x", "-arw-------",
		"ld---------", "l----------", "ll---------", "dd---------", "da---------", "ad---------", "--wr-------", "--xwr------", "--rwxr-xrwr", "--rrr------", "D-rwxr-xr-x", "dL---------",
		"--RWX------", "--rws------", "-rw-r--r--", "drwxr-xr-x", "---rwxr-xr-", "644", "00000000420", "ééééé-", "é----------", "é---------", "−----------", strings.Repeat("-", 1<<20),
	} {
		if mode, e := perm.Parse(s); mode != 0 || e != api.ErrForm {
			t.Errorf("Parse(%.80q) is %d, %d", s, mode, e)
		}
	}
}

// TestParseOfEveryByte checks P6.2 with every byte at each place of some texts, in front of them and behind them.
func TestParseOfEveryByte(t *testing.T) {
	modes := validTexts()
	for _, s := range []string{"-----------", "--rwxrwxrwx", "dlrwxrwxrwx", "a----------", "d-r-x-w-r--"} {
		for i := range 256 {
			b := string([]byte{byte(i)})
			for at := range len(s) {
				checkParse(t, s[:at]+b+s[at+1:], modes)
				checkParse(t, s[:at]+b+s[at:], modes)
				checkParse(t, s[:at]+s[at+1:], modes)
			}
			checkParse(t, s+b, modes)
		}
	}
}

// TestParseOfManyTexts checks P6.2 for texts of parts that belong to some places only.
func TestParseOfManyTexts(t *testing.T) {
	modes := validTexts()
	parsed := 0
	for _, s := range sample.Words([]string{"d", "a", "-", "l", "rwx", "r--", "-wx", "wr-"}, 5) {
		checkParse(t, s, modes)
		if _, ok := modes[s]; ok {
			parsed++
		}
	}
	if parsed < 100 {
		t.Errorf("only %d texts are valid", parsed)
	}
}

// TestType checks P6.3 for every sum of the four bits, with other bits beside them.
func TestType(t *testing.T) {
	if perm.Type(api.DMExcl+420) != api.QExcl {
		t.Error("Type of the chapter's example is wrong")
	}
	types := map[int]int{0: api.QFile}
	for bit, q := range map[int]int{dir: qDir, app: qApp, excl: qExcl, auth: qAuth} {
		more := map[int]int{}
		for mode, sum := range types {
			more[mode], more[mode+bit] = sum, sum+q
		}
		types = more
	}
	if len(types) != 16 {
		t.Fatalf("the test has %d sums", len(types))
	}
	for mode, want := range types {
		for _, rest := range []int{0, 1, 420, 511, 512, 1 << 23, 1 << 24, 1 << 25, 1 << 26, 1 << 28, 1 << 32, 1 << 35, 1 << 55, 1 << 62, 511 + 1<<28 + 1<<40} {
			if q := perm.Type(mode + rest); q != want {
				t.Errorf("Type(%d) is %d, want %d", mode+rest, q, want)
			}
		}
	}
	if q := perm.Type(math.MaxInt); q != qDir+qApp+qExcl+qAuth {
		t.Errorf("Type of the greatest number is %d", q)
	}
	for _, mode := range negatives {
		if q := perm.Type(mode); q != 0 {
			t.Errorf("Type(%d) is %d", mode, q)
		}
	}
}

// openModes returns the rights of the open modes that are valid.
func openModes() map[int]int {
	modes := map[int]int{}
	for base, rights := range []int{4, 2, 6, 1} {
		modes[base], modes[base+64] = rights, rights
		if rights == 4 || rights == 1 {
			rights += 2
		}
		modes[base+16], modes[base+80] = rights, rights
	}
	return modes
}

// TestOpen checks P6.4 for the examples and for all open modes that are valid.
func TestOpen(t *testing.T) {
	for mode, want := range map[int]int{
		api.ORead: api.ARead, api.OWrite: api.AWrite, api.ORdwr: api.ARead + api.AWrite, api.OExec: api.AExec, 64: api.ARead,
		api.ORead + api.OTrunc: api.ARead + api.AWrite, api.OWrite + api.OTrunc: api.AWrite, api.OExec + api.OTrunc: api.AExec + api.AWrite,
		api.ORdwr + api.OTrunc + api.OClose: api.ARead + api.AWrite,
	} {
		if rights, e := perm.Open(mode); rights != want || e != api.OK {
			t.Errorf("Open(%d) is %d, %d, want %d", mode, rights, e, want)
		}
	}
	modes := openModes()
	if len(modes) != 16 {
		t.Fatalf("%d open modes are valid", len(modes))
	}
	for mode, want := range modes {
		if rights, e := perm.Open(mode); rights != want || e != api.OK {
			t.Errorf("Open(%d) is %d, %d, want %d", mode, rights, e, want)
		}
	}
}

// TestOpenErrors checks the ErrMode of P6.4: every small number that is no open mode, and every other bit.
func TestOpenErrors(t *testing.T) {
	valid := openModes()
	modes := append([]int{4, 32, -1, math.MaxInt}, negatives...)
	for mode := -300; mode < 1100; mode++ {
		modes = append(modes, mode)
	}
	for i := range 63 {
		for mode := range valid {
			modes = append(modes, mode|1<<i)
		}
	}
	for _, mode := range modes {
		if _, ok := valid[mode]; ok {
			continue
		}
		if rights, e := perm.Open(mode); rights != 0 || e != api.ErrMode {
			t.Errorf("Open(%d) is %d, %d", mode, rights, e)
		}
	}
}

// users has ann and eve in the group sys, whose leader bob is not in it, and a second sys that does not count.
func users() []api.User {
	return []api.User{{Name: "ann"}, {Name: "bob"}, {Name: "sys", Leader: "bob", Members: []string{"ann", "eve"}}, {Name: "eve"}, {Name: "joe"}, {Name: "sys", Leader: "joe", Members: []string{"joe"}}, {Name: "none"}}
}

// TestAllows checks P6.5 for the examples, and for who is in which class.
func TestAllows(t *testing.T) {
	for _, x := range []struct {
		l              []api.User
		user, uid, gid string
		mode, want     int
		ok             bool
	}{
		{nil, "ann", "ann", "sys", 420, 6, true},
		{nil, "bob", "ann", "sys", 420, 6, false},
		{nil, "bob", "ann", "sys", 420, 4, true},
		{nil, "bob", "ann", "sys", 420, 2, false},
		{users(), "bob", "bob", "sys", 416, 6, true},
		{users(), "ann", "bob", "sys", 416, 4, true},
		{users(), "ann", "bob", "sys", 416, 2, false},
		{users(), "joe", "bob", "sys", 416, 4, false},
		{users(), "nobody", "bob", "sys", 416, 4, false},
		{users(), "nobody", "bob", "sys", 416, 0, true},
		{nil, "", "a", "b", 0, 0, true},
		// The classes add up: the owner has the rights of others, and those of the group as a member of it.
		{users(), "joe", "joe", "sys", 7, 7, true},
		{users(), "ann", "joe", "sys", 7, 7, true},
		{users(), "ann", "ann", "sys", 56, 7, true},
		{users(), "joe", "joe", "sys", 56, 1, false},
		{users(), "ann", "ann", "sys", 266, 7, true},
		{users(), "ann", "ann", "sys", 258, 7, false},
		{users(), "ann", "ann", "sys", 258, 6, true},
		{users(), "ann", "ann", "sys", 273, 7, true},
		{users(), "ann", "joe", "sys", 273, 6, false},
		{users(), "ann", "joe", "sys", 273, 3, true},
		{users(), "joe", "joe", "sys", 273, 5, true},
		{users(), "joe", "joe", "sys", 273, 2, false},
		// A user is a member of the group with the user's own name, which needs no list.
		{nil, "ann", "bob", "ann", 56, 7, true},
		{nil, "nobody", "bob", "nobody", 56, 7, true},
		{users(), "sys", "bob", "sys", 56, 7, true},
		// A leader is not a member; of two groups with a name the first one counts.
		{users(), "bob", "x", "sys", 56, 1, false},
		{users(), "joe", "x", "sys", 56, 1, false},
		{users(), "eve", "x", "sys", 56, 7, true},
		{users(), "none", "x", "sys", 56, 1, false},
		// A member of a group does not own what the group owns, and the group is no member of its members.
		{users(), "ann", "sys", "x", 448, 1, false},
		{users(), "sys", "x", "ann", 56, 1, false},
		{users(), "ann", "ANN", "x", 448, 4, false},
		{users(), "ann", "an", "annn", 504, 4, false},
		{users(), "ann", "x", "nogroup", 56, 4, false},
		// Texts that are no user names are compared all the same.
		{nil, "", "", "sys", 448, 7, true},
		{nil, "", "ann", "", 56, 7, true},
		{users(), "", "ann", "sys", 504, 1, false},
	} {
		if perm.Allows(x.l, x.user, x.uid, x.gid, x.mode, x.want) != x.ok {
			t.Errorf("Allows(%q, %q, %q, %d, %d) is %v", x.user, x.uid, x.gid, x.mode, x.want, !x.ok)
		}
	}
}

// caller is a user of a file, with the classes that the user is in.
type caller struct {
	user, uid, gid string
	owner, member  bool
}

// callers are in each set of classes.
var callers = []caller{
	{"joe", "bob", "sys", false, false},
	{"nobody", "bob", "sys", false, false},
	{"ann", "bob", "sys", false, true},
	{"bob", "bob", "sys", true, false},
	{"eve", "eve", "sys", true, true},
	{"joe", "joe", "joe", true, true},
}

// grantedOfChapter follows the definition of P6.5 with sets of rights.
func grantedOfChapter(c caller, mode int) map[int]bool {
	granted := map[int]bool{}
	for _, right := range []int{1, 2, 4} {
		others := isIn(right, digitOf(mode, 2))
		group := isIn(right, digitOf(mode, 1)) && c.member
		owner := isIn(right, digitOf(mode, 0)) && c.owner
		granted[right] = others || group || owner
	}
	return granted
}

// TestAllowsOfEveryMode checks P6.5 for all permissions and all rights, with other bits beside the permissions.
func TestAllowsOfEveryMode(t *testing.T) {
	l := users()
	for _, bits := range []int{0, dir, app + excl, auth, 512, 1 << 32, 1 << 62, math.MaxInt - 511} {
		for p := range 512 {
			for _, c := range callers {
				granted := grantedOfChapter(c, bits+p)
				for want := range 8 {
					ok := !(isIn(1, want) && !granted[1] || isIn(2, want) && !granted[2] || isIn(4, want) && !granted[4])
					if perm.Allows(l, c.user, c.uid, c.gid, bits+p, want) != ok {
						t.Errorf("Allows(%v, %d, %d) is %v", c, bits+p, want, !ok)
					}
				}
			}
		}
	}
}

// TestAllowsArguments checks that P6.5 allows nothing for a negative mode, or rights that there are not.
func TestAllowsArguments(t *testing.T) {
	l := users()
	for _, c := range callers {
		for _, mode := range negatives {
			for want := range 8 {
				if perm.Allows(l, c.user, c.uid, c.gid, mode, want) {
					t.Errorf("Allows(%v, %d, %d) is true", c, mode, want)
				}
			}
		}
		for _, want := range append([]int{8, 9, 12, 15, 16, 64, 448, 511, 1 << 31, 1 << 32, 1 << 62, math.MaxInt}, negatives...) {
			for _, mode := range []int{0, 7, 420, 511, 1023, dir + 511, math.MaxInt, -1} {
				if perm.Allows(l, c.user, c.uid, c.gid, mode, want) {
					t.Errorf("Allows(%v, %d, %d) is true", c, mode, want)
				}
			}
		}
	}
}

// TestAllowsWriteOfOwner checks the second of the document's ten examples: a file of the mode 644 can be written by its owner only.
func TestAllowsWriteOfOwner(t *testing.T) {
	for _, c := range callers {
		if perm.Allows(users(), c.user, c.uid, c.gid, 420, api.AWrite) != c.owner || !perm.Allows(users(), c.user, c.uid, c.gid, 420, api.ARead) {
			t.Errorf("the mode 420 is wrong for %v", c)
		}
	}
}

// TestAllowsKeepsList checks that Allows changes no list, spare capacity included.
func TestAllowsKeepsList(t *testing.T) {
	l := append(make([]api.User, 0, 8), users()...)
	l[2].Members = append(make([]string, 0, 4), "eve", "ann")
	perm.Allows(l, "ann", "bob", "sys", 420, 4)
	want := users()
	want[2].Members = []string{"eve", "ann"}
	for i, u := range l {
		if u.Name != want[i].Name || u.Leader != want[i].Leader || !slices.Equal(u.Members, want[i].Members) {
			t.Errorf("the user %v became %v", want[i], u)
		}
	}
	if u := l[:8][7]; u.Name != "" || l[2].Members[:3][2] != "" {
		t.Error("the spare capacity was written")
	}
}

// inheritOfChapter follows P6.6 right by right.
func inheritOfChapter(d, mode int) int {
	if d < 0 || mode < 0 {
		return 0
	}
	result := mode / 512 * 512
	for class, weight := range []int{64, 8, 1} {
		for _, right := range []int{4, 2, 1} {
			kept := isIn(right, digitOf(mode, class))
			if isIn(dir, mode) || right != 1 {
				kept = kept && isIn(right, digitOf(d, class))
			}
			if kept {
				result += right * weight
			}
		}
	}
	return result
}

// TestInherit checks P6.6 for the examples and for single rights.
func TestInherit(t *testing.T) {
	for _, x := range []struct{ dir, mode, want int }{
		{api.DMDir + 493, 438, 420},
		{api.DMDir + 493, api.DMDir + 511, api.DMDir + 493},
		{api.DMDir + 448, 511, 457},
		{api.DMDir + 448, api.DMDir + 511, api.DMDir + 448},
		{api.DMDir, 511, 73},
		{api.DMDir, api.DMDir + 511, api.DMDir},
		{api.DMDir + 511, 0, 0},
		{api.DMDir + 511, 511, 511},
		{api.DMDir + 511, 420, 420},
		{0, 0, 0},
		{0, 438, 0},
		{0, 73, 73},
		{511, api.DMAppend + 438, api.DMAppend + 438},
		{api.DMDir + 493, api.DMAppend + api.DMExcl + 438, api.DMAppend + api.DMExcl + 420},
		{api.DMDir + 493, api.DMDir + api.DMExcl + 511, api.DMDir + api.DMExcl + 493},
		// Only DMDir in mode makes a directory; that in dir means nothing, nor do the other bits of dir.
		{493, api.DMDir + 511, api.DMDir + 493},
		{493, 511, 493 | 73},
		{api.DMDir + api.DMAppend + api.DMExcl + 448, 384, 384},
		// A right of one class is not one of another.
		{56, 438, 48},
		{7, 438, 6},
		{448, 438, 384},
		// Bits that are in no valid mode are kept, too.
		{511, 512, 512},
		{0, auth + 420, auth},
		{0, 1<<32 + 511, 1<<32 + 73},
		{0, math.MaxInt, math.MaxInt - 511},
		{math.MaxInt, math.MaxInt, math.MaxInt},
	} {
		if mode := perm.Inherit(x.dir, x.mode); mode != x.want {
			t.Errorf("Inherit(%d, %d) is %d, want %d", x.dir, x.mode, mode, x.want)
		}
	}
}

// TestInheritNegative checks the 0 of P6.6.
func TestInheritNegative(t *testing.T) {
	for _, n := range negatives {
		for _, m := range append([]int{0, 420, 511, dir + 511, math.MaxInt}, negatives...) {
			if a, b := perm.Inherit(n, m), perm.Inherit(m, n); a != 0 || b != 0 {
				t.Errorf("Inherit with %d and %d is %d, %d", n, m, a, b)
			}
		}
	}
}

// TestInheritOfEveryMode checks P6.6 for all permissions of both modes, and what P6.7 says of Inherit.
func TestInheritOfEveryMode(t *testing.T) {
	for _, bits := range []struct{ dir, mode int }{{dir, 0}, {dir, dir}, {0, dir + excl}, {excl, app + auth}, {1 << 40, 1<<32 + 512}} {
		for p := range 512 {
			for q := range 512 {
				d, mode := bits.dir+p, bits.mode+q
				result := perm.Inherit(d, mode)
				if result != inheritOfChapter(d, mode) {
					t.Fatalf("Inherit(%d, %d) is %d", d, mode, result)
				}
				if result&511|q != q || perm.Type(result) != perm.Type(mode) || perm.Inherit(d, result) != result {
					t.Fatalf("Inherit(%d, %d) is %d, which P6.7 excludes", d, mode, result)
				}
			}
		}
	}
}

// TestParseOfText checks the first half of P6.7's first sentence; a mode above the last valid permission has no text.
func TestParseOfText(t *testing.T) {
	parsed := 0
	for _, bits := range []int{0, dir, app, excl, dir + excl, app + excl, dir + app, auth, 1 << 28, 1 << 32} {
		for p := range 1100 {
			s := perm.Text(bits + p)
			if s == "" {
				continue
			}
			parsed++
			if mode, e := perm.Parse(s); mode != bits+p || e != api.OK {
				t.Errorf("Parse(%q) is %d, %d, want %d", s, mode, e, bits+p)
			}
		}
	}
	if parsed != 6*512 {
		t.Errorf("%d modes have a text", parsed)
	}
}

// TestTextOfParse checks the second half of P6.7's first sentence.
func TestTextOfParse(t *testing.T) {
	parsed := 0
	for _, s := range sample.Words([]string{"--", "d-", "-l", "al", "da", "rwx", "rw-", "--x", "-w-", "xwr"}, 4) {
		mode, e := perm.Parse(s)
		if e != api.OK {
			continue
		}
		parsed++
		if text := perm.Text(mode); text != s {
			t.Errorf("Text of Parse(%q) is %q", s, text)
		}
	}
	if parsed < 200 {
		t.Errorf("only %d texts were parsed", parsed)
	}
}

// TestMoreRights checks P6.7: more rights in the mode take none away, and whoever is allowed some rights is allowed fewer.
func TestMoreRights(t *testing.T) {
	l := users()
	for p := range 512 {
		for want := range 8 {
			for _, c := range callers {
				if !perm.Allows(l, c.user, c.uid, c.gid, p, want) {
					continue
				}
				for i := range 9 {
					if !perm.Allows(l, c.user, c.uid, c.gid, p|1<<i, want) {
						t.Errorf("%v loses %d with %d in the mode %d", c, want, 1<<i, p)
					}
				}
				for i := range 3 {
					if !perm.Allows(l, c.user, c.uid, c.gid, p, want&^(1<<i)) {
						t.Errorf("%v has %d in the mode %d, but not less", c, want, p)
					}
				}
			}
		}
	}
}

// TestUnknownUser checks P6.7: a user of whom nothing is known has the rights of others.
func TestUnknownUser(t *testing.T) {
	for _, l := range [][]api.User{nil, users()} {
		for p := range 512 {
			for want := range 8 {
				ok := want|p%8 == p%8
				if perm.Allows(l, "stranger", "bob", "sys", p, want) != ok {
					t.Errorf("Allows of a stranger is %v for %d in the mode %d", !ok, want, p)
				}
			}
		}
	}
}
