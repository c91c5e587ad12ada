package stat_test

import (
	"encoding/binary"
	"math"
	"slices"
	"strings"
	"testing"

	"filespace/api"
	"filespace/sample"
	"filespace/stat"
)

// The bits of the type of a qid and of a mode, and the limits, as numbers.
const (
	keep    = -1
	dir     = 2147483648
	app     = 1073741824
	excl    = 536870912
	auth    = 134217728
	qBits   = 128 + 64 + 32 + 8
	mBits   = dir + app + excl + auth + 511
	maxVers = 2147483647
	maxId   = 1099511627776
	maxTime = 1099511627776
	maxNum  = 9007199254740991
)

// field is a row of the chapter's table that is about numbers: where the number is, its width, and whether a value is valid.
type field struct {
	name  string
	of    func(d *api.Dir) *int
	width int
	valid func(n int) bool
}

// greatest returns the greatest valid number of a field.
func (f field) greatest() int {
	d := greatest()
	return *f.of(&d)
}

// with returns a description with n in the field.
func (f field) with(d api.Dir, n int) api.Dir {
	*f.of(&d) = n
	return d
}

// fields are the numbers in the order of their bytes.
var fields = []field{
	{"Type", func(d *api.Dir) *int { return &d.Type }, 2, upTo(65534)},
	{"Dev", func(d *api.Dir) *int { return &d.Dev }, 4, upTo(4294967294)},
	{"Qid.Type", func(d *api.Dir) *int { return &d.Qid.Type }, 1, sumOf(8, 32, 64, 128)},
	{"Qid.Vers", func(d *api.Dir) *int { return &d.Qid.Vers }, 4, upTo(maxVers)},
	{"Qid.Path", func(d *api.Dir) *int { return &d.Qid.Path }, 8, upTo(maxId)},
	{"Mode", func(d *api.Dir) *int { return &d.Mode }, 4, sumOf(1, 2, 4, 8, 16, 32, 64, 128, 256, auth, excl, app, dir)},
	{"Atime", func(d *api.Dir) *int { return &d.Atime }, 8, upTo(maxTime)},
	{"Mtime", func(d *api.Dir) *int { return &d.Mtime }, 8, upTo(maxTime)},
	{"Length", func(d *api.Dir) *int { return &d.Length }, 8, upTo(maxNum)},
}

// textField is a row of the chapter's table that is about texts.
type textField struct {
	name  string
	of    func(d *api.Dir) *string
	valid func(s string) bool
}

// with returns a description with s in the field.
func (f textField) with(d api.Dir, s string) api.Dir {
	*f.of(&d) = s
	return d
}

// textFields are the texts in the order of their bytes.
var textFields = []textField{
	{"Name", func(d *api.Dir) *string { return &d.Name }, isName},
	{"Uid", func(d *api.Dir) *string { return &d.Uid }, isShort},
	{"Gid", func(d *api.Dir) *string { return &d.Gid }, isShort},
	{"Muid", func(d *api.Dir) *string { return &d.Muid }, isShort},
}

// upTo returns the test for the numbers from 0 to greatest, and Keep.
func upTo(greatest int) func(int) bool {
	return func(n int) bool { return n >= -1 && n <= greatest }
}

// sumOf returns the test for the sums of some of the bits, each at most once, and Keep.
func sumOf(bits ...int) func(int) bool {
	return func(n int) bool {
		if n < 0 {
			return n == -1
		}
		for _, bit := range bits {
			if n/bit%2 == 1 {
				n -= bit
			}
		}
		return n == 0
	}
}

func isName(s string) bool {
	if s == "" || s == "/" {
		return true
	}
	for i := range len(s) {
		if s[i] < 33 || s[i] > 126 || s[i] == '/' {
			return false
		}
	}
	return len(s) <= 64 && s != "." && s != ".."
}

func isShort(s string) bool {
	return len(s) <= 64
}

// checkOfChapter follows the chapter's definition of a valid description.
func checkOfChapter(d api.Dir) api.Errno {
	for _, f := range fields {
		if !f.valid(*f.of(&d)) {
			return api.ErrNumber
		}
	}
	for _, f := range textFields {
		if !f.valid(*f.of(&d)) {
			return api.ErrName
		}
	}
	return api.OK
}

// numbersOfChapter returns the bytes of the numbers of a description: the low bytes of each one, which are all 255 for Keep.
func numbersOfChapter(d api.Dir) string {
	var s []byte
	for _, f := range fields {
		s = append(s, binary.LittleEndian.AppendUint64(nil, uint64(*f.of(&d)))[:f.width]...)
	}
	return string(s)
}

// counted returns a text behind its length.
func counted(s string) string {
	return string(binary.LittleEndian.AppendUint16(nil, uint16(len(s)))) + s
}

// bytesOfChapter returns the bytes of a description, whether it is valid or not.
func bytesOfChapter(d api.Dir) string {
	s := numbersOfChapter(d)
	for _, f := range textFields {
		s += counted(*f.of(&d))
	}
	return counted(s)
}

// example is the description of P7.2.
func example() api.Dir {
	return api.Dir{Type: 1, Qid: api.Qid{Type: 128, Vers: 2, Path: 1}, Mode: dir + 493, Atime: 5, Mtime: 6, Name: "/", Uid: "adm", Gid: "adm"}
}

// full is a description in which no number and no text is that of another field.
func full() api.Dir {
	return api.Dir{Type: 0x0102, Dev: 0x03040506, Qid: api.Qid{Type: 32, Vers: 0x0708090a, Path: 0x0b0c0d0e0f}, Mode: excl + 420, Atime: 0x1011121314, Mtime: 0x1516171819, Length: 0x1a1b1c1d1e1f, Name: "name", Uid: "owner", Gid: "gr", Muid: "m"}
}

// greatest is a description whose numbers and texts are the greatest and longest that are valid.
func greatest() api.Dir {
	long := strings.Repeat("x", 64)
	return api.Dir{Type: 65534, Dev: 4294967294, Qid: api.Qid{Type: qBits, Vers: maxVers, Path: maxId}, Mode: mBits, Atime: maxTime, Mtime: maxTime, Length: maxNum, Name: long, Uid: long, Gid: long, Muid: long}
}

// bases are valid descriptions, the fields of which the tests replace.
func bases() []api.Dir {
	return []api.Dir{{}, stat.None(), example(), full(), greatest()}
}

// someNumbers are numbers at the limits of all fields, and at those of the integers.
func someNumbers() []int {
	l := []int{math.MinInt, math.MinInt + 1, math.MinInt + 511, -mBits, -qBits, -512, -256, -9, -8, -3, -2, -1, math.MaxInt - 1, math.MaxInt, qBits - 1, qBits + 1, mBits - 1, mBits + 1, mBits - 512, mBits + 512}
	for n := range 1100 {
		l = append(l, n)
	}
	for bit := 10; bit < 63; bit++ {
		l = append(l, 1<<bit-2, 1<<bit-1, 1<<bit, 1<<bit+1, 1<<bit+420, 1<<bit+511)
	}
	return l
}

// someTexts are texts at both sides of the limits, and with every byte in them.
func someTexts() []string {
	l := []string{"/", "//", "/a", "a/", "a/b", ".", "..", "...", ".a", "a.", "./", "../a", " ", "a b", "é", "\xff\xff\xff\xff"}
	for i := range 256 {
		b := string([]byte{byte(i)})
		l = append(l, b, "a"+b, b+"a", "a"+b+"a", strings.Repeat("a", 63)+b)
	}
	for _, n := range []int{62, 63, 64, 65, 66, 255, 256, 320, 65535} {
		l = append(l, strings.Repeat("a", n), strings.Repeat(".", n), strings.Repeat("\x00", n))
	}
	return append(l, sample.Bytes("a./\x00", 4)...)
}

// withNumbers returns descriptions with some number in one field each.
func withNumbers() []api.Dir {
	var l []api.Dir
	for _, d := range bases() {
		for _, f := range fields {
			for _, n := range someNumbers() {
				l = append(l, f.with(d, n))
			}
		}
	}
	return l
}

// withTexts returns descriptions with some text in one field each.
func withTexts() []api.Dir {
	var l []api.Dir
	for _, d := range bases() {
		for _, f := range textFields {
			for _, s := range someTexts() {
				l = append(l, f.with(d, s))
			}
		}
	}
	return l
}

// valid returns the valid ones of descriptions.
func valid(l []api.Dir) []api.Dir {
	return slices.DeleteFunc(l, func(d api.Dir) bool { return checkOfChapter(d) != api.OK })
}

// checkGet reports a result of Get that is not the wanted one.
func checkGet(t *testing.T, s string, at int, want api.Dir, next int, e api.Errno) {
	t.Helper()
	if d, after, f := stat.Get(s, at); d != want || after != next || f != e {
		t.Errorf("Get(%.80q, %d) is %.200v, %d, %d, want %.200v, %d, %d", s, at, d, after, f, want, next, e)
	}
}

// checkError reports a result of Get that is not the wanted error, with other bytes around too.
func checkError(t *testing.T, s string, e api.Errno) {
	t.Helper()
	checkGet(t, s, 0, api.Dir{}, 0, e)
	checkGet(t, "\x00\xffx"+s, 3, api.Dir{}, 0, e)
	if e != api.ErrShort {
		checkGet(t, s+"\x00\x00\xff", 0, api.Dir{}, 0, e)
	}
}

// checkAll reports a result of All that is not the wanted one.
func checkAll(t *testing.T, s string, want []api.Dir, e api.Errno) {
	t.Helper()
	if l, f := stat.All(s); !slices.Equal(l, want) || f != e {
		t.Errorf("All(%.80q) has %d descriptions and the error %d, want %d and %d", s, len(l), f, len(want), e)
	}
}

// TestCheck checks the valid descriptions of P7.1: the least and the greatest number of every field, Keep, and the texts at their limits.
func TestCheck(t *testing.T) {
	l := append(bases(), api.Dir{Name: "/"}, api.Dir{Name: "..."}, api.Dir{Name: strings.Repeat("~", 64)}, api.Dir{Uid: "A:/ \x00\xff", Gid: "..", Muid: "a/b"})
	for _, d := range bases() {
		for _, f := range fields {
			l = append(l, f.with(d, keep), f.with(d, 0), f.with(d, f.greatest()))
		}
	}
	for _, d := range l {
		if e := stat.Check(d); e != api.OK {
			t.Errorf("Check(%v) is %d", d, e)
		}
	}
}

// TestCheckLimits checks that P7.1 rejects the neighbours of the limits of each number.
func TestCheckLimits(t *testing.T) {
	for _, d := range bases() {
		for _, f := range fields {
			for _, n := range []int{-2, f.greatest() + 1, math.MinInt, math.MaxInt} {
				if e := stat.Check(f.with(d, n)); e != api.ErrNumber {
					t.Errorf("Check with %s %d is %d", f.name, n, e)
				}
			}
		}
	}
}

// TestCheckTypes checks every sum of bits that P7.1 takes as the type of a qid, and that it takes no other number of that size.
func TestCheckTypes(t *testing.T) {
	types := []int{0, 8, 32, 40, 64, 72, 96, 104, 128, 136, 160, 168, 192, 200, 224, 232}
	for n := range 1024 {
		want := api.ErrNumber
		if slices.Contains(types, n) {
			want = api.OK
		}
		if e := stat.Check(api.Dir{Qid: api.Qid{Type: n}}); e != want {
			t.Errorf("Check with the Qid.Type %d is %d, want %d", n, e, want)
		}
	}
}

// TestCheckModes checks every sum of bits that P7.1 takes as a mode, also those that no file has, and each bit that it does not take.
func TestCheckModes(t *testing.T) {
	heads := []int{0}
	for _, bit := range []int{auth, excl, app, dir} {
		for _, head := range slices.Clone(heads) {
			heads = append(heads, head+bit)
		}
	}
	for _, head := range heads {
		for p := range 512 {
			if e := stat.Check(api.Dir{Mode: head + p}); e != api.OK {
				t.Errorf("Check with the Mode %d is %d", head+p, e)
			}
		}
		for bit := 512; bit > 0; bit *= 2 {
			if bit == auth || bit == excl || bit == app || bit == dir {
				continue
			}
			for _, p := range []int{0, 1, 420, 511} {
				if e := stat.Check(api.Dir{Mode: head + bit + p}); e != api.ErrNumber {
					t.Errorf("Check with the Mode %d is %d", head+bit+p, e)
				}
			}
		}
	}
}

// TestCheckNames checks the ErrName of P7.1 in each text.
func TestCheckNames(t *testing.T) {
	for _, d := range bases() {
		for _, name := range []string{"a/b", "//", "/a", "a/", ".", "..", " ", "a b", "é", "a\x00", "\x7f", strings.Repeat("a", 65), strings.Repeat("/", 64), strings.Repeat("a", 1<<20)} {
			d.Name = name
			if e := stat.Check(d); e != api.ErrName {
				t.Errorf("Check with the Name %.80q is %d", name, e)
			}
		}
	}
	for _, d := range bases() {
		for _, f := range textFields {
			for _, n := range []int{65, 66, 256, 320, 65536, 65600, 1 << 20} {
				if e := stat.Check(f.with(d, strings.Repeat("a", n))); e != api.ErrName {
					t.Errorf("Check with %s of %d bytes is %d", f.name, n, e)
				}
			}
		}
	}
}

// TestCheckOrder checks that a number comes before a text in P7.1, wherever they are.
func TestCheckOrder(t *testing.T) {
	long := strings.Repeat("a", 65)
	for _, d := range bases() {
		for _, f := range fields {
			for _, g := range textFields {
				if e := stat.Check(f.with(g.with(d, long), -2)); e != api.ErrNumber {
					t.Errorf("Check with %s -2 and a long %s is %d", f.name, g.name, e)
				}
			}
		}
	}
}

// TestCheckOfMany checks P7.1 against its clauses.
func TestCheckOfMany(t *testing.T) {
	count := map[api.Errno]int{}
	for _, d := range append(withNumbers(), withTexts()...) {
		e := stat.Check(d)
		if want := checkOfChapter(d); e != want {
			t.Fatalf("Check(%.200v) is %d, want %d", d, e, want)
		}
		count[e]++
	}
	for _, e := range []api.Errno{api.OK, api.ErrNumber, api.ErrName} {
		if count[e] < 1000 {
			t.Errorf("only %d descriptions lead to %d", count[e], e)
		}
	}
}

// TestPut checks the example of P7.2 byte by byte.
func TestPut(t *testing.T) {
	want := "\x3e\x00" + "\x01\x00" + "\x00\x00\x00\x00" + "\x80" + "\x02\x00\x00\x00" + "\x01\x00\x00\x00\x00\x00\x00\x00" + "\xed\x01\x00\x80" +
		"\x05\x00\x00\x00\x00\x00\x00\x00" + "\x06\x00\x00\x00\x00\x00\x00\x00" + "\x00\x00\x00\x00\x00\x00\x00\x00" +
		"\x01\x00/" + "\x03\x00adm" + "\x03\x00adm" + "\x00\x00"
	s, e := stat.Put(example())
	if s != want || e != api.OK || len(s) != 64 || s[:4] != "\x3e\x00\x01\x00" {
		t.Errorf("Put of the example is %q, %d", s, e)
	}
}

// TestPutOrder checks the order and the direction of the bytes of P7.2 with a description in which each byte is different.
func TestPutOrder(t *testing.T) {
	want := "\x43\x00" + "\x02\x01" + "\x06\x05\x04\x03" + "\x20" + "\x0a\x09\x08\x07" + "\x0f\x0e\x0d\x0c\x0b\x00\x00\x00" + "\xa4\x01\x00\x20" +
		"\x14\x13\x12\x11\x10\x00\x00\x00" + "\x19\x18\x17\x16\x15\x00\x00\x00" + "\x1f\x1e\x1d\x1c\x1b\x1a\x00\x00" +
		"\x04\x00name" + "\x05\x00owner" + "\x02\x00gr" + "\x01\x00m"
	if s, e := stat.Put(full()); s != want || e != api.OK {
		t.Errorf("Put is %q, %d", s, e)
	}
}

// TestPutKeep checks that P7.2 has the bytes 255 for Keep, and only in the place of the number that is Keep.
func TestPutKeep(t *testing.T) {
	at := 2
	for _, f := range fields {
		d := f.with(api.Dir{}, keep)
		want := []byte("\x37\x00" + strings.Repeat("\x00", 55))
		for i := range f.width {
			want[at+i] = 255
		}
		at += f.width
		if s, e := stat.Put(d); s != string(want) || e != api.OK {
			t.Errorf("Put with %s Keep is %q, %d", f.name, s, e)
		}
	}
	if at != 49 {
		t.Errorf("the numbers have %d bytes", at-2)
	}
}

// TestPutOfMany checks P7.2 against its clauses, the errors of Check included.
func TestPutOfMany(t *testing.T) {
	failed := 0
	for _, d := range append(withNumbers(), withTexts()...) {
		want, wantError := "", checkOfChapter(d)
		if wantError == api.OK {
			want = bytesOfChapter(d)
		} else {
			failed++
		}
		if s, e := stat.Put(d); s != want || e != wantError {
			t.Fatalf("Put(%.200v) is %q, %d, want %q, %d", d, s, e, want, wantError)
		}
	}
	if failed < 1000 {
		t.Errorf("only %d descriptions lead to an error", failed)
	}
}

// TestGet checks P7.3 for the descriptions of the tests.
func TestGet(t *testing.T) {
	for _, d := range bases() {
		s := bytesOfChapter(d)
		checkGet(t, s, 0, d, len(s), api.OK)
		checkGet(t, "xx"+s+"y", 2, d, len(s)+2, api.OK)
		checkGet(t, s+s, len(s), d, 2*len(s), api.OK)
	}
}

// TestGetArguments checks that the ErrArg of P7.3 comes first.
func TestGetArguments(t *testing.T) {
	for _, s := range []string{"", "x", "\x00\x00", bytesOfChapter(example()), bytesOfChapter(stat.None()) + "x"} {
		for _, at := range []int{math.MinInt, -64, -2, -1, len(s) + 1, len(s) + 2, math.MaxInt - 1, math.MaxInt} {
			checkGet(t, s, at, api.Dir{}, 0, api.ErrArg)
		}
	}
}

// TestGetShort checks the ErrShort of P7.3 in the count and behind it; it comes before every error of the bytes that are there.
func TestGetShort(t *testing.T) {
	checkGet(t, "x", 0, api.Dir{}, 0, api.ErrShort)
	for _, s := range []string{"", "\x00", "\xff", "\x01\x00", "\xff\xff", "\x38\x00" + strings.Repeat("\xfe", 55), "\x01\x01" + strings.Repeat("\x00", 256), "\xff\xff" + strings.Repeat("\x00", 65534)} {
		checkError(t, s, api.ErrShort)
		checkGet(t, s, len(s), api.Dir{}, 0, api.ErrShort)
	}
	for _, d := range bases() {
		s := bytesOfChapter(d)
		for n := range len(s) {
			checkError(t, s[:n], api.ErrShort)
		}
	}
}

// TestGetForm checks the ErrForm of P7.3: the bytes end within the numbers, within a text or between two, or there are more.
func TestGetForm(t *testing.T) {
	for n := range 55 {
		checkError(t, counted(strings.Repeat("\x00", n)), api.ErrForm)
		checkError(t, counted(strings.Repeat("\xff", n)), api.ErrForm)
	}
	for _, d := range bases() {
		body := bytesOfChapter(d)[2:]
		for n := range len(body) {
			checkError(t, counted(body[:n]), api.ErrForm)
		}
		for _, more := range []string{"\x00", "\x00\x00", "\x01\x00a", strings.Repeat("a", 65000), body} {
			checkError(t, counted(body+more), api.ErrForm)
		}
	}
}

// TestGetFormOfTexts checks the ErrForm of P7.3 for a text whose length leads beyond the bytes, also if bytes of another description follow there.
func TestGetFormOfTexts(t *testing.T) {
	numbers := numbersOfChapter(full())
	for _, texts := range []string{
		"\x01\x00\x00\x00\x00\x00\x00\x00", "\x07\x00\x00\x00\x00\x00\x00\x00", "\x00\x01\x00\x00\x00\x00\x00\x00", "\xff\xff\x00\x00\x00\x00\x00\x00",
		"\x00\x00\x01\x00\x00\x00\x00\x00", "\x00\x00\x00\x00\x01\x00\x00\x00", "\x00\x00\x00\x00\x00\x00\x01\x00", "\x00\x00\x00\x00\x00\x00\xff\xff",
		"\x01\x00a\x00\x00\x00\x00\x02\x00a", "\x01\x00a\x00\x00\x00\x00", "\x02\x00ab\x00\x00\x00\x00\x00", "\x00\x00\x00\x00\x00\x00\x00\x00\x00",
	} {
		checkError(t, counted(numbers+texts), api.ErrForm)
		checkGet(t, counted(numbers+texts)+strings.Repeat("a", 1<<17), 0, api.Dir{}, 0, api.ErrForm)
	}
}

// TestGetFormFirst checks that ErrForm comes before the errors of Check in P7.3, those of numbers that no int holds included.
func TestGetFormFirst(t *testing.T) {
	for _, numbers := range []string{strings.Repeat("\xfe", 47), strings.Repeat("\xff", 39) + strings.Repeat("\x80", 8), numbersOfChapter(api.Dir{Mode: 512}), numbersOfChapter(full())} {
		for _, texts := range []string{"", "\x00", "\x03\x00a/b", "\x03\x00a/b\x00\x00\x00\x00", "\x03\x00a/b\x00\x00\x00\x00\x00\x00x", "\x03\x00a/b\x00\x00\x00\x00\x01\x00"} {
			checkError(t, counted(numbers+texts), api.ErrForm)
		}
	}
}

// TestGetCheck checks that P7.3 reports the errors of Check, for every description whose bytes can be written although it is not valid.
func TestGetCheck(t *testing.T) {
	count := map[api.Errno]int{}
	for _, d := range append(withNumbers(), withTexts()...) {
		s := bytesOfChapter(d)
		if len(s) > 65537 {
			continue
		}
		read := numbersAsRead(d)
		if e := checkOfChapter(read); e != api.OK {
			count[e]++
			checkError(t, s, e)
		} else {
			checkGet(t, s, 0, read, len(s), api.OK)
		}
		if t.Failed() {
			return
		}
	}
	for _, e := range []api.Errno{api.ErrNumber, api.ErrName} {
		if count[e] < 1000 {
			t.Errorf("only %d texts lead to %d", count[e], e)
		}
	}
}

// numbersAsRead returns the description whose bytes are those of d: a number that does not fit into its width has lost its high bytes, and one whose bytes are all 255 is Keep. A number of 8 bytes above 2^63 - 1 is negative, which is out of range too.
func numbersAsRead(d api.Dir) api.Dir {
	for _, f := range fields {
		n := *f.of(&d)
		if f.width < 8 {
			n &= 1<<(8*f.width) - 1
			if n == 1<<(8*f.width)-1 {
				n = keep
			}
		}
		d = f.with(d, n)
	}
	return d
}

// TestGetLarge checks the ErrNumber of P7.3 for numbers of 8 bytes that are above 2^63 - 1 or close to it; only if all bytes are 255 it is Keep.
func TestGetLarge(t *testing.T) {
	at := 2
	for _, f := range fields {
		if f.width == 8 {
			for _, d := range bases() {
				s := bytesOfChapter(d)
				for _, large := range []string{"\x00\x00\x00\x00\x00\x00\x00\x80", "\xff\xff\xff\xff\xff\xff\xff\x7f", "\xff\xff\xff\xff\xff\xff\xff\xfe", "\xfe\xff\xff\xff\xff\xff\xff\xff", "\xff\xff\xff\xff\x00\xff\xff\xff", "\x01\x00\x00\x00\x00\x00\x00\xff"} {
					checkError(t, s[:at]+large+s[at+8:], api.ErrNumber)
				}
				checkGet(t, s[:at]+strings.Repeat("\xff", 8)+s[at+8:], 0, f.with(d, keep), len(s), api.OK)
			}
		}
		at += f.width
	}
}

// TestGetNumberFirst checks that P7.3 has the order of Check for numbers and texts.
func TestGetNumberFirst(t *testing.T) {
	checkError(t, counted(strings.Repeat("\xff", 39)+strings.Repeat("\x80", 8)+"\x03\x00a/b\x00\x00\x00\x00\x00\x00"), api.ErrNumber)
	checkError(t, bytesOfChapter(api.Dir{Mode: 512, Name: "a/b"}), api.ErrNumber)
	checkError(t, bytesOfChapter(api.Dir{Mode: 511, Name: "a/b"}), api.ErrName)
	checkError(t, bytesOfChapter(api.Dir{Length: maxNum + 1, Muid: strings.Repeat("m", 65)}), api.ErrNumber)
}

// TestAll checks P7.4.
func TestAll(t *testing.T) {
	checkAll(t, "", nil, api.OK)
	for _, d := range bases() {
		checkAll(t, bytesOfChapter(d), []api.Dir{d}, api.OK)
	}
	checkAll(t, bytesOfChapter(full())+bytesOfChapter(example())+bytesOfChapter(full()), []api.Dir{full(), example(), full()}, api.OK)
}

// TestAllErrors checks that P7.4 reports the first error, wherever it is.
func TestAllErrors(t *testing.T) {
	errors := map[string]api.Errno{
		"\x00":                               api.ErrShort,
		"x":                                  api.ErrShort,
		"\x01\x00":                           api.ErrShort,
		"\xff\xffab":                         api.ErrShort,
		bytesOfChapter(full())[:60]:          api.ErrShort,
		"\x00\x00":                           api.ErrForm,
		"\x01\x00a":                          api.ErrForm,
		bytesOfChapter(api.Dir{Mode: 512}):   api.ErrNumber,
		bytesOfChapter(api.Dir{Name: "a/b"}): api.ErrName,
	}
	for s, e := range errors {
		checkAll(t, s, nil, e)
		for _, d := range bases() {
			checkAll(t, bytesOfChapter(d)+s, nil, e)
			checkAll(t, bytesOfChapter(d)+bytesOfChapter(full())+s, nil, e)
		}
		// Behind an error that is not at the end nothing counts.
		if e != api.ErrShort {
			for after := range errors {
				checkAll(t, bytesOfChapter(full())+s+bytesOfChapter(full())+after, nil, e)
			}
		}
	}
}

// TestNone checks the first half of P7.5, and that None is valid (P7.7).
func TestNone(t *testing.T) {
	want := api.Dir{Type: -1, Dev: -1, Qid: api.Qid{Type: -1, Vers: -1, Path: -1}, Mode: -1, Atime: -1, Mtime: -1, Length: -1}
	if d := stat.None(); d != want {
		t.Errorf("None is %v", d)
	}
	if e := stat.Check(stat.None()); e != api.OK {
		t.Errorf("Check of None is %d", e)
	}
	if s, e := stat.Put(stat.None()); s != "\x37\x00"+strings.Repeat("\xff", 47)+strings.Repeat("\x00", 8) || e != api.OK {
		t.Errorf("Put of None is %q, %d", s, e)
	}
	checkGet(t, "\x37\x00"+strings.Repeat("\xff", 47)+strings.Repeat("\x00", 8), 0, want, 57, api.OK)
}

// TestChanges checks the second half of P7.5: every field counts, and a number that is not valid is a change too.
func TestChanges(t *testing.T) {
	if stat.Changes(stat.None()) {
		t.Error("None changes something")
	}
	for _, d := range []api.Dir{{}, example(), full(), greatest()} {
		if !stat.Changes(d) {
			t.Errorf("%v changes nothing", d)
		}
	}
	for _, f := range fields {
		for _, n := range []int{0, 1, f.greatest(), -2, math.MinInt, math.MaxInt} {
			if !stat.Changes(f.with(stat.None(), n)) {
				t.Errorf("%s %d changes nothing", f.name, n)
			}
		}
	}
	for _, f := range textFields {
		for _, s := range []string{"a", "/", "\x00", "a/b", strings.Repeat("a", 65)} {
			if !stat.Changes(f.with(stat.None(), s)) {
				t.Errorf("%s %q changes nothing", f.name, s)
			}
		}
	}
}

// TestGetOfPut checks the first half of P7.6, whatever stands before and after the bytes.
func TestGetOfPut(t *testing.T) {
	for _, d := range valid(append(withNumbers(), withTexts()...)) {
		s, e := stat.Put(d)
		if e != api.OK {
			t.Fatalf("Put(%v) returns %d", d, e)
		}
		checkGet(t, s, 0, d, len(s), api.OK)
		checkGet(t, "\xff\xff"+s+"\x00", 2, d, len(s)+2, api.OK)
		if t.Failed() {
			return
		}
	}
}

// TestPutIsDifferent checks the second half of P7.6.
func TestPutIsDifferent(t *testing.T) {
	seen := map[string]api.Dir{}
	for _, d := range valid(append(withNumbers(), withTexts()...)) {
		s, _ := stat.Put(d)
		if other, ok := seen[s]; ok && other != d {
			t.Fatalf("%v and %v have the same bytes", other, d)
		}
		seen[s] = d
	}
	if len(seen) < 10000 {
		t.Errorf("only %d descriptions were compared", len(seen))
	}
}

// TestPutOfGet checks that what Get accepts is Put of its result, with every byte at each place of some descriptions.
func TestPutOfGet(t *testing.T) {
	accepted := 0
	for _, d := range bases() {
		s := bytesOfChapter(d)
		for at := range len(s) {
			for i := range 256 {
				changed := s[:at] + string([]byte{byte(i)}) + s[at+1:]
				d, next, e := stat.Get(changed, 0)
				if e != api.OK {
					continue
				}
				accepted++
				if again, f := stat.Put(d); again != changed[:next] || f != api.OK || next != len(s) {
					t.Fatalf("Get(%q, 0) is %v, %d, but Put returns %q, %d", changed, d, next, again, f)
				}
			}
		}
	}
	if accepted < 1000 {
		t.Errorf("only %d texts were accepted", accepted)
	}
}

// TestAllOfPut checks P7.7: for all descriptions of the tests at once, and for every list of up to three of a few.
func TestAllOfPut(t *testing.T) {
	lists := [][]api.Dir{valid(append(withNumbers(), withTexts()...))}
	for _, places := range sample.Bytes("\x00\x01\x02\x03\x04", 3) {
		var l []api.Dir
		for i := range len(places) {
			l = append(l, bases()[places[i]])
		}
		lists = append(lists, l)
	}
	for _, l := range lists {
		var all strings.Builder
		for _, d := range l {
			s, _ := stat.Put(d)
			all.WriteString(s)
		}
		checkAll(t, all.String(), l, api.OK)
	}
}
