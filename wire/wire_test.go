package wire_test

import (
	"math"
	"reflect"
	"slices"
	"strings"
	"testing"

	"filespace/api"
	"filespace/fault"
	"filespace/msg"
	"filespace/sample"
	"filespace/stat"
	"filespace/wire"
)

// The bytes of a TClunk with the tag 1 and the fid 7, and of an RFlush with the tag 513.
const (
	clunk = "\x0b\x00\x00\x00\x78\x01\x00\x07\x00\x00\x00"
	flush = "\x07\x00\x00\x00\x6d\x01\x02"
)

// written are messages of all kinds with their bytes, which were written by hand.
var written = []struct {
	m     api.Msg
	bytes string
}{
	{api.Msg{Kind: api.TVersion, Tag: api.NoTag, Msize: 0x44434241, Version: "fs2026"}, "\x13\x00\x00\x00\x64\xff\xffABCD\x06\x00fs2026"},
	{api.Msg{Kind: api.RVersion, Tag: api.NoTag, Msize: 8192, Version: "fs", Session: "s1.1"}, "\x15\x00\x00\x00\x65\xff\xff\x00\x20\x00\x00\x02\x00fs\x04\x00s1.1"},
	{api.Msg{Kind: api.TAuth, Tag: 1, AuthFid: 0x44434241, User: "ann", Attach: "d/"}, "\x14\x00\x00\x00\x66\x01\x00ABCD\x03\x00ann\x02\x00d/"},
	{api.Msg{Kind: api.RAuth, Tag: 1, Qid: api.Qid{Type: api.QAuth, Vers: 2, Path: 3}}, "\x14\x00\x00\x00\x67\x01\x00\x08\x02\x00\x00\x00\x03\x00\x00\x00\x00\x00\x00\x00"},
	{api.Msg{Kind: api.TAttach, Tag: 0x0201, Fid: 0x44434241, AuthFid: api.NoFid, User: "ann"}, "\x16\x00\x00\x00\x68\x01\x02ABCD\xff\xff\xff\xff\x03\x00ann\x00\x00"},
	{api.Msg{Kind: api.RAttach, Tag: 1, Qid: api.Qid{Type: api.QDir, Vers: 0x34333231, Path: 0x9594939291}}, "\x14\x00\x00\x00\x69\x01\x00\x801234\x91\x92\x93\x94\x95\x00\x00\x00"},
	{api.Msg{Kind: api.RError, Tag: 4, Err: api.ErrFid}, "\x14\x00\x00\x00\x6b\x04\x00\x0b\x00unknown fid"},
	{api.Msg{Kind: api.TFlush, Tag: 2, OldTag: 0x4241}, "\x09\x00\x00\x00\x6c\x02\x00AB"},
	{api.Msg{Kind: api.RFlush, Tag: 513}, flush},
	{api.Msg{Kind: api.TWalk, Tag: 2, Fid: 0x44434241, NewFid: 0x48474645, Names: []string{"a", "..", "bcd"}}, "\x1d\x00\x00\x00\x6e\x02\x00ABCDEFGH\x03\x00\x01\x00a\x02\x00..\x03\x00bcd"},
	{api.Msg{Kind: api.TWalk, Tag: 2, Fid: 1, NewFid: 2}, "\x11\x00\x00\x00\x6e\x02\x00\x01\x00\x00\x00\x02\x00\x00\x00\x00\x00"},
	{api.Msg{Kind: api.RWalk, Tag: 2, Qids: []api.Qid{{Type: 128, Vers: 1, Path: 2}, {Vers: 3, Path: 4}}}, "\x23\x00\x00\x00\x6f\x02\x00\x02\x00\x80\x01\x00\x00\x00\x02\x00\x00\x00\x00\x00\x00\x00\x00\x03\x00\x00\x00\x04\x00\x00\x00\x00\x00\x00\x00"},
	{api.Msg{Kind: api.RWalk, Tag: 2}, "\x09\x00\x00\x00\x6f\x02\x00\x00\x00"},
	{api.Msg{Kind: api.TOpen, Tag: 3, Fid: 0x44434241, Mode: 81}, "\x0c\x00\x00\x00\x70\x03\x00ABCD\x51"},
	{api.Msg{Kind: api.ROpen, Tag: 3, Qid: api.Qid{Vers: 5, Path: 6}, Iounit: 0x1251}, "\x18\x00\x00\x00\x71\x03\x00\x00\x05\x00\x00\x00\x06\x00\x00\x00\x00\x00\x00\x00\x51\x12\x00\x00"},
	{api.Msg{Kind: api.TCreate, Tag: 3, Fid: 0x44434241, Name: "new", Perm: 0x58575655, Mode: 2}, "\x15\x00\x00\x00\x72\x03\x00ABCD\x03\x00newUVWX\x02"},
	{api.Msg{Kind: api.RCreate, Tag: 3, Qid: api.Qid{Type: 64, Vers: 5, Path: 6}, Iounit: 8}, "\x18\x00\x00\x00\x73\x03\x00\x40\x05\x00\x00\x00\x06\x00\x00\x00\x00\x00\x00\x00\x08\x00\x00\x00"},
	{api.Msg{Kind: api.TRead, Tag: 3, Fid: 0x44434241, Offset: 0x17868584838281, Count: 0x1391}, "\x17\x00\x00\x00\x74\x03\x00ABCD\x81\x82\x83\x84\x85\x86\x17\x00\x91\x13\x00\x00"},
	{api.Msg{Kind: api.RRead, Tag: 3, Data: "hi"}, "\x0d\x00\x00\x00\x75\x03\x00\x02\x00\x00\x00hi"},
	{api.Msg{Kind: api.TWrite, Tag: 3, Fid: 0x44434241, Offset: 0x4241, Data: "\x00\xff"}, "\x19\x00\x00\x00\x76\x03\x00ABCDAB\x00\x00\x00\x00\x00\x00\x02\x00\x00\x00\x00\xff"},
	{api.Msg{Kind: api.RWrite, Tag: 3, Count: 0x1391}, "\x0b\x00\x00\x00\x77\x03\x00\x91\x13\x00\x00"},
	{api.Msg{Kind: api.TClunk, Tag: 1, Fid: 7}, clunk},
	{api.Msg{Kind: api.RClunk, Tag: 1}, "\x07\x00\x00\x00\x79\x01\x00"},
	{api.Msg{Kind: api.TRemove, Tag: 1, Fid: 7}, "\x0b\x00\x00\x00\x7a\x01\x00\x07\x00\x00\x00"},
	{api.Msg{Kind: api.RRemove, Tag: 65534}, "\x07\x00\x00\x00\x7b\xfe\xff"},
	{api.Msg{Kind: api.TStat, Tag: 1, Fid: 4294967294}, "\x0b\x00\x00\x00\x7c\x01\x00\xfe\xff\xff\xff"},
	{api.Msg{Kind: api.RStat, Tag: 1, Stat: stat.None()}, "\x42\x00\x00\x00\x7d\x01\x00\x39\x00\x37\x00" + strings.Repeat("\xff", 47) + strings.Repeat("\x00", 8)},
	{api.Msg{Kind: api.TWstat, Tag: 1, Fid: 0x44434241, Stat: api.Dir{Name: "n"}}, "\x47\x00\x00\x00\x7e\x01\x00ABCD\x3a\x00\x38\x00" + strings.Repeat("\x00", 47) + "\x01\x00n\x00\x00\x00\x00\x00\x00"},
	{api.Msg{Kind: api.RWstat, Tag: 0}, "\x07\x00\x00\x00\x7f\x00\x00"},
	{api.Msg{Kind: api.TLease, Tag: 1, Fid: 0x44434241, Lease: 2, Term: 0x0ba2a1}, "\x10\x00\x00\x00\x80\x01\x00ABCD\x02\xa1\xa2\x0b\x00"},
	{api.Msg{Kind: api.RLease, Tag: 1, Qid: api.Qid{Vers: 5, Path: 6}, Lease: 1, Term: 16}, "\x19\x00\x00\x00\x81\x01\x00\x00\x05\x00\x00\x00\x06\x00\x00\x00\x00\x00\x00\x00\x01\x10\x00\x00\x00"},
	{api.Msg{Kind: api.TResume, Tag: 1, Session: "s1.1"}, "\x0d\x00\x00\x00\x82\x01\x00\x04\x00s1.1"},
	{api.Msg{Kind: api.RResume, Tag: 1}, "\x07\x00\x00\x00\x83\x01\x00"},
}

// checkPut reports results of Put and Size that are not the wanted ones.
func checkPut(t *testing.T, m api.Msg, want string, wantError api.Errno) {
	t.Helper()
	if s, e := wire.Put(m); s != want || e != wantError {
		t.Errorf("Put(%s) is %.100q, %d, want %.100q, %d", show(m), s, e, want, wantError)
	}
	if n := wire.Size(m); n != len(want) {
		t.Errorf("Size(%s) is %d, want %d", show(m), n, len(want))
	}
}

// checkGet reports a result of Get that is not the wanted one.
func checkGet(t *testing.T, s string, at int, want outcome) {
	t.Helper()
	m, next, e := wire.Get(s, at)
	if got := (outcome{m, next, e}); !got.same(want) {
		t.Errorf("Get(%.100q, %d) is %s, want %s", s, at, show(got), show(want))
	}
}

// checkError reports a result of Get at the offset 0 that is not the wanted error. The bytes that may follow change nothing.
func checkError(t *testing.T, s string, want api.Errno) {
	t.Helper()
	checkGet(t, s, 0, outcome{e: want})
	if want != api.ErrShort {
		checkGet(t, s+strings.Repeat("\x00", 100), 0, outcome{e: want})
		checkGet(t, s+strings.Repeat(clunk, 10), 0, outcome{e: want})
	}
}

// checkSplit reports a result of Split that is not the wanted one.
func checkSplit(t *testing.T, s string, msize int, want []api.Msg, wantRest string, wantError api.Errno) {
	t.Helper()
	l, rest, e := wire.Split(s, msize)
	if !isEqual(l, want) || rest != wantRest || e != wantError {
		t.Errorf("Split(%.100q, %d) is %s, %.100q, %d, want %s, %.100q, %d", s, msize, show(l), rest, e, show(want), wantRest, wantError)
	}
}

// TestPut checks P9.1 and P9.2 byte by byte for every kind.
func TestPut(t *testing.T) {
	seen := map[int]bool{}
	for _, x := range written {
		checkPut(t, x.m, x.bytes, api.OK)
		seen[x.m.Kind] = true
	}
	if len(seen) != 31 {
		t.Errorf("there are messages of %d kinds", len(seen))
	}
	if n := wire.Size(api.Msg{Kind: api.TClunk, Tag: 1, Fid: 7}); n != 11 {
		t.Errorf("the size of TClunk is %d", n)
	}
}

// TestPutOfMany checks P9.1 and P9.2 against the chapter's table, with both ends of the values of every field.
func TestPutOfMany(t *testing.T) {
	for _, m := range rightMessages() {
		checkPut(t, m, bytesOf(m), api.OK)
		if t.Failed() {
			return
		}
	}
}

// TestPutErr checks that P9.2 has the text of each error, and not its number.
func TestPutErr(t *testing.T) {
	for e := api.ErrArg; e <= api.ErrStatus; e++ {
		text := fault.Text(e)
		checkPut(t, api.Msg{Kind: api.RError, Tag: 1, Err: e}, string([]byte{byte(9 + len(text)), 0, 0, 0, 107, 1, 0, byte(len(text)), 0})+text, api.OK)
	}
}

// TestPutLongest checks that the longest messages that are valid have an encoding (P9.2), and that one more byte is the error of Check.
func TestPutLongest(t *testing.T) {
	for _, m := range []api.Msg{{Kind: api.TWrite, Tag: 1, Fid: 4294967294, Offset: maxNum}, {Kind: api.RRead, Tag: 1}} {
		m.Data = strings.Repeat("\xff", 8168)
		s, e := wire.Put(m)
		if e != api.OK || s != bytesOf(m) || len(s) > api.MaxMsize {
			t.Errorf("Put of %d bytes returns %d bytes, %d", len(m.Data), len(s), e)
		}
		checkGet(t, s, 0, outcome{m, len(s), api.OK})
		m.Data += "x"
		checkPut(t, m, "", api.ErrLong)
	}
}

// TestPutErrors checks that P9.1 has 0 and P9.2 the error of Check for messages that are not valid, whether their fields have bytes or not.
func TestPutErrors(t *testing.T) {
	count := map[api.Errno]int{}
	for _, m := range append(wrongMessages(), withoutBytes()...) {
		checkPut(t, m, "", msg.Check(m))
		count[msg.Check(m)]++
		if t.Failed() {
			return
		}
	}
	for _, e := range []api.Errno{api.ErrForm, api.ErrNumber, api.ErrLong, api.ErrName} {
		if count[e] < 20 {
			t.Errorf("only %d messages lead to %d", count[e], e)
		}
	}
}

// TestGet checks P9.3 byte by byte for every kind.
func TestGet(t *testing.T) {
	for _, x := range written {
		checkGet(t, x.bytes, 0, outcome{x.m, len(x.bytes), api.OK})
	}
}

// TestGetArguments checks that the ErrArg of P9.3 comes first, whatever the bytes are.
func TestGetArguments(t *testing.T) {
	for _, s := range []string{"", "x", "\x00\x00\x00\x00", "\xff\xff\xff\xff\xff", clunk, clunk[:10], clunk + flush} {
		for _, at := range []int{math.MinInt, -65536, -4, -1, len(s) + 1, len(s) + 2, len(s) + 11, 1 << 32, math.MaxInt - 3, math.MaxInt} {
			checkGet(t, s, at, outcome{e: api.ErrArg})
		}
	}
}

// TestGetNoSize checks the ErrShort of P9.3 for a size that is cut off, whatever its bytes are.
func TestGetNoSize(t *testing.T) {
	for _, s := range sample.Bytes("\x00\x0b\xff", 3) {
		checkError(t, s, api.ErrShort)
		checkGet(t, clunk+s, 11, outcome{e: api.ErrShort})
	}
}

// TestGetSize checks the ErrLong and the ErrForm of P9.3 for sizes that no message has. They come before the ErrShort for bytes that are missing.
func TestGetSize(t *testing.T) {
	for _, size := range []int{8193, 8194, 8448, 65536, 65543, 1<<24 + 11, 1<<31 - 1, 1 << 31, 1<<31 + 11, 1<<32 - 1} {
		checkError(t, little(size, 4), api.ErrLong)
		checkError(t, little(size, 4)+clunk[4:], api.ErrLong)
		checkError(t, little(size, 4)+strings.Repeat("\x00", 70000), api.ErrLong)
	}
	for size := range 7 {
		checkError(t, little(size, 4), api.ErrForm)
		checkError(t, little(size, 4)+clunk[4:], api.ErrForm)
		checkError(t, little(size, 4)+flush[4:6], api.ErrForm)
	}
}

// TestGetShort checks the ErrShort of P9.3 for messages that are cut off at each place. It comes before every error of the bytes that are there.
func TestGetShort(t *testing.T) {
	for _, m := range bases() {
		s := bytesOf(m)
		for n := range len(s) {
			checkError(t, s[:n], api.ErrShort)
			checkGet(t, clunk+s[:n], len(clunk), outcome{e: api.ErrShort})
		}
	}
	for _, size := range []int{7, 8, 11, 255, 256, 8191, 8192} {
		checkError(t, little(size, 4), api.ErrShort)
		checkError(t, little(size, 4)+strings.Repeat("\x00", size-5), api.ErrShort)
		checkError(t, little(size, 4)+strings.Repeat("\xff", size-5), api.ErrShort)
		checkError(t, little(size, 4)+strings.Repeat("\xff", size-4), api.ErrForm)
	}
}

// TestGetKind checks the ErrForm of P9.3 for every byte that is no kind, with fields and without.
func TestGetKind(t *testing.T) {
	for n := range 256 {
		k, ok := kindOf(n)
		for _, fields := range []string{"", "\x07\x00\x00\x00", "\x00\x00", strings.Repeat("\x00", 13), strings.Repeat("x", 8185)} {
			if !ok {
				checkError(t, withSize(string([]byte{byte(n), 1, 0})+fields), api.ErrForm)
			}
		}
		if ok && k.fields != "" {
			checkError(t, withSize(string([]byte{byte(n), 1, 0})), api.ErrForm)
		}
		if ok && k.fields == "" {
			checkGet(t, withSize(string([]byte{byte(n), 1, 0})), 0, outcome{api.Msg{Kind: n, Tag: 1}, 7, api.OK})
		}
	}
}

// TestGetEnds checks the ErrForm of P9.3 for fields that end after the message, although the bytes that they lack may follow.
func TestGetEnds(t *testing.T) {
	for _, m := range bases() {
		body := bytesOf(m)[4:]
		for n := 3; n < len(body); n++ {
			checkError(t, withSize(body[:n]), api.ErrForm)
			checkGet(t, withSize(body[:n])+body[n:], 0, outcome{e: api.ErrForm})
		}
	}
}

// TestGetRemains checks the ErrForm of P9.3 for bytes that remain after the last field.
func TestGetRemains(t *testing.T) {
	for _, m := range bases() {
		body := bytesOf(m)[4:]
		for _, more := range []string{"\x00", "\xff", "\x00\x00", "\x00\x00\x00\x00", strings.Repeat("a", 7000), body, clunk} {
			checkError(t, withSize(body+more), api.ErrForm)
		}
	}
	checkError(t, "\x0a\x00\x00\x00\x6c\x02\x00\x01\x00\x00", api.ErrForm)
	checkError(t, "\x06\x00\x00\x00\x6d\x01", api.ErrForm)
}

// TestGetCounts checks the ErrForm of P9.3 for counts of names, of qids and of data that are greater than what follows.
func TestGetCounts(t *testing.T) {
	for _, count := range []string{"\x01\x00", "\x02\x00", "\x10\x00", "\x11\x00", "\x00\x01", "\xff\xff"} {
		checkError(t, withSize("\x6e\x02\x00\x01\x00\x00\x00\x02\x00\x00\x00"+count), api.ErrForm)
		checkError(t, withSize("\x6f\x02\x00"+count), api.ErrForm)
		checkError(t, withSize("\x6f\x02\x00"+count+strings.Repeat("\x00", 12)), api.ErrForm)
	}
	for _, count := range []string{"\x03\x00\x00\x00", "\x00\x01\x00\x00", "\xff\xff\x00\x00", "\x02\x00\x00\x80", "\xff\xff\xff\xff"} {
		checkError(t, withSize("\x75\x03\x00"+count+"hi"), api.ErrForm)
		checkError(t, withSize("\x76\x03\x00\x01\x00\x00\x00"+strings.Repeat("\x00", 8)+count+"hi"), api.ErrForm)
	}
}

// TestGetLarge checks that a number of 8 bytes above 2^63 - 1 is the ErrForm of P9.3, and a smaller one that is too large the ErrNumber of Check.
func TestGetLarge(t *testing.T) {
	qid := "\x80\x01\x00\x00\x00"
	for _, s := range []struct{ before, after string }{
		{"\x74\x03\x00\x01\x00\x00\x00", "\x01\x00\x00\x00"},
		{"\x76\x03\x00\x01\x00\x00\x00", "\x02\x00\x00\x00hi"},
		{"\x69\x03\x00" + qid, ""},
		{"\x71\x03\x00" + qid, "\x01\x00\x00\x00"},
		{"\x81\x03\x00" + qid, "\x01\x10\x00\x00\x00"},
		{"\x6f\x03\x00\x02\x00" + qid + strings.Repeat("\x00", 8) + qid, ""},
	} {
		for _, n := range []string{"\x00\x00\x00\x00\x00\x00\x00\x80", "\xff\xff\xff\xff\xff\xff\xff\xff", "\x01\x00\x00\x00\x00\x00\x00\xff"} {
			checkError(t, withSize(s.before+n+s.after), api.ErrForm)
		}
		for _, n := range []string{"\xff\xff\xff\xff\xff\xff\xff\x7f", "\x00\x00\x00\x00\x00\x00\x20\x00", "\x00\x00\x00\x00\x00\x00\x00\x40"} {
			checkError(t, withSize(s.before+n+s.after), api.ErrNumber)
			checkError(t, withSize(s.before+n+s.after+"x"), api.ErrForm)
		}
		if m, next, e := wire.Get(withSize(s.before+"\x00\x00\x00\x00\x00\x01\x00\x00"+s.after), 0); e != api.OK {
			t.Errorf("Get of 2^40 is %s, %d, %d", show(m), next, e)
		}
	}
}

// TestGetErr checks the ErrForm of P9.3 for a text that no error has.
func TestGetErr(t *testing.T) {
	for e := api.ErrArg; e <= api.ErrStatus; e++ {
		text := fault.Text(e)
		s := withSize("\x6b\x01\x00" + counted(text))
		checkGet(t, s, 0, outcome{api.Msg{Kind: api.RError, Tag: 1, Err: e}, len(s), api.OK})
		for _, other := range []string{text + " ", text + "x", text[1:], text[:len(text)-1], strings.ToUpper(text), "/a: " + text} {
			checkError(t, withSize("\x6b\x01\x00"+counted(other)), api.ErrForm)
		}
	}
	for _, text := range []string{"", "x", "OK", "13", strings.Repeat("x", 8000)} {
		checkError(t, withSize("\x6b\x01\x00"+counted(text)), api.ErrForm)
	}
}

// TestGetStat checks the ErrForm of P9.3 for a description that stat.Get rejects, and for a length that is not that of the description.
func TestGetStat(t *testing.T) {
	for _, head := range []string{"\x7d\x01\x00", "\x7e\x01\x00\x01\x00\x00\x00"} {
		for _, d := range goodDirs {
			s, _ := stat.Put(d)
			if m, _, e := wire.Get(withSize(head+counted(s)), 0); m.Stat != d || e != api.OK {
				t.Errorf("Get of a description is %s, %d", show(m), e)
			}
			for _, length := range []int{0, 1, 2, len(s) - 2, len(s) - 1, len(s) + 1, len(s) + 2, 2 * len(s), 65535} {
				checkError(t, withSize(head+little(length, 2)+s), api.ErrForm)
				checkError(t, withSize(head+little(length, 2)+s+s), api.ErrForm)
				checkError(t, withSize(head+little(length, 2)+s+"\x00"), api.ErrForm)
			}
			for _, body := range []string{"", "\x00", s[2:], s[:len(s)-1], s + "\x00", "\x00\x00", "\x01\x00x", little(len(s)-1, 2) + s[2:], little(len(s)-3, 2) + s[2:len(s)-1]} {
				checkError(t, withSize(head+counted(body)), api.ErrForm)
			}
			// The bytes of a number that is none of the field's, and of a name that is none.
			checkError(t, withSize(head+counted(s[:8]+"\x01"+s[9:])), api.ErrForm)
			checkError(t, withSize(head+counted(s[:22]+"\x02"+s[23:24]+"\x7f"+s[25:])), api.ErrForm)
			checkError(t, withSize(head+counted("\x3a\x00"+strings.Repeat("\x00", 47)+"\x01\x00 \x00\x00\x00\x00\x00\x00")), api.ErrForm)
		}
	}
}

// TestGetCheck checks that P9.3 has the error of Check for messages that are not valid but have bytes, and that ErrForm comes before it.
func TestGetCheck(t *testing.T) {
	count := map[api.Errno]int{}
	for _, m := range wrongMessages() {
		s := bytesOf(m)
		if len(s) > api.MaxMsize {
			checkError(t, s, api.ErrLong)
			continue
		}
		checkError(t, s, msg.Check(m))
		count[msg.Check(m)]++
		if len(s) < api.MaxMsize {
			checkError(t, withSize(s[4:]+"\x00"), api.ErrForm)
		}
		if t.Failed() {
			return
		}
	}
	for _, e := range []api.Errno{api.ErrNumber, api.ErrLong, api.ErrName} {
		if count[e] < 20 {
			t.Errorf("only %d messages lead to %d", count[e], e)
		}
	}
}

// TestGetOfPut checks the first half of the first sentence of P9.5: whatever stands before and after the bytes, Get returns the message and the offset after them.
func TestGetOfPut(t *testing.T) {
	for _, m := range rightMessages() {
		s, e := wire.Put(m)
		if e != api.OK {
			t.Fatalf("Put(%s) returns %d", show(m), e)
		}
		checkGet(t, s, 0, outcome{m, len(s), api.OK})
		for _, around := range []string{"\x00", "\xff\xff\xff\xff", clunk, clunk[:9], strings.Repeat("\x07\x00", 5000)} {
			checkGet(t, around+s+around, len(around), outcome{m, len(around) + len(s), api.OK})
		}
		if t.Failed() {
			return
		}
	}
}

// TestPutOfGet checks P9.3 against its clauses, with every byte at each place of a message of every kind; and that what Get accepts is Put of its result (P9.5).
func TestPutOfGet(t *testing.T) {
	count := map[api.Errno]int{}
	for _, m := range bases() {
		s := bytesOf(m)
		for at := range len(s) {
			for n := range 256 {
				changed := s[:at] + string([]byte{byte(n)}) + s[at+1:]
				want := getOf(changed, 0)
				checkGet(t, changed, 0, want)
				count[want.e]++
				if want.e == api.OK {
					checkPut(t, want.m, changed[:want.next], api.OK)
				}
				if t.Failed() {
					return
				}
			}
		}
	}
	for _, e := range []api.Errno{api.OK, api.ErrForm, api.ErrShort, api.ErrLong, api.ErrNumber, api.ErrName} {
		if count[e] < 100 {
			t.Errorf("only %d texts lead to %d", count[e], e)
		}
	}
}

// TestGetOfAny checks P9.3 against its clauses for all short sequences of a few bytes after the size and the kind.
func TestGetOfAny(t *testing.T) {
	accepted := 0
	for _, k := range kinds {
		for _, rest := range sample.Bytes("\x00\x01\x02\xff", 6) {
			s := withSize(string([]byte{byte(k.number)}) + rest)
			want := getOf(s, 0)
			checkGet(t, s, 0, want)
			if want.e == api.OK {
				accepted++
				checkPut(t, want.m, s, api.OK)
			}
			if t.Failed() {
				return
			}
		}
	}
	if accepted < 300 {
		t.Errorf("only %d texts were accepted", accepted)
	}
}

// TestSplit checks the examples of P9.4.
func TestSplit(t *testing.T) {
	m := api.Msg{Kind: api.TClunk, Tag: 1, Fid: 7}
	checkSplit(t, clunk+clunk+clunk[:3], 0, []api.Msg{m, m}, clunk[:3], api.OK)
	checkSplit(t, "\x01\x01\x00\x00", 256, nil, "", api.ErrMsize)
	checkSplit(t, "\x00\x01\x00\x00", 256, nil, "\x00\x01\x00\x00", api.OK)
	checkSplit(t, "", 0, nil, "", api.OK)
	checkSplit(t, clunk+flush, 8192, []api.Msg{m, {Kind: api.RFlush, Tag: 513}}, "", api.OK)
}

// TestSplitLimit checks the limit of P9.4 on both sides, with messages that are whole and others that are cut off.
func TestSplitLimit(t *testing.T) {
	for _, size := range []int{7, 8, 11, 256, 257, 4096, 8191, 8192} {
		for msize, limit := range map[int]int{0: 8192, size: size, size - 1: size - 1, size + 1: size + 1, 8192: 8192, 8193: 8192, 65536: 8192, math.MaxInt: 8192, 6: 6, 1: 1, -1: -1, -8192: -8192, math.MinInt: math.MinInt} {
			want, wantRest := api.OK, little(size, 4)
			if size > limit {
				want, wantRest = api.ErrMsize, ""
			}
			checkSplit(t, little(size, 4), msize, nil, wantRest, want)
			checkSplit(t, "\x01\x00\x00", msize, nil, "\x01\x00\x00", api.OK)
		}
	}
	for _, msize := range []int{0, 256, 8192, 8193, math.MaxInt} {
		for _, size := range []int{0, 1, 6, 8193, 8194, 65536, 1<<31 + 11, 1<<32 - 1} {
			checkSplit(t, little(size, 4), msize, nil, "", api.ErrMsize)
			checkSplit(t, little(size, 4)+strings.Repeat("\x00", 9000), msize, nil, "", api.ErrMsize)
		}
	}
}

// TestSplitLargest checks that P9.4 takes a message whose size is the limit, and no larger one.
func TestSplitLargest(t *testing.T) {
	for _, length := range []int{0, 1, 245, 246, 8168} {
		m := api.Msg{Kind: api.RRead, Tag: 1, Data: strings.Repeat("\x07", length)}
		s := bytesOf(m)
		for _, msize := range []int{len(s), len(s) + 1, 8192, 0} {
			checkSplit(t, s+s, msize, []api.Msg{m, m}, "", api.OK)
			checkSplit(t, s+s[:len(s)-1], msize, []api.Msg{m}, s[:len(s)-1], api.OK)
		}
		checkSplit(t, s, len(s)-1, nil, "", api.ErrMsize)
		checkSplit(t, flush+s[:4], len(s)-1, nil, "", api.ErrMsize)
	}
}

// TestSplitErrors checks that P9.4 has the error of Get for each message, without the messages before it and whatever follows.
func TestSplitErrors(t *testing.T) {
	for s, e := range map[string]api.Errno{
		"\x07\x00\x00\x00\x6a\x01\x00":                                  api.ErrForm,
		"\x07\x00\x00\x00\x78\x01\x00":                                  api.ErrForm,
		"\x0a\x00\x00\x00\x6c\x02\x00\x01\x00\x00":                      api.ErrForm,
		"\x07\x00\x00\x00\x6d\xff\xff":                                  api.ErrNumber,
		"\x0b\x00\x00\x00\x78\x01\x00\xff\xff\xff\xff":                  api.ErrNumber,
		withSize("\x82\x01\x00" + counted(strings.Repeat("s", 65))):     api.ErrLong,
		withSize("\x6e\x02\x00" + little(1, 8) + "\x01\x00\x03\x00a/b"): api.ErrName,
		"\x06\x00\x00\x00":                                              api.ErrMsize,
		"\x01\x20\x00\x00":                                              api.ErrMsize,
	} {
		for _, before := range []string{"", clunk, clunk + flush + clunk} {
			for _, after := range []string{"", "\x00", clunk, clunk[:9], "\xff\xff\xff\xff", "\x06\x00\x00\x00"} {
				checkSplit(t, before+s+after, 0, nil, "", e)
			}
		}
	}
}

// streams returns sequences of bytes: messages, messages that are cut off, and others that are wrong, in all orders.
func streams() []string {
	attach := bytesOf(base(kind{104, "Fid AuthFid User Attach"}))
	return sample.Words([]string{clunk, flush, attach, clunk[:9], "\x07\x00\x00", "\x07\x00\x00\x00\x6a\x01\x00", "\x07\x00\x00\x00\x6d\xff\xff", "\x06\x00\x00\x00", "\x00"}, 4)
}

// TestSplitOfMany checks P9.4 against its clauses.
func TestSplitOfMany(t *testing.T) {
	count := map[api.Errno]int{}
	for _, s := range streams() {
		for _, msize := range []int{-1, 0, 6, 7, 10, 11, 256, 8192, 8193} {
			l, rest, e := splitOf(s, msize)
			checkSplit(t, s, msize, l, rest, e)
			count[e]++
			if t.Failed() {
				return
			}
		}
	}
	for _, e := range []api.Errno{api.OK, api.ErrMsize, api.ErrForm, api.ErrNumber} {
		if count[e] < 1000 {
			t.Errorf("only %d texts lead to %d", count[e], e)
		}
	}
}

// TestSplitAll checks that P9.4 returns all messages of a long text, in order, and takes each size of a rest.
func TestSplitAll(t *testing.T) {
	right := rightMessages()
	var all strings.Builder
	for _, m := range right {
		all.WriteString(bytesOf(m))
	}
	checkSplit(t, all.String(), 0, right, "", api.OK)
	last := bytesOf(right[0])
	for n := range len(last) {
		checkSplit(t, all.String()+last[:n], 8192, right, last[:n], api.OK)
	}
}

// splitPieces passes pieces to Split one by one, each after the rest of those before, until one has an error.
func splitPieces(pieces []string, msize int) ([]api.Msg, string, api.Errno) {
	var all []api.Msg
	rest := ""
	for _, piece := range pieces {
		l, next, e := wire.Split(rest+piece, msize)
		if e != api.OK {
			return nil, "", e
		}
		all = append(all, l...)
		rest = next
	}
	return all, rest, api.OK
}

// TestPieces checks the second sentence of P9.5: wherever bytes are cut, the pieces yield what all of them yield at once, the error included.
func TestPieces(t *testing.T) {
	for _, s := range streams() {
		if len(s) > 40 {
			continue
		}
		want, wantRest, wantError := wire.Split(s, 0)
		check := func(pieces ...string) {
			if l, rest, e := splitPieces(pieces, 0); !isEqual(l, want) || rest != wantRest || e != wantError {
				t.Fatalf("the pieces %q yield %s, %q, %d, want %s, %q, %d", pieces, show(l), rest, e, show(want), wantRest, wantError)
			}
		}
		check(strings.Split(s, "")...)
		for i := range len(s) + 1 {
			check(s[:i], s[i:])
		}
		if len(s) < 25 {
			for i := range len(s) + 1 {
				for j := range i + 1 {
					check(s[:j], s[j:i], s[i:])
				}
			}
		}
	}
}

// TestPiecesOfMessages checks the second sentence of P9.5 for messages of all kinds that arrive in pieces of equal length.
func TestPiecesOfMessages(t *testing.T) {
	var all strings.Builder
	for _, m := range bases() {
		all.WriteString(bytesOf(m))
	}
	for _, length := range []int{1, 2, 3, 4, 5, 7, 16, 100, 1000} {
		var pieces []string
		for piece := range slices.Chunk([]byte(all.String()), length) {
			pieces = append(pieces, string(piece))
		}
		if l, rest, e := splitPieces(pieces, 256); !isEqual(l, bases()) || rest != "" || e != api.OK {
			t.Errorf("pieces of %d bytes yield %d messages, %q, %d", length, len(l), rest, e)
		}
	}
}

// TestZeros checks that Get returns nothing together with an error, and only zeros in the fields that a kind does not use.
func TestZeros(t *testing.T) {
	for _, s := range []string{"", clunk[:10], clunk[:4] + "\x6a" + clunk[5:], "\x07\x00\x00\x00\x6d\xff\xff", withSize("\x82\x01\x00" + counted(strings.Repeat("s", 65)))} {
		if m, next, e := wire.Get(s, 0); !reflect.DeepEqual(m, api.Msg{}) || next != 0 || e == api.OK {
			t.Errorf("Get(%q, 0) is %s, %d, %d", s, show(m), next, e)
		}
	}
	if m, _, _ := wire.Get(flush, 0); !reflect.DeepEqual(m, api.Msg{Kind: api.RFlush, Tag: 513}) {
		t.Errorf("Get of an RFlush is %s", show(m))
	}
}

// TestArgumentsAreKept checks that Put and Size change no list of a message, nor the spare capacity after it.
func TestArgumentsAreKept(t *testing.T) {
	for _, m := range bases() {
		names := append(make([]string, 0, 4), "b", "a", "spare")
		qids := append(make([]api.Qid, 0, 4), goodQids[2], goodQids[1], goodQids[3])
		if m.Kind == api.TWalk {
			m.Names = names[:2]
		}
		if m.Kind == api.RWalk {
			m.Qids = qids[:2]
		}
		if _, e := wire.Put(m); e != api.OK || wire.Size(m) == 0 {
			t.Errorf("Put(%s) returns %d", show(m), e)
		}
		if !slices.Equal(names[:4], []string{"b", "a", "spare", ""}) || !slices.Equal(qids[:4], []api.Qid{goodQids[2], goodQids[1], goodQids[3], {}}) {
			t.Fatalf("Put has changed %s", show(m))
		}
	}
}
