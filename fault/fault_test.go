package fault_test

import (
	"math"
	"strings"
	"testing"

	"filespace/api"
	"filespace/fault"
	"filespace/sample"
)

// errorOf is a row of the chapter's table.
type errorOf struct {
	code api.Errno
	text string
}

// table is the chapter's table. The number of each code is its index plus 1.
var table = []errorOf{
	{api.ErrArg, "invalid argument"},
	{api.ErrForm, "malformed data"},
	{api.ErrShort, "data too short"},
	{api.ErrLong, "data too long"},
	{api.ErrNumber, "number out of range"},
	{api.ErrName, "invalid name"},
	{api.ErrExist, "file already exists"},
	{api.ErrNotExist, "file does not exist"},
	{api.ErrNotDir, "not a directory"},
	{api.ErrIsDir, "file is a directory"},
	{api.ErrPerm, "permission denied"},
	{api.ErrMode, "invalid open mode"},
	{api.ErrFid, "unknown fid"},
	{api.ErrFidUsed, "fid in use"},
	{api.ErrOpen, "file is open"},
	{api.ErrNotOpen, "file is not open"},
	{api.ErrTag, "tag in use"},
	{api.ErrVersion, "no version negotiated"},
	{api.ErrMsize, "invalid message size"},
	{api.ErrOffset, "invalid offset"},
	{api.ErrQuota, "quota exceeded"},
	{api.ErrFull, "limit reached"},
	{api.ErrNotEmpty, "directory is not empty"},
	{api.ErrExcl, "exclusive use file is open"},
	{api.ErrUser, "unknown user"},
	{api.ErrGroup, "not a member of the group"},
	{api.ErrChange, "attributes cannot be changed"},
	{api.ErrAuth, "authentication failed"},
	{api.ErrNoAuth, "authentication is not required"},
	{api.ErrHangup, "connection is down"},
	{api.ErrSession, "session does not exist"},
	{api.ErrLease, "lease does not exist"},
	{api.ErrReadOnly, "file system is read only"},
	{api.ErrCorrupt, "block is corrupt"},
	{api.ErrScore, "no block with this score"},
	{api.ErrDial, "invalid dial string"},
	{api.ErrNet, "unknown network"},
	{api.ErrHost, "unknown host"},
	{api.ErrService, "unknown service"},
	{api.ErrRefused, "connection refused"},
	{api.ErrInUse, "address in use"},
	{api.ErrProc, "process does not exist"},
	{api.ErrState, "not possible in this state"},
	{api.ErrFd, "not an open file descriptor"},
	{api.ErrMount, "nothing is mounted there"},
	{api.ErrCreate, "creation is not permitted"},
	{api.ErrSyntax, "syntax error"},
	{api.ErrQuote, "missing quote"},
	{api.ErrRegex, "malformed regular expression"},
	{api.ErrRule, "malformed rule"},
	{api.ErrPort, "unknown port"},
	{api.ErrKey, "no key matches"},
	{api.ErrProto, "protocol is out of phase"},
	{api.ErrCtl, "unknown control request"},
	{api.ErrClosed, "other end is closed"},
	{api.ErrFlushed, "request was flushed"},
	{api.ErrSteps, "step limit reached"},
	{api.ErrCommand, "unknown command"},
	{api.ErrStatus, "command failed"},
}

// noErrors are numbers that are no error codes, among them codes with other numbers of the same low bits.
var noErrors = []api.Errno{
	api.OK, -1, -2, -11, -59, -60, 60, 61, 100, 255, 256, 256 + 11, 1<<16 + 11, 1<<32 + 11, 1 << 62, math.MinInt + 11, math.MinInt, math.MaxInt,
}

// places are texts that can stand in front of the text of an error, also such that look like its separator or contain one.
var places = []string{
	"a", "/a", "/a/b.c", "a b", " ", "  ", ":", "::", ": ", " :", " : ", ": : ", "::  ", "a:", "a: ", "a : ", "a: b", "a:b", "a: b: c", ": a",
	"unknown fid", "unknown fid: ", "a: unknown fid", "unknown fid: quota exceeded", "\x00", "\n", "\xff: \xff", "é", "：", strings.Repeat("x: ", 1000),
}

// codeOfChapter follows the definition of Code byte by byte.
func codeOfChapter(s string) (string, api.Errno, bool) {
	before, after := "", s
	for i := 0; i+1 < len(s); i++ {
		if s[i] == ':' && s[i+1] == ' ' {
			before, after = s[:i], s[i+2:]
		}
	}
	for _, x := range table {
		if x.text == after {
			return before, x.code, true
		}
	}
	return "", api.OK, false
}

func checkFind(t *testing.T, s string, want api.Errno, found bool) {
	t.Helper()
	if e, ok := fault.Find(s); e != want || ok != found {
		t.Errorf("Find(%.80q) is %d, %v, want %d, %v", s, e, ok, want, found)
	}
}

func checkAt(t *testing.T, what string, e api.Errno, want string) {
	t.Helper()
	if s := fault.At(what, e); s != want {
		t.Errorf("At(%.80q, %d) is %.80q, want %.80q", what, e, s, want)
	}
}

func checkCode(t *testing.T, s, what string, want api.Errno, found bool) {
	t.Helper()
	if w, e, ok := fault.Code(s); w != what || e != want || ok != found {
		t.Errorf("Code(%.80q) is %.80q, %d, %v, want %.80q, %d, %v", s, w, e, ok, what, want, found)
	}
}

// TestText checks P4.1 for every error code.
func TestText(t *testing.T) {
	for i, x := range table {
		if x.code != api.Errno(i+1) {
			t.Errorf("the row %d of the table has the code %d", i, x.code)
		}
		if s := fault.Text(x.code); s != x.text {
			t.Errorf("Text(%d) is %q, want %q", x.code, s, x.text)
		}
	}
	if last := table[len(table)-1].code; last != api.ErrStatus {
		t.Errorf("the table ends with the code %d", last)
	}
}

// TestTextOfOtherNumbers checks that OK and all other numbers have no text in P4.1.
func TestTextOfOtherNumbers(t *testing.T) {
	for _, e := range noErrors {
		if s := fault.Text(e); s != "" {
			t.Errorf("Text(%d) is %q", e, s)
		}
	}
	for e := api.Errno(-1000); e <= 1000; e++ {
		if s := fault.Text(e); (s != "") != (1 <= e && e <= 59) {
			t.Errorf("Text(%d) is %q", e, s)
		}
	}
}

// TestFind checks the error codes of P4.2.
func TestFind(t *testing.T) {
	for _, x := range table {
		checkFind(t, x.text, x.code, true)
	}
}

// TestFindNothing checks that P4.2 finds only the whole text of an error code, byte by byte.
func TestFindNothing(t *testing.T) {
	for _, s := range []string{
		"", " ", ":", ": ", "x", "OK", "ok", "no error", "11", "ErrPerm", "a: permission denied", ": permission denied", "permission denied: ", "permission  denied", "permission\tdenied", "permission\u00a0denied", "permission_denied", "\x00", "\xff", "lease", "file",
	} {
		checkFind(t, s, api.OK, false)
	}
	for _, x := range table {
		last := len(x.text) - 1
		for _, s := range []string{
			" " + x.text, x.text + " ", x.text + "\n", x.text + "\x00", "\x00" + x.text, x.text + ".", x.text + x.text, x.text[1:], x.text[:last], strings.ToUpper(x.text), strings.ToUpper(x.text[:1]) + x.text[1:], strings.ReplaceAll(x.text, " ", ""),
		} {
			checkFind(t, s, api.OK, false)
		}
	}
}

// TestAt checks P4.3 for errors with a text and a place.
func TestAt(t *testing.T) {
	checkAt(t, "/a", api.ErrNotExist, "/a: file does not exist")
	checkAt(t, "a: b", api.ErrQuota, "a: b: quota exceeded")
	checkAt(t, ":", api.ErrFid, ":: unknown fid")
	checkAt(t, ": ", api.ErrFid, ": : unknown fid")
	checkAt(t, " ", api.ErrFid, " : unknown fid")
	checkAt(t, "unknown fid", api.ErrFid, "unknown fid: unknown fid")
	for _, x := range table {
		for _, what := range places {
			checkAt(t, what, x.code, what+": "+x.text)
		}
	}
}

// TestAtWithoutAPlace checks the texts of P4.3 for an empty place.
func TestAtWithoutAPlace(t *testing.T) {
	for _, x := range table {
		checkAt(t, "", x.code, x.text)
	}
	for _, e := range noErrors {
		checkAt(t, "", e, "")
	}
}

// TestAtWithoutAText checks P4.3 for numbers that have no text.
func TestAtWithoutAText(t *testing.T) {
	for _, e := range noErrors {
		for _, what := range places {
			checkAt(t, what, e, what)
		}
	}
}

// TestCode checks the texts of P4.4 that end with the text of an error code.
func TestCode(t *testing.T) {
	for _, x := range []struct {
		s, what string
		e       api.Errno
	}{
		{"a: b: quota exceeded", "a: b", api.ErrQuota},
		{"unknown fid", "", api.ErrFid},
		{"/a: file does not exist", "/a", api.ErrNotExist},
		{": unknown fid", "", api.ErrFid},
		{": : unknown fid", ": ", api.ErrFid},
		{":: unknown fid", ":", api.ErrFid},
		{" : unknown fid", " ", api.ErrFid},
		{"a : unknown fid", "a ", api.ErrFid},
		{"a:b: unknown fid", "a:b", api.ErrFid},
		{"unknown fid: unknown user", "unknown fid", api.ErrUser},
		{"a: unknown fid: unknown fid", "a: unknown fid", api.ErrFid},
		{"\xff\x00: command failed", "\xff\x00", api.ErrStatus},
		{"a\n: invalid argument", "a\n", api.ErrArg},
	} {
		checkCode(t, x.s, x.what, x.e, true)
	}
}

// TestCodeOfOtherTexts checks the texts of P4.4 that do not end with the text of an error code.
func TestCodeOfOtherTexts(t *testing.T) {
	for _, s := range []string{
		"", "x", ":", " ", ": ", "a: ", "a:", ": a", "a: b", "unknown", "fid", "a:unknown fid", ":unknown fid", "a unknown fid", "a:  unknown fid", "a:\tunknown fid", "a: \tunknown fid", "a:\u00a0unknown fid", "a： unknown fid", "a; unknown fid", "a: unknown fid ", "a: unknown fid\n", "a: unknown fid:", "a: unknown fid: ", "unknown fid:", "unknown fid: ", "unknown fid: x", "quota exceeded: b", "unknown : fid", "unknown: fid", "a: Unknown fid", "a: unknown fids", "a: OK", "a: 13", "a: ErrFid", "\xff", "\xff: \xff",
	} {
		checkCode(t, s, "", api.OK, false)
	}
}

// TestCodeOfManyTexts checks P4.4 against the definition of the chapter.
func TestCodeOfManyTexts(t *testing.T) {
	found := 0
	for _, s := range sample.Words([]string{":", " ", ": ", "a", "unknown fid", "file is open", "file is not open", "\xff"}, 5) {
		what, e, ok := codeOfChapter(s)
		checkCode(t, s, what, e, ok)
		if ok {
			found++
		}
	}
	if found == 0 {
		t.Error("no text ended with the text of an error code")
	}
}

// TestTextsDiffer checks the first half of P4.5.
func TestTextsDiffer(t *testing.T) {
	seen := map[string]api.Errno{}
	for e := api.Errno(-1000); e <= 1000; e++ {
		s := fault.Text(e)
		if s == "" {
			continue
		}
		if strings.Contains(s, ":") {
			t.Errorf("Text(%d) is %q", e, s)
		}
		if other, ok := seen[s]; ok {
			t.Errorf("Text(%d) and Text(%d) are %q", other, e, s)
		}
		seen[s] = e
	}
	if len(seen) != 59 {
		t.Errorf("%d error codes have a text", len(seen))
	}
}

// TestCodeOfAt checks the second half of P4.5.
func TestCodeOfAt(t *testing.T) {
	for e := api.ErrArg; e <= api.ErrStatus; e++ {
		checkCode(t, fault.At("", e), "", e, true)
		for _, what := range places {
			checkCode(t, fault.At(what, e), what, e, true)
		}
	}
	for _, what := range sample.Words([]string{":", " ", "a", "unknown fid"}, 5) {
		checkCode(t, fault.At(what, api.ErrFid), what, api.ErrFid, true)
	}
}

// TestAtOfCode checks the inverse direction of P4.4: what Code divides is what At returned, unless the place in front of the separator is empty.
func TestAtOfCode(t *testing.T) {
	divided := 0
	for _, s := range sample.Words([]string{":", " ", ": ", "a", "unknown fid"}, 6) {
		what, e, ok := fault.Code(s)
		if !ok || strings.HasPrefix(s, ": ") && what == "" {
			continue
		}
		divided++
		checkAt(t, what, e, s)
	}
	if divided == 0 {
		t.Error("no text was divided")
	}
}
