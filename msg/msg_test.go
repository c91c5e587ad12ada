package msg_test

import (
	"fmt"
	"math"
	"reflect"
	"slices"
	"strings"
	"testing"

	"filespace/api"
	"filespace/msg"
	"filespace/stat"
)

// The limits and the tag of a version, as numbers.
const (
	noFid  = 4294967295
	maxFid = 4294967294
	noTag  = 65535
	maxTag = 65534
	word   = 4294967295
	maxNum = 9007199254740991
	maxId  = 1099511627776
)

// kind is a row of the chapter's table of kinds: its number, its name, and the fields that it uses.
type kind struct {
	number int
	name   string
	fields string
}

// kinds are the kinds that package api lists.
var kinds = []kind{
	{100, "TVersion", "Msize Version"},
	{101, "RVersion", "Msize Version Session"},
	{102, "TAuth", "AuthFid User Attach"},
	{103, "RAuth", "Qid"},
	{104, "TAttach", "Fid AuthFid User Attach"},
	{105, "RAttach", "Qid"},
	{107, "RError", "Err"},
	{108, "TFlush", "OldTag"},
	{109, "RFlush", ""},
	{110, "TWalk", "Fid NewFid Names"},
	{111, "RWalk", "Qids"},
	{112, "TOpen", "Fid Mode"},
	{113, "ROpen", "Qid Iounit"},
	{114, "TCreate", "Fid Name Perm Mode"},
	{115, "RCreate", "Qid Iounit"},
	{116, "TRead", "Fid Offset Count"},
	{117, "RRead", "Data"},
	{118, "TWrite", "Fid Offset Data"},
	{119, "RWrite", "Count"},
	{120, "TClunk", "Fid"},
	{121, "RClunk", ""},
	{122, "TRemove", "Fid"},
	{123, "RRemove", ""},
	{124, "TStat", "Fid"},
	{125, "RStat", "Stat"},
	{126, "TWstat", "Fid Stat"},
	{127, "RWstat", ""},
	{128, "TLease", "Fid Lease Term"},
	{129, "RLease", "Qid Lease Term"},
	{130, "TResume", "Session"},
	{131, "RResume", ""},
}

// requests are the kinds of requests, in the chapter's order.
var requests = []int{api.TVersion, api.TAuth, api.TAttach, api.TFlush, api.TWalk, api.TOpen, api.TCreate, api.TRead, api.TWrite, api.TClunk, api.TRemove, api.TStat, api.TWstat, api.TLease, api.TResume}

// replies are the kinds of their replies, in the same order.
var replies = []int{api.RVersion, api.RAuth, api.RAttach, api.RFlush, api.RWalk, api.ROpen, api.RCreate, api.RRead, api.RWrite, api.RClunk, api.RRemove, api.RStat, api.RWstat, api.RLease, api.RResume}

// someKinds are numbers of kinds, and others around and far from them.
func someKinds() []int {
	l := []int{math.MinInt, math.MinInt + 100, -1 << 32, 1<<32 + 100, 1<<32 + 110, 1 << 62, math.MaxInt - 1, math.MaxInt}
	for n := range 2000 {
		l = append(l, n-1000)
	}
	return l
}

// value is a value of a field: what it makes of a message, whether it is zero, and the error that it has where the field is used.
type value struct {
	set    func(m *api.Msg)
	isZero bool
	e      api.Errno
}

// field is a row of the chapter's table of fields, with values on both sides of its limits. The first value is zero, the second one is valid and not zero.
type field struct {
	name   string
	values []value
}

// fields are all fields of a message besides Kind and Tag.
var fields = []field{
	numberField("Fid", func(m *api.Msg) *int { return &m.Fid }, maxFid),
	numberField("NewFid", func(m *api.Msg) *int { return &m.NewFid }, maxFid),
	numberField("AuthFid", func(m *api.Msg) *int { return &m.AuthFid }, maxFid),
	numberField("OldTag", func(m *api.Msg) *int { return &m.OldTag }, maxTag),
	numberField("Msize", func(m *api.Msg) *int { return &m.Msize }, word),
	textField("Version", func(m *api.Msg) *string { return &m.Version }, 64),
	textField("User", func(m *api.Msg) *string { return &m.User }, 32),
	textField("Attach", func(m *api.Msg) *string { return &m.Attach }, 1024),
	{"Names", namesValues()},
	{"Qids", qidsValues()},
	{"Qid", qidValues()},
	numberField("Iounit", func(m *api.Msg) *int { return &m.Iounit }, 8192),
	numberField("Mode", func(m *api.Msg) *int { return &m.Mode }, 255),
	numberField("Perm", func(m *api.Msg) *int { return &m.Perm }, word),
	{"Name", nameValues()},
	numberField("Offset", func(m *api.Msg) *int { return &m.Offset }, maxNum),
	numberField("Count", func(m *api.Msg) *int { return &m.Count }, 8192),
	textField("Data", func(m *api.Msg) *string { return &m.Data }, 8168),
	{"Stat", statValues()},
	{"Err", errValues()},
	numberField("Lease", func(m *api.Msg) *int { return &m.Lease }, 2),
	numberField("Term", func(m *api.Msg) *int { return &m.Term }, 1048576),
	textField("Session", func(m *api.Msg) *string { return &m.Session }, 64),
}

// numberField returns the field whose valid values are the numbers from 0 to greatest.
func numberField(name string, of func(m *api.Msg) *int, greatest int) field {
	f := field{name: name}
	for _, n := range []int{0, 1, 2, greatest, -1, greatest + 1, math.MinInt, math.MaxInt} {
		v := value{set: func(m *api.Msg) { *of(m) = n }, isZero: n == 0}
		if n < 0 || n > greatest {
			v.e = api.ErrNumber
		}
		f.values = append(f.values, v)
	}
	return f
}

// textField returns the field whose valid values are the texts of at most most bytes.
func textField(name string, of func(m *api.Msg) *string, most int) field {
	f := field{name: name}
	for _, s := range []string{"", "fs2026", "a/b \x00\xff\n..", "/", strings.Repeat("x", most), strings.Repeat("\xff", most), strings.Repeat("x", most+1), strings.Repeat("\x00", 70000)} {
		v := value{set: func(m *api.Msg) { *of(m) = s }, isZero: s == ""}
		if len(s) > most {
			v.e = api.ErrLong
		}
		f.values = append(f.values, v)
	}
	return f
}

func namesValues() []value {
	var l []value
	add := func(e api.Errno, names ...string) {
		l = append(l, value{func(m *api.Msg) { m.Names = names }, len(names) == 0, e})
	}
	add(api.OK)
	add(api.OK, "a", "..", "b.c")
	add(api.OK, []string{}...)
	add(api.OK, "..")
	add(api.OK, slices.Repeat([]string{strings.Repeat("~", 64)}, 16)...)
	add(api.ErrName, "")
	add(api.ErrName, "a", "a/b")
	add(api.ErrName, append(slices.Repeat([]string{".."}, 15), ".")...)
	add(api.ErrName, strings.Repeat("a", 65))
	add(api.ErrLong, slices.Repeat([]string{"a"}, 17)...)
	add(api.ErrLong, make([]string, 17)...)
	return l
}

func nameValues() []value {
	var l []value
	for _, name := range []string{"", "a", "...", "!~", strings.Repeat("a", 64)} {
		l = append(l, value{set: func(m *api.Msg) { m.Name = name }})
	}
	l[0].isZero, l[0].e = true, api.ErrName
	for _, name := range []string{".", "..", "/", "a/b", "a b", "\x7f", "\x00", "é", strings.Repeat("a", 65)} {
		l = append(l, value{set: func(m *api.Msg) { m.Name = name }, e: api.ErrName})
	}
	return l
}

// goodQids are valid; all but the first one are not zero.
var goodQids = []api.Qid{{}, {Type: 128, Vers: 3, Path: 1}, {Type: 232, Vers: 2147483647, Path: maxId}, {Type: 8}, {Type: 32}, {Type: 64}, {Vers: 1}, {Path: 1}}

// badQids have a number each that is not valid; Keep is none of a qid's either.
var badQids = []api.Qid{{Type: 1}, {Type: 16}, {Type: -1}, {Type: 256}, {Type: 233}, {Type: math.MinInt}, {Vers: -1}, {Vers: 2147483648}, {Path: -1}, {Path: maxId + 1}, {Type: math.MaxInt, Vers: math.MaxInt, Path: math.MaxInt}}

func qidValues() []value {
	var l []value
	for _, q := range goodQids {
		l = append(l, value{func(m *api.Msg) { m.Qid = q }, q == api.Qid{}, api.OK})
	}
	for _, q := range badQids {
		l = append(l, value{func(m *api.Msg) { m.Qid = q }, false, api.ErrNumber})
	}
	return l
}

func qidsValues() []value {
	var l []value
	add := func(e api.Errno, qids ...api.Qid) {
		l = append(l, value{func(m *api.Msg) { m.Qids = qids }, len(qids) == 0, e})
	}
	add(api.OK)
	add(api.OK, goodQids...)
	add(api.OK, []api.Qid{}...)
	add(api.OK, api.Qid{})
	add(api.OK, slices.Repeat(goodQids, 2)...)
	add(api.ErrNumber, badQids[0])
	add(api.ErrNumber, append(slices.Repeat(goodQids[2:3], 15), badQids[6])...)
	add(api.ErrLong, make([]api.Qid, 17)...)
	add(api.ErrLong, slices.Repeat(badQids[1:2], 17)...)
	return l
}

func statValues() []value {
	var l []value
	for _, d := range []api.Dir{{}, stat.None(), {Type: 65534, Qid: api.Qid{Type: 128, Vers: 1, Path: maxId}, Mode: 2147483648 + 493, Name: "/", Uid: "adm"}, {Name: "a"}, {Length: maxNum}} {
		l = append(l, value{func(m *api.Msg) { m.Stat = d }, d == api.Dir{}, api.OK})
	}
	for _, d := range []api.Dir{{Type: 65535}, {Mode: 512}, {Length: -2}, {Qid: api.Qid{Type: 16}, Name: ".."}} {
		l = append(l, value{func(m *api.Msg) { m.Stat = d }, false, api.ErrNumber})
	}
	for _, d := range []api.Dir{{Name: "a/b"}, {Uid: strings.Repeat("u", 65)}, {Muid: strings.Repeat("u", 65)}} {
		l = append(l, value{func(m *api.Msg) { m.Stat = d }, false, api.ErrName})
	}
	return l
}

func errValues() []value {
	var l []value
	for _, e := range []api.Errno{0, 1, 13, 58, 59, 60, -1, math.MinInt, math.MaxInt, 256 + 1} {
		v := value{set: func(m *api.Msg) { m.Err = e }, isZero: e == 0}
		if e < 1 || e > 59 {
			v.e = api.ErrNumber
		}
		l = append(l, v)
	}
	return l
}

// noFidOfAttach is the value of AuthFid that only TAttach takes.
const noFidOfAttach = 5

// draft is a message that is made of values: the index of one for each field.
type draft struct {
	kind   kind
	tag    int
	values [23]int
}

// valid returns the draft of a message that is valid and in which no used field is zero.
func valid(k kind) draft {
	d := draft{kind: k, tag: 1}
	if strings.HasSuffix(k.name, "Version") {
		d.tag = noTag
	}
	for _, i := range k.used() {
		d.values[i] = 1
	}
	return d
}

// used returns the indices of the fields that a kind uses, in the chapter's order.
func (k kind) used() []int {
	var l []int
	for _, name := range strings.Fields(k.fields) {
		l = append(l, slices.IndexFunc(fields, func(f field) bool { return f.name == name }))
	}
	return l
}

// with returns the draft with another value of a field.
func (d draft) with(field, value int) draft {
	d.values[field] = value
	return d
}

// msg returns the message of a draft.
func (d draft) msg() api.Msg {
	m := api.Msg{Kind: d.kind.number, Tag: d.tag}
	for i, f := range fields {
		f.values[d.values[i]].set(&m)
	}
	return m
}

// isTag follows the chapter's sentence about tags.
func (k kind) isTag(tag int) bool {
	switch k.name {
	case "TVersion", "RVersion":
		return tag == noTag
	case "RError":
		return tag >= 0 && tag <= noTag
	}
	return tag >= 0 && tag <= maxTag
}

// check follows P8.4 clause by clause, for a kind that there is.
func (d draft) check(used []int) api.Errno {
	if !d.kind.isTag(d.tag) {
		return api.ErrNumber
	}
	for i, f := range fields {
		if !f.values[d.values[i]].isZero && !slices.Contains(used, i) {
			return api.ErrForm
		}
	}
	for _, i := range used {
		isNoFid := fields[i].name == "AuthFid" && d.values[i] == noFidOfAttach
		if e := fields[i].values[d.values[i]].e; e != api.OK && !(isNoFid && d.kind.name == "TAttach") {
			return e
		}
	}
	return api.OK
}

// singles returns drafts in which one field has another value than in a valid message.
func singles() []draft {
	var l []draft
	for _, k := range kinds {
		l = append(l, valid(k))
		for i, f := range fields {
			for j := range f.values {
				l = append(l, valid(k).with(i, j))
			}
		}
	}
	return l
}

// show returns a message for a report, short enough to be read.
func show(m api.Msg) string {
	return fmt.Sprintf("%.400s", fmt.Sprintf("%+v", m))
}

// checkDraft reports a result of Check that is not the one of the chapter.
func checkDraft(t *testing.T, d draft, used []int) api.Errno {
	t.Helper()
	want := d.check(used)
	if e := msg.Check(d.msg()); e != want {
		t.Fatalf("Check(%s) is %d, want %d", show(d.msg()), e, want)
	}
	return want
}

// TestName checks P8.1 for every kind, by its number and by its constant.
func TestName(t *testing.T) {
	for _, k := range kinds {
		if s := msg.Name(k.number); s != k.name {
			t.Errorf("Name(%d) is %q, want %q", k.number, s, k.name)
		}
	}
	for n, want := range map[int]string{110: "TWalk", 106: "", api.TVersion: "TVersion", api.RError: "RError", api.TWstat: "TWstat", api.RStat: "RStat", api.RResume: "RResume"} {
		if s := msg.Name(n); s != want {
			t.Errorf("Name(%d) is %q, want %q", n, s, want)
		}
	}
}

// TestNameOfOtherNumbers checks that P8.1 has the empty string for all numbers that are no kind.
func TestNameOfOtherNumbers(t *testing.T) {
	for _, n := range someKinds() {
		isKind := slices.ContainsFunc(kinds, func(k kind) bool { return k.number == n })
		if s := msg.Name(n); (s != "") != isKind {
			t.Errorf("Name(%d) is %q", n, s)
		}
	}
}

// TestRequest checks P8.2.
func TestRequest(t *testing.T) {
	if !msg.Request(api.TRead) || msg.Request(106) || msg.Request(api.RError) {
		t.Error("the examples of Request are not as stated")
	}
	for _, n := range someKinds() {
		if want := slices.Contains(requests, n); msg.Request(n) != want {
			t.Errorf("Request(%d) is %v", n, !want)
		}
	}
}

// TestReply checks P8.3: the kinds of the replies, and 0 for everything else.
func TestReply(t *testing.T) {
	for _, n := range someKinds() {
		want := 0
		if i := slices.Index(requests, n); i >= 0 {
			want = replies[i]
		}
		if k := msg.Reply(n); k != want {
			t.Errorf("Reply(%d) is %d, want %d", n, k, want)
		}
	}
}

// TestCheck checks that P8.4 takes a valid message of every kind, and the examples that are valid.
func TestCheck(t *testing.T) {
	for _, k := range kinds {
		if e := msg.Check(valid(k).msg()); e != api.OK {
			t.Errorf("Check(%s) is %d", show(valid(k).msg()), e)
		}
	}
	for _, m := range []api.Msg{
		{Kind: api.TVersion, Tag: noTag, Msize: 8192, Version: "fs2026"},
		{Kind: api.TVersion, Tag: noTag},
		{Kind: api.TClunk, Tag: 1, Fid: 7},
		{Kind: api.RWalk},
		{Kind: api.RWalk, Names: []string{}, Qids: []api.Qid{}},
		{Kind: api.TWalk, Names: []string{"..", "a"}, Qids: []api.Qid{}},
		{Kind: api.TAttach, AuthFid: noFid},
		{Kind: api.TWstat, Stat: stat.None()},
		{Kind: api.RRead, Data: strings.Repeat("x", 8168)},
	} {
		if e := msg.Check(m); e != api.OK {
			t.Errorf("Check(%s) is %d", show(m), e)
		}
	}
}

// TestCheckErrors checks the examples of P8.4 and of the chapter that are not valid.
func TestCheckErrors(t *testing.T) {
	for _, x := range []struct {
		m api.Msg
		e api.Errno
	}{
		{api.Msg{}, api.ErrForm},
		{api.Msg{Kind: api.TClunk, Tag: 1, Fid: 7, Count: 1}, api.ErrForm},
		{api.Msg{Kind: api.TOpen, Fid: -1, Mode: 256}, api.ErrNumber},
		{api.Msg{Kind: api.TVersion, Msize: 8192, Version: "fs2026"}, api.ErrNumber},
		{api.Msg{Kind: api.TWalk, Names: slices.Repeat([]string{"a"}, 17)}, api.ErrLong},
		{api.Msg{Kind: api.TWalk, Names: []string{"a/b"}}, api.ErrName},
		{api.Msg{Kind: api.RRead, Data: strings.Repeat("x", 8192)}, api.ErrLong},
		{api.Msg{Kind: api.TAuth, AuthFid: noFid}, api.ErrNumber},
		{api.Msg{Kind: api.TAttach, AuthFid: noFid + 1}, api.ErrNumber},
		{api.Msg{Kind: api.TCreate}, api.ErrName},
		{api.Msg{Kind: api.TCreate, Name: ".."}, api.ErrName},
		{api.Msg{Kind: api.RError}, api.ErrNumber},
		{api.Msg{Kind: api.RWstat, Stat: stat.None()}, api.ErrForm},
		{api.Msg{Kind: api.RResume, Session: "s"}, api.ErrForm},
	} {
		if e := msg.Check(x.m); e != x.e {
			t.Errorf("Check(%s) is %d, want %d", show(x.m), e, x.e)
		}
	}
}

// TestCheckKind checks that P8.4 reports a kind that there is not before everything else.
func TestCheckKind(t *testing.T) {
	for _, n := range someKinds() {
		if slices.ContainsFunc(kinds, func(k kind) bool { return k.number == n }) {
			continue
		}
		for _, m := range []api.Msg{{Kind: n}, {Kind: n, Tag: -1}, {Kind: n, Tag: noTag}, {Kind: n, Tag: noTag + 1, Fid: -1, Names: make([]string, 17)}} {
			if e := msg.Check(m); e != api.ErrForm {
				t.Errorf("Check(%s) is %d", show(m), e)
			}
		}
	}
}

// TestCheckTag checks the tags that P8.4 takes in each kind, and that a tag is reported before all fields.
func TestCheckTag(t *testing.T) {
	for _, d := range singles() {
		used := d.kind.used()
		for _, tag := range []int{math.MinInt, -65535, -1, 0, 1, 513, 65533, maxTag, noTag, noTag + 1, noTag << 16, math.MaxInt} {
			d.tag = tag
			checkDraft(t, d, used)
		}
	}
}

// TestCheckFields checks that P8.4 has the error of every value of a field in the kinds that use it, and ErrForm in all others.
func TestCheckFields(t *testing.T) {
	count := map[api.Errno]int{}
	for _, d := range singles() {
		count[checkDraft(t, d, d.kind.used())]++
	}
	for _, e := range []api.Errno{api.OK, api.ErrForm, api.ErrNumber, api.ErrLong, api.ErrName} {
		if count[e] < 15 {
			t.Errorf("only %d messages lead to %d", count[e], e)
		}
	}
}

// TestCheckOrder checks the order of the errors of P8.4, with every pair of values in every pair of fields.
func TestCheckOrder(t *testing.T) {
	for _, k := range kinds {
		used := k.used()
		for f := range fields {
			for g := range f {
				for i := range fields[f].values {
					for j := range fields[g].values {
						checkDraft(t, valid(k).with(f, i).with(g, j), used)
					}
				}
			}
		}
	}
}

// TestCheckTypes checks every type of a qid that P8.4 takes, and that it takes no other number of that size.
func TestCheckTypes(t *testing.T) {
	types := []int{0, 8, 32, 40, 64, 72, 96, 104, 128, 136, 160, 168, 192, 200, 224, 232}
	for n := range 1024 {
		want := api.ErrNumber
		if slices.Contains(types, n) {
			want = api.OK
		}
		q := api.Qid{Type: n, Vers: 1, Path: 1}
		for _, m := range []api.Msg{{Kind: api.RAttach, Qid: q}, {Kind: api.RWalk, Qids: []api.Qid{{}, q}}} {
			if e := msg.Check(m); e != want {
				t.Errorf("Check(%s) is %d, want %d", show(m), e, want)
			}
		}
	}
}

// TestCheckCounts checks the limit of the lists of P8.4 with lists of every length around it.
func TestCheckCounts(t *testing.T) {
	for n := range 40 {
		want := api.OK
		if n > 16 {
			want = api.ErrLong
		}
		for _, m := range []api.Msg{{Kind: api.TWalk, Names: slices.Repeat([]string{".."}, n)}, {Kind: api.RWalk, Qids: make([]api.Qid, n)}} {
			if e := msg.Check(m); e != want {
				t.Errorf("Check(%s) is %d, want %d", show(m), e, want)
			}
		}
	}
}

// TestCheckErr checks that P8.4 takes the code of every error, and no other one.
func TestCheckErr(t *testing.T) {
	for n := range 400 {
		want := api.ErrNumber
		if 1 <= n && n <= 59 {
			want = api.OK
		}
		if e := msg.Check(api.Msg{Kind: api.RError, Tag: 1, Err: api.Errno(n)}); e != want {
			t.Errorf("Check of an RError with the Err %d is %d, want %d", n, e, want)
		}
	}
}

// answersOfChapter follows P8.5 clause by clause.
func answersOfChapter(req, reply api.Msg) bool {
	i := slices.Index(requests, req.Kind)
	if i < 0 || req.Tag != reply.Tag {
		return false
	}
	switch reply.Kind {
	default:
		return false
	case 107:
		return true
	case replies[i]:
	}
	if reply.Kind == 111 && (len(reply.Qids) > len(req.Names) || len(req.Names) > 0 && len(reply.Qids) == 0) {
		return false
	}
	if reply.Kind == 117 && len(reply.Data) > req.Count {
		return false
	}
	return reply.Kind != 119 || reply.Count <= len(req.Data)
}

// checkAnswers reports a result of Answers that is not the wanted one.
func checkAnswers(t *testing.T, req, reply api.Msg, want bool) {
	t.Helper()
	if msg.Answers(req, reply) != want {
		t.Errorf("Answers(%s, %s) is %v", show(req), show(reply), !want)
	}
}

// TestAnswers checks P8.5 for every pair of kinds, those that there are not included, with tags that are equal and that differ. (P8.9: no request is a reply.)
func TestAnswers(t *testing.T) {
	numbers := []int{math.MinInt, -1, 0, 1, 106, math.MaxInt - 1, math.MaxInt}
	for n := range 60 {
		numbers = append(numbers, n+80)
	}
	for _, k := range numbers {
		for _, l := range numbers {
			for _, tags := range [][2]int{{0, 0}, {7, 7}, {7, 8}, {0, noTag}, {noTag, noTag}, {-1, -1}, {-1, 1}} {
				req, reply := api.Msg{Kind: k, Tag: tags[0]}, api.Msg{Kind: l, Tag: tags[1]}
				checkAnswers(t, req, reply, answersOfChapter(req, reply))
				if msg.Answers(req, reply) && msg.Request(l) {
					t.Errorf("a request of the kind %d answers one of the kind %d", l, k)
				}
			}
		}
	}
}

// TestAnswersWalk checks the Qids of P8.5 for every number of names; their values do not count.
func TestAnswersWalk(t *testing.T) {
	for names := range 20 {
		for qids := range 20 {
			want := qids <= names && (qids > 0 || names == 0)
			req, reply := api.Msg{Kind: api.TWalk, Tag: 3, Names: make([]string, names)}, api.Msg{Kind: api.RWalk, Tag: 3, Qids: make([]api.Qid, qids)}
			checkAnswers(t, req, reply, want)
			for i := range reply.Qids {
				reply.Qids[i] = badQids[i%len(badQids)]
			}
			checkAnswers(t, req, reply, want)
			reply.Kind, reply.Err = api.RError, api.ErrNotExist
			checkAnswers(t, req, reply, true)
		}
	}
}

// TestAnswersCounts checks the Data and the Count of P8.5 on both sides of what was asked for.
func TestAnswersCounts(t *testing.T) {
	for _, length := range []int{0, 1, 2, 3, 256, 8168, 8169, 70000} {
		data := strings.Repeat("x", length)
		for _, count := range []int{math.MinInt, -1, 0, 1, 2, 3, 256, 8168, 8169, 8192, 70000, math.MaxInt} {
			checkAnswers(t, api.Msg{Kind: api.TRead, Tag: 3, Count: count}, api.Msg{Kind: api.RRead, Tag: 3, Data: data}, length <= count)
			checkAnswers(t, api.Msg{Kind: api.TWrite, Tag: 3, Data: data}, api.Msg{Kind: api.RWrite, Tag: 3, Count: count}, count <= length)
		}
	}
}

// TestAnswersNothingElse checks that P8.5 looks at no other field: whatever a request and its reply hold besides, a reply with nothing too much belongs to it.
func TestAnswersNothingElse(t *testing.T) {
	for _, k := range kinds {
		for f := range fields {
			for i := range fields[f].values {
				for _, l := range kinds {
					req, reply := valid(k).with(f, i).msg(), valid(l).with(f, i).msg()
					reply.Tag = req.Tag
					checkAnswers(t, req, reply, answersOfChapter(req, reply))
				}
			}
		}
	}
}

// TestFail checks P8.6 for requests and for anything else, with every error code and with other numbers.
func TestFail(t *testing.T) {
	for _, d := range singles() {
		for _, e := range []api.Errno{0, 1, api.ErrPerm, 59, 60, -1, math.MinInt, math.MaxInt} {
			m := d.msg()
			if f, want := msg.Fail(m, e), (api.Msg{Kind: 107, Tag: m.Tag, Err: e}); !reflect.DeepEqual(f, want) {
				t.Fatalf("Fail(%s, %d) is %s", show(m), e, show(f))
			}
		}
	}
	if f := msg.Fail(api.Msg{Kind: -1, Tag: -5}, api.ErrTag); !reflect.DeepEqual(f, api.Msg{Kind: 107, Tag: -5, Err: 17}) {
		t.Errorf("Fail is %s", show(f))
	}
}

// checkSame reports a result of Same, in both directions, that is not the wanted one.
func checkSame(t *testing.T, a, b api.Msg, want bool) {
	t.Helper()
	if msg.Same(a, b) != want || msg.Same(b, a) != want {
		t.Errorf("Same(%s, %s) is %v", show(a), show(b), !want)
	}
}

// withoutEmpty returns a message in which an empty list is nil.
func withoutEmpty(m api.Msg) api.Msg {
	if len(m.Names) == 0 {
		m.Names = nil
	}
	if len(m.Qids) == 0 {
		m.Qids = nil
	}
	return m
}

// TestSame checks P8.7 for every pair of values of every field, in valid messages and in others.
func TestSame(t *testing.T) {
	for _, k := range kinds {
		for f := range fields {
			for i := range fields[f].values {
				for j := range fields[f].values {
					a, b := valid(k).with(f, i).msg(), valid(k).with(f, j).msg()
					checkSame(t, a, b, reflect.DeepEqual(withoutEmpty(a), withoutEmpty(b)))
				}
			}
		}
	}
}

// TestSameKindAndTag checks that the kind and the tag count in P8.7, and that two fields do not make up for each other.
func TestSameKindAndTag(t *testing.T) {
	for _, k := range kinds {
		for _, l := range kinds {
			checkSame(t, valid(k).msg(), valid(l).msg(), k == l)
			checkSame(t, api.Msg{Kind: k.number}, api.Msg{Kind: l.number}, k == l)
		}
	}
	checkSame(t, api.Msg{Tag: 1}, api.Msg{Tag: 2}, false)
	for f := range fields {
		for g := range f {
			checkSame(t, draft{}.with(f, 1).msg(), draft{}.with(g, 1).msg(), false)
		}
	}
}

// TestSameParts checks that P8.7 compares every part of a qid, of a description and of a list.
func TestSameParts(t *testing.T) {
	for _, q := range append(slices.Clone(goodQids[1:]), badQids...) {
		checkSame(t, api.Msg{Qid: q}, api.Msg{}, false)
		checkSame(t, api.Msg{Qids: []api.Qid{{}, q}}, api.Msg{Qids: []api.Qid{{}, {}}}, false)
	}
	for _, d := range []api.Dir{{Type: 1}, {Dev: 1}, {Qid: api.Qid{Type: 8}}, {Qid: api.Qid{Vers: 1}}, {Qid: api.Qid{Path: 1}}, {Mode: 1}, {Atime: 1}, {Mtime: 1}, {Length: 1}, {Name: "a"}, {Uid: "a"}, {Gid: "a"}, {Muid: "a"}} {
		checkSame(t, api.Msg{Stat: d}, api.Msg{}, false)
		checkSame(t, api.Msg{Stat: d}, api.Msg{Stat: d}, true)
	}
	checkSame(t, api.Msg{Names: []string{}, Qids: []api.Qid{}}, api.Msg{}, true)
	checkSame(t, api.Msg{Names: []string{"a", "b"}}, api.Msg{Names: []string{"a", "b"}}, true)
	for _, names := range [][]string{nil, {"a"}, {"b", "a"}, {"a", "c"}, {"a", "b", "c"}, {"ab"}, {"a", "b", ""}} {
		checkSame(t, api.Msg{Names: []string{"a", "b"}}, api.Msg{Names: names}, false)
	}
	checkSame(t, api.Msg{Qids: make([]api.Qid, 2)}, api.Msg{Qids: make([]api.Qid, 3)}, false)
	checkSame(t, api.Msg{Qids: make([]api.Qid, 1)}, api.Msg{}, false)
}

// TestErrors checks P8.8: every error is a valid reply to every valid request.
func TestErrors(t *testing.T) {
	seen := map[int]bool{}
	for _, d := range singles() {
		req := d.msg()
		if msg.Check(req) != api.OK || !msg.Request(req.Kind) {
			continue
		}
		seen[req.Kind] = true
		for e := api.ErrArg; e <= api.ErrStatus; e++ {
			f := msg.Fail(req, e)
			if c := msg.Check(f); c != api.OK || !msg.Answers(req, f) {
				t.Fatalf("Check(%s) is %d, and it does not answer %s", show(f), c, show(req))
			}
		}
	}
	if len(seen) != 15 {
		t.Errorf("only %d kinds of requests were valid", len(seen))
	}
}

// TestKinds checks the first sentence of P8.9; TestAnswers checks the second one.
func TestKinds(t *testing.T) {
	seen := map[string]int{}
	isReply := map[int]bool{api.RError: true}
	for _, n := range someKinds() {
		isReply[msg.Reply(n)] = true
	}
	for _, n := range someKinds() {
		name := msg.Name(n)
		if name == "" {
			continue
		}
		if other, ok := seen[name]; ok {
			t.Errorf("the kinds %d and %d have the name %s", other, n, name)
		}
		seen[name] = n
		if msg.Request(n) == isReply[n] {
			t.Errorf("the kind %d is both one of a request and one of a reply, or neither", n)
		}
	}
	if len(seen) != 31 {
		t.Errorf("there are %d kinds", len(seen))
	}
}

// TestArgumentsAreKept checks that no call changes a list of a message, nor the spare capacity after it.
func TestArgumentsAreKept(t *testing.T) {
	for _, k := range kinds {
		m := valid(k).msg()
		m.Names = append(make([]string, 0, 4), "b", "a", "spare")[:2]
		m.Qids = append(make([]api.Qid, 0, 4), goodQids[2], goodQids[1], goodQids[3])[:2]
		msg.Check(m)
		msg.Answers(m, m)
		msg.Fail(m, api.ErrPerm)
		msg.Same(m, m)
		if !slices.Equal(m.Names[:4], []string{"b", "a", "spare", ""}) || !slices.Equal(m.Qids[:4], []api.Qid{goodQids[2], goodQids[1], goodQids[3], {}}) {
			t.Fatalf("a call has changed %s", show(m))
		}
	}
}
