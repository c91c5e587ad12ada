package wire_test

import (
	"fmt"
	"math"
	"slices"
	"strings"

	"filespace/api"
	"filespace/fault"
	"filespace/msg"
	"filespace/octet"
	"filespace/stat"
)

// This file has the chapter's tables and clauses as a second implementation, and the messages on which it is compared with the package.

// The limits, as numbers.
const (
	noFid  = 4294967295
	noTag  = 65535
	maxTag = 65534
	maxNum = 9007199254740991
	maxId  = 1099511627776
)

// kind is a row of the chapter's table: a kind, and the fields of its encoding.
type kind struct {
	number int
	fields string
}

// kinds are all kinds of messages.
var kinds = []kind{
	{100, "Msize Version"},
	{101, "Msize Version Session"},
	{102, "AuthFid User Attach"},
	{103, "Qid"},
	{104, "Fid AuthFid User Attach"},
	{105, "Qid"},
	{107, "Err"},
	{108, "OldTag"},
	{109, ""},
	{110, "Fid NewFid Names"},
	{111, "Qids"},
	{112, "Fid Mode"},
	{113, "Qid Iounit"},
	{114, "Fid Name Perm Mode"},
	{115, "Qid Iounit"},
	{116, "Fid Offset Count"},
	{117, "Data"},
	{118, "Fid Offset Data"},
	{119, "Count"},
	{120, "Fid"},
	{121, ""},
	{122, "Fid"},
	{123, ""},
	{124, "Fid"},
	{125, "Stat"},
	{126, "Fid Stat"},
	{127, ""},
	{128, "Fid Lease Term"},
	{129, "Qid Lease Term"},
	{130, "Session"},
	{131, ""},
}

// field is a field with its encoding, and with values: those that are valid in every message that has the field (the first one has different bytes in all places), and others whose bytes can be written too.
type field struct {
	put   func(m api.Msg) string
	get   func(s string, m *api.Msg) (string, bool)
	right []func(m *api.Msg)
	wrong []func(m *api.Msg)
}

// fields are the fields by their names.
var fields = map[string]field{
	"Fid":     numberField(func(m *api.Msg) *int { return &m.Fid }, 4, 0x04030201, []int{0, 7, 255, 256, noFid - 1}, []int{noFid}),
	"NewFid":  numberField(func(m *api.Msg) *int { return &m.NewFid }, 4, 0x14131211, []int{0, 1, noFid - 1}, []int{noFid}),
	"AuthFid": numberField(func(m *api.Msg) *int { return &m.AuthFid }, 4, 0x24232221, []int{0, noFid - 1}, []int{noFid}),
	"OldTag":  numberField(func(m *api.Msg) *int { return &m.OldTag }, 2, 0x3231, []int{0, 1, 256, maxTag}, []int{noTag}),
	"Msize":   numberField(func(m *api.Msg) *int { return &m.Msize }, 4, 0x44434241, []int{0, 256, 8192, 8193, 4294967295}, nil),
	"Iounit":  numberField(func(m *api.Msg) *int { return &m.Iounit }, 4, 0x1251, []int{0, 1, 8192}, []int{8193, 4294967295}),
	"Mode":    numberField(func(m *api.Msg) *int { return &m.Mode }, 1, 0x61, []int{0, 80, 255}, nil),
	"Perm":    numberField(func(m *api.Msg) *int { return &m.Perm }, 4, 0x74737271, []int{0, 420, 2147483648 + 493, 4294967295}, nil),
	"Offset":  numberField(func(m *api.Msg) *int { return &m.Offset }, 8, 0x17868584838281, []int{0, 1 << 32, maxNum}, []int{maxNum + 1, math.MaxInt}),
	"Count":   numberField(func(m *api.Msg) *int { return &m.Count }, 4, 0x1391, []int{0, 8168, 8192}, []int{8193, 4294967295}),
	"Lease":   numberField(func(m *api.Msg) *int { return &m.Lease }, 1, 2, []int{0, 1}, []int{3, 255}),
	"Term":    numberField(func(m *api.Msg) *int { return &m.Term }, 4, 0x0ba2a1, []int{0, 1, 1048576}, []int{1048577, 4294967295}),
	"Version": textField(func(m *api.Msg) *string { return &m.Version }, "fs2026", 64),
	"User":    textField(func(m *api.Msg) *string { return &m.User }, "ann", 32),
	"Attach":  textField(func(m *api.Msg) *string { return &m.Attach }, "disk", 1024),
	"Session": textField(func(m *api.Msg) *string { return &m.Session }, "s1.1", 64),
	"Name":    {put: putName, get: getText(func(m *api.Msg) *string { return &m.Name }), right: set(setName, "bc", "a", "...", strings.Repeat("~", 64)), wrong: set(setName, "", ".", "..", "a/b", "\x00", strings.Repeat("a", 65), strings.Repeat("a", 7000))},
	"Data":    {put: putData, get: getData, right: set(setData, "hi\x00\xff", "", "x", strings.Repeat("d", 256), strings.Repeat("\xff", 8168)), wrong: set(setData, strings.Repeat("x", 8169))},
	"Names":   {put: putNames, get: getNames, right: set(setNames, goodNames...), wrong: set(setNames, badNames...)},
	"Qids":    {put: putQids, get: getQids, right: set(setQids, goodQidLists()...), wrong: set(setQids, badQidLists()...)},
	"Qid":     {put: putOneQid, get: getOneQid, right: set(setQid, goodQids...), wrong: set(setQid, badQids...)},
	"Stat":    {put: putStat, get: getStat, right: set(setStat, goodDirs...)},
	"Err":     {put: putErr, get: getErr, right: set(setErr, api.ErrNotExist, api.ErrArg, api.ErrPerm, api.ErrStatus)},
}

func setName(m *api.Msg, s string)    { m.Name = s }
func setData(m *api.Msg, s string)    { m.Data = s }
func setNames(m *api.Msg, l []string) { m.Names = l }
func setQids(m *api.Msg, l []api.Qid) { m.Qids = l }
func setQid(m *api.Msg, q api.Qid)    { m.Qid = q }
func setStat(m *api.Msg, d api.Dir)   { m.Stat = d }
func setErr(m *api.Msg, e api.Errno)  { m.Err = e }

// used returns the names of the fields of a kind, in the chapter's order.
func (k kind) used() []string {
	return strings.Fields(k.fields)
}

// kindOf returns the kind that has a number.
func kindOf(number int) (kind, bool) {
	i := slices.IndexFunc(kinds, func(k kind) bool { return k.number == number })
	if i < 0 {
		return kind{}, false
	}
	return kinds[i], true
}

// little returns the bytes of a number that fits into the width.
func little(n, width int) string {
	s, _ := octet.Put(n, width)
	return s
}

// counted returns a text with its length in front.
func counted(s string) string {
	return little(len(s), 2) + s
}

// withSize returns the bytes of a message with its size in front.
func withSize(body string) string {
	return little(4+len(body), 4) + body
}

// set returns a function for each value that sets a field to it.
func set[T any](f func(m *api.Msg, v T), values ...T) []func(m *api.Msg) {
	var l []func(m *api.Msg)
	for _, v := range values {
		l = append(l, func(m *api.Msg) { f(m, v) })
	}
	return l
}

func numberField(of func(m *api.Msg) *int, width, first int, right, wrong []int) field {
	value := func(m *api.Msg, n int) { *of(m) = n }
	return field{
		put: func(m api.Msg) string { return little(*of(&m), width) },
		get: func(s string, m *api.Msg) (string, bool) {
			n, next, e := octet.Get(s, 0, width)
			if e != api.OK {
				return "", false
			}
			*of(m) = n
			return s[next:], true
		},
		right: set(value, append([]int{first}, right...)...),
		wrong: set(value, wrong...),
	}
}

func textField(of func(m *api.Msg) *string, first string, most int) field {
	value := func(m *api.Msg, s string) { *of(m) = s }
	return field{
		put:   func(m api.Msg) string { return counted(*of(&m)) },
		get:   getText(of),
		right: set(value, first, "", "x", "a/b \x00\xff\n..", strings.Repeat("\xff", most)),
		wrong: set(value, strings.Repeat("x", most+1), strings.Repeat("\x00", 7000)),
	}
}

var goodNames = [][]string{{"a", "..", "bc"}, nil, {".."}, slices.Repeat([]string{strings.Repeat("~", 64)}, 16)}

var badNames = [][]string{{""}, {"a", "a/b"}, {strings.Repeat("a", 65)}, {strings.Repeat("a", 7000)}, slices.Repeat([]string{"a"}, 17), make([]string, 600)}

var goodQids = []api.Qid{{Type: 128, Vers: 0x34333231, Path: 0x95949392}, {}, {Type: 232, Vers: 2147483647, Path: maxId}, {Type: 8}, {Vers: 1}, {Path: 1}}

var badQids = []api.Qid{{Type: 1}, {Type: 255}, {Vers: 2147483648}, {Vers: 4294967295}, {Path: maxId + 1}, {Path: math.MaxInt}}

var goodDirs = []api.Dir{{Type: 1, Dev: 2, Qid: api.Qid{Type: 128, Vers: 3, Path: 4}, Mode: 2147483648 + 493, Atime: 5, Mtime: 6, Length: 7, Name: "n", Uid: "adm", Gid: "sys", Muid: "x"}, {}, stat.None(), {Name: "/", Length: maxNum}, {Type: 65534, Name: strings.Repeat("n", 64), Uid: strings.Repeat("u", 64), Gid: strings.Repeat("g", 64), Muid: strings.Repeat("m", 64)}}

func goodQidLists() [][]api.Qid {
	return [][]api.Qid{goodQids[:3], nil, {{}}, slices.Repeat(goodQids[2:3], 16)}
}

func badQidLists() [][]api.Qid {
	return [][]api.Qid{badQids[:1], {{}, badQids[3]}, make([]api.Qid, 17), slices.Repeat(badQids[2:3], 600)}
}

func putName(m api.Msg) string {
	return counted(m.Name)
}

func putData(m api.Msg) string {
	return little(len(m.Data), 4) + m.Data
}

func putQid(q api.Qid) string {
	return little(q.Type, 1) + little(q.Vers, 4) + little(q.Path, 8)
}

func putOneQid(m api.Msg) string {
	return putQid(m.Qid)
}

func putStat(m api.Msg) string {
	s, _ := stat.Put(m.Stat)
	return counted(s)
}

func putErr(m api.Msg) string {
	return counted(fault.Text(m.Err))
}

func putNames(m api.Msg) string {
	s := little(len(m.Names), 2)
	for _, name := range m.Names {
		s += counted(name)
	}
	return s
}

func putQids(m api.Msg) string {
	s := little(len(m.Qids), 2)
	for _, q := range m.Qids {
		s += putQid(q)
	}
	return s
}

// bytesOf follows the chapter's definition of the encoding of a message.
func bytesOf(m api.Msg) string {
	k, _ := kindOf(m.Kind)
	s := little(m.Kind, 1) + little(m.Tag, 2)
	for _, name := range k.used() {
		s += fields[name].put(m)
	}
	return withSize(s)
}

func getText(of func(m *api.Msg) *string) func(s string, m *api.Msg) (string, bool) {
	return func(s string, m *api.Msg) (string, bool) {
		text, next, e := octet.GetText(s, 0)
		if e != api.OK {
			return "", false
		}
		*of(m) = text
		return s[next:], true
	}
}

func getData(s string, m *api.Msg) (string, bool) {
	length, next, e := octet.Get(s, 0, 4)
	if e != api.OK || length > len(s)-next {
		return "", false
	}
	m.Data = s[next : next+length]
	return s[next+length:], true
}

func getNames(s string, m *api.Msg) (string, bool) {
	count, _, e := octet.Get(s, 0, 2)
	if e != api.OK {
		return "", false
	}
	s = s[2:]
	for range count {
		name, next, e := octet.GetText(s, 0)
		if e != api.OK {
			return "", false
		}
		m.Names = append(m.Names, name)
		s = s[next:]
	}
	return s, true
}

func getQid(s string) (api.Qid, bool) {
	if len(s) < 13 {
		return api.Qid{}, false
	}
	path, _, e := octet.Get(s, 5, 8)
	version, _, _ := octet.Get(s, 1, 4)
	return api.Qid{Type: int(s[0]), Vers: version, Path: path}, e == api.OK
}

func getOneQid(s string, m *api.Msg) (string, bool) {
	q, ok := getQid(s)
	if !ok {
		return "", false
	}
	m.Qid = q
	return s[13:], true
}

func getQids(s string, m *api.Msg) (string, bool) {
	count, _, e := octet.Get(s, 0, 2)
	if e != api.OK {
		return "", false
	}
	s = s[2:]
	for range count {
		q, ok := getQid(s)
		if !ok {
			return "", false
		}
		m.Qids = append(m.Qids, q)
		s = s[13:]
	}
	return s, true
}

func getStat(s string, m *api.Msg) (string, bool) {
	length, _, e := octet.Get(s, 0, 2)
	if e != api.OK {
		return "", false
	}
	d, next, e := stat.Get(s, 2)
	if e != api.OK || next != 2+length {
		return "", false
	}
	m.Stat = d
	return s[next:], true
}

func getErr(s string, m *api.Msg) (string, bool) {
	text, next, e := octet.GetText(s, 0)
	code, ok := fault.Find(text)
	if e != api.OK || !ok {
		return "", false
	}
	m.Err = code
	return s[next:], true
}

// outcome is what Get returns.
type outcome struct {
	m    api.Msg
	next int
	e    api.Errno
}

func (o outcome) same(p outcome) bool {
	return msg.Same(o.m, p.m) && o.next == p.next && o.e == p.e
}

// getOf follows P9.3 clause by clause.
func getOf(s string, at int) outcome {
	if at < 0 || at > len(s) {
		return outcome{e: api.ErrArg}
	}
	if at+4 > len(s) {
		return outcome{e: api.ErrShort}
	}
	size := int(s[at]) + 256*int(s[at+1]) + 65536*int(s[at+2]) + 16777216*int(s[at+3])
	if size > 8192 {
		return outcome{e: api.ErrLong}
	}
	if size < 7 {
		return outcome{e: api.ErrForm}
	}
	if at+size > len(s) {
		return outcome{e: api.ErrShort}
	}
	m, ok := messageOf(s[at+4 : at+size])
	if !ok {
		return outcome{e: api.ErrForm}
	}
	if e := msg.Check(m); e != api.OK {
		return outcome{e: e}
	}
	return outcome{m, at + size, api.OK}
}

// messageOf returns the message with the given bytes after its size.
func messageOf(s string) (api.Msg, bool) {
	k, ok := kindOf(int(s[0]))
	m := api.Msg{Kind: int(s[0]), Tag: int(s[1]) + 256*int(s[2])}
	s = s[3:]
	for _, name := range k.used() {
		if ok {
			s, ok = fields[name].get(s, &m)
		}
	}
	return m, ok && s == ""
}

// splitOf follows P9.4 clause by clause.
func splitOf(s string, msize int) ([]api.Msg, string, api.Errno) {
	var l []api.Msg
	if msize == 0 || msize > 8192 {
		msize = 8192
	}
	for len(s) >= 4 {
		size, _, _ := octet.Get(s, 0, 4)
		if size > msize || size < 7 {
			return nil, "", api.ErrMsize
		}
		if len(s) < size {
			break
		}
		o := getOf(s, 0)
		if o.e != api.OK {
			return nil, "", o.e
		}
		l = append(l, o.m)
		s = s[size:]
	}
	return l, s, api.OK
}

// base returns the message of a kind whose fields have their first values.
func base(k kind) api.Msg {
	m := api.Msg{Kind: k.number, Tag: 0x0201}
	if k.number == api.TVersion || k.number == api.RVersion {
		m.Tag = noTag
	}
	for _, name := range k.used() {
		fields[name].right[0](&m)
	}
	return m
}

// bases returns the first message of every kind.
func bases() []api.Msg {
	var l []api.Msg
	for _, k := range kinds {
		l = append(l, base(k))
	}
	return l
}

// rightMessages returns valid messages of all kinds: with every pair of valid values of two fields, and with several tags.
func rightMessages() []api.Msg {
	l := bases()
	for _, k := range kinds {
		if k.number != api.TVersion && k.number != api.RVersion {
			for _, tag := range []int{0, 1, 255, 256, maxTag} {
				m := base(k)
				m.Tag = tag
				l = append(l, m)
			}
		}
		for _, first := range k.used() {
			for _, second := range k.used() {
				for _, f := range fields[first].right {
					for _, g := range fields[second].right {
						m := base(k)
						f(&m)
						g(&m)
						l = append(l, m)
					}
				}
			}
		}
	}
	for e := api.ErrArg; e <= api.ErrStatus; e++ {
		l = append(l, api.Msg{Kind: api.RError, Tag: noTag, Err: e})
	}
	return append(l, api.Msg{Kind: api.TAttach, Tag: 1, Fid: 1, AuthFid: noFid, User: "ann"})
}

// wrongMessages returns messages of all kinds that are not valid, but have bytes: with a wrong value in one field and any value in another one, or with a wrong tag.
func wrongMessages() []api.Msg {
	var l []api.Msg
	add := func(m api.Msg) {
		if msg.Check(m) != api.OK {
			l = append(l, m)
		}
	}
	for _, k := range kinds {
		for _, tag := range []int{0, 1, maxTag, noTag} {
			m := base(k)
			m.Tag = tag
			add(m)
		}
		for _, first := range k.used() {
			for _, second := range k.used() {
				for _, f := range fields[first].wrong {
					for _, g := range append(slices.Clone(fields[second].right), fields[second].wrong...) {
						m := base(k)
						g(&m)
						f(&m)
						add(m)
					}
				}
			}
		}
	}
	return l
}

// withoutBytes returns messages that are not valid and of which a field cannot be written, or would not be written.
func withoutBytes() []api.Msg {
	var l []api.Msg
	for _, number := range []int{math.MinInt, -1, 0, 99, 106, 132, 256, 356, 376, math.MaxInt} {
		l = append(l, api.Msg{Kind: number}, api.Msg{Kind: number, Tag: -1, Fid: -1})
	}
	for _, k := range kinds {
		for _, f := range []func(m *api.Msg){
			func(m *api.Msg) { m.Tag = -1 },
			func(m *api.Msg) { m.Tag = noTag + 1 },
			func(m *api.Msg) { m.Fid = -1 },
			func(m *api.Msg) { m.Fid = noFid + 1 },
			func(m *api.Msg) { m.Offset = -1 },
			func(m *api.Msg) { m.Lease = -1 },
			func(m *api.Msg) { m.Mode = 256 },
			func(m *api.Msg) { m.Qid = api.Qid{Type: -1} },
			func(m *api.Msg) { m.Qids = []api.Qid{{}, {Path: -1}} },
			func(m *api.Msg) { m.Names = make([]string, 70000) },
			func(m *api.Msg) { m.Names = []string{strings.Repeat("x", 70000)} },
			func(m *api.Msg) { m.Name = strings.Repeat("x", 70000) },
			func(m *api.Msg) { m.Version = strings.Repeat("x", 70000) },
			func(m *api.Msg) { m.Session = strings.Repeat("x", 70000) },
			func(m *api.Msg) { m.Data = strings.Repeat("x", 8192) },
			func(m *api.Msg) { m.Data = strings.Repeat("x", 1<<20) },
			func(m *api.Msg) { m.Err = -1 },
			func(m *api.Msg) { m.Err = 60 },
			func(m *api.Msg) { m.Stat = api.Dir{Mode: 512} },
			func(m *api.Msg) { m.Stat = api.Dir{Name: "a/b"} },
			func(m *api.Msg) { m.Stat = api.Dir{Uid: strings.Repeat("u", 65)} },
		} {
			m := base(k)
			f(&m)
			if msg.Check(m) != api.OK {
				l = append(l, m)
			}
		}
	}
	return append(l, api.Msg{Kind: api.RError, Tag: 1}, api.Msg{Kind: api.TCreate, Tag: 1})
}

// show returns a value for a report, short enough to be read.
func show(x any) string {
	return fmt.Sprintf("%.400s", fmt.Sprintf("%+v", x))
}

// isEqual reports whether two lists of messages are equal.
func isEqual(a, b []api.Msg) bool {
	return slices.EqualFunc(a, b, func(m, n api.Msg) bool { return msg.Same(m, n) })
}
