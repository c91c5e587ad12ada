package user_test

import (
	"fmt"
	"slices"
	"strings"
	"testing"

	"filespace/api"
	"filespace/sample"
	"filespace/user"
)

// three returns the list of the chapter's examples.
func three() []api.User {
	return []api.User{{Name: "adm", Leader: "ann", Members: []string{"ann", "bob"}}, {Name: "ann"}, {Name: "bob"}}
}

// threeText is the text of three.
const threeText = "adm:ann:ann,bob\nann::\nbob::\n"

// distinct returns n users with names that differ.
func distinct(n int) []api.User {
	var l []api.User
	for i := range n {
		l = append(l, api.User{Name: fmt.Sprintf("u%d", i)})
	}
	return l
}

// groups returns all users that have one of the names, one of the leaders and one of the lists of members.
func groups(names, leaders []string, members [][]string) []api.User {
	var all []api.User
	for _, name := range names {
		for _, leader := range leaders {
			for _, l := range members {
				all = append(all, api.User{Name: name, Leader: leader, Members: l})
			}
		}
	}
	return all
}

// lists returns lists of up to three users: valid ones, and with every error except ErrFull, alone and one after another.
func lists() [][]api.User {
	all := [][]api.User{nil, three()}
	users := groups([]string{"a", "b", "B"}, []string{"", "a", "c"}, [][]string{nil, {"a"}, {"a", "b"}, {"b", "a"}, {"a", "a"}, {"c"}})
	users = append(users, api.User{}, api.User{Leader: "B", Members: []string{""}}, api.User{Name: "c", Members: []string{"a", "b", "c"}})
	for _, u := range users {
		all = append(all, []api.User{u})
		for _, v := range users {
			all = append(all, []api.User{u, v})
			for _, w := range users {
				all = append(all, []api.User{u, v, w})
			}
		}
	}
	return all
}

// copyOf returns a list that shares nothing with l.
func copyOf(l []api.User) []api.User {
	var c []api.User
	for _, u := range l {
		c = append(c, api.User{Name: u.Name, Leader: u.Leader, Members: slices.Clone(u.Members)})
	}
	return c
}

// same reports whether two lists are equal; nil and empty members are.
func same(l, m []api.User) bool {
	return slices.EqualFunc(l, m, func(u, v api.User) bool {
		return u.Name == v.Name && u.Leader == v.Leader && slices.Equal(u.Members, v.Members)
	})
}

// isNameOfChapter follows the definition of a user name word by word.
func isNameOfChapter(s string) bool {
	if len(s) < 1 || len(s) > 32 || !strings.Contains("abcdefghijklmnopqrstuvwxyz", s[:1]) {
		return false
	}
	return strings.Trim(s, "abcdefghijklmnopqrstuvwxyz0123456789-_") == ""
}

// isUserOfChapter reports whether a text is the name of a user of the list.
func isUserOfChapter(l []api.User, name string) bool {
	return slices.ContainsFunc(l, func(u api.User) bool { return u.Name == name })
}

// checkOfChapter follows P5.2 clause by clause.
func checkOfChapter(l []api.User) api.Errno {
	if len(l) > 64 {
		return api.ErrFull
	}
	for i, u := range l {
		if !isNameOfChapter(u.Name) {
			return api.ErrUser
		}
		if isUserOfChapter(l[:i], u.Name) {
			return api.ErrExist
		}
		if u.Leader != "" && !isUserOfChapter(l, u.Leader) {
			return api.ErrGroup
		}
		for _, m := range u.Members {
			if !isUserOfChapter(l, m) {
				return api.ErrGroup
			}
		}
		if !slices.IsSorted(u.Members) || len(slices.Compact(slices.Clone(u.Members))) != len(u.Members) {
			return api.ErrGroup
		}
	}
	return api.OK
}

// parseOfChapter follows P5.7 clause by clause, on lines that are cut byte by byte.
func parseOfChapter(s string) ([]api.User, int, api.Errno) {
	lines := []string{""}
	for i := range len(s) {
		lines[len(lines)-1] += s[i : i+1]
		if s[i] == '\n' {
			lines = append(lines, "")
		}
	}
	if lines[len(lines)-1] == "" {
		lines = lines[:len(lines)-1]
	}
	var l []api.User
	for i, line := range lines {
		if line[len(line)-1] != '\n' || strings.Count(line, ":") != 2 {
			return nil, i, api.ErrForm
		}
		first, last := strings.Index(line, ":"), strings.LastIndex(line, ":")
		u := api.User{Name: line[:first], Leader: line[first+1 : last]}
		members := line[last+1 : len(line)-1]
		if strings.Contains(","+members+",", ",,") && members != "" {
			return nil, i, api.ErrForm
		}
		u.Members = strings.FieldsFunc(members, func(r rune) bool { return r == ',' })
		l = append(l, u)
	}
	if e := checkOfChapter(l); e != api.OK {
		return nil, len(lines), e
	}
	return l, 0, api.OK
}

// checkParse reports a result of Parse that is not the wanted one.
func checkParse(t *testing.T, s string, want []api.User, line int, e api.Errno) {
	t.Helper()
	if l, i, f := user.Parse(s); !same(l, want) || i != line || f != e {
		t.Errorf("Parse(%.200q) is %v, %d, %d", s, l, i, f)
	}
}

// TestValid checks P5.1.
func TestValid(t *testing.T) {
	for _, s := range []string{"a", "z", "ann", "ann-2", "a_b", "a-", "a_", "a--", "a9", "a0", "none", strings.Repeat("a", 31), strings.Repeat("z", 32), "a" + strings.Repeat("-", 31)} {
		if !user.Valid(s) {
			t.Errorf("Valid(%q) is false", s)
		}
	}
	for _, s := range []string{"", "2ann", "Ann", "-a", "_a", "0", "-", "_", "a.b", "a b", " a", "a ", "a:b", "a,b", "a\n", "a\x00", "aB", "annA", "é", "aé", "a\xff", "\xffa", strings.Repeat("a", 33), strings.Repeat("a", 32) + "\n", strings.Repeat("a", 1<<20)} {
		if user.Valid(s) {
			t.Errorf("Valid(%.80q) is true", s)
		}
	}
}

// TestValidOfEveryByte checks for every byte, at each place of a name, whether P5.1 takes it.
func TestValidOfEveryByte(t *testing.T) {
	for i := range 256 {
		b := string([]byte{byte(i)})
		for _, s := range []string{b, b + "x", "x" + b, "x" + b + "x", strings.Repeat("x", 31) + b} {
			if user.Valid(s) != isNameOfChapter(s) {
				t.Errorf("Valid(%q) is %v", s, user.Valid(s))
			}
		}
	}
}

// TestCheck checks the lists of P5.2 that are valid.
func TestCheck(t *testing.T) {
	for _, l := range [][]api.User{
		nil,
		{},
		{{Name: "ann"}},
		{{Name: "ann", Leader: "ann"}},
		{{Name: "ann", Leader: "ann", Members: []string{"ann"}}},
		{{Name: "ann", Members: []string{}}},
		{{Name: "b"}, {Name: "a"}},
		{{Name: "a", Leader: "b", Members: []string{"b"}}, {Name: "b", Leader: "a", Members: []string{"a"}}},
		{{Name: "adm", Leader: "ann", Members: []string{"bob"}}, {Name: "ann"}, {Name: "bob"}},
		{{Name: "adm", Members: []string{"a", "a-", "a0", "a_", "aa", "adm"}}, {Name: "aa"}, {Name: "a_"}, {Name: "a0"}, {Name: "a-"}, {Name: "a"}},
		three(),
		distinct(64),
	} {
		if e := user.Check(l); e != api.OK {
			t.Errorf("Check(%v) is %d", l, e)
		}
	}
}

// TestCheckErrors checks every error of P5.2, and of two errors the one that comes first.
func TestCheckErrors(t *testing.T) {
	long := strings.Repeat("a", 33)
	for _, x := range []struct {
		l []api.User
		e api.Errno
	}{
		{[]api.User{{}}, api.ErrUser},
		{[]api.User{{Name: "Ann"}}, api.ErrUser},
		{[]api.User{{Name: long}}, api.ErrUser},
		{[]api.User{{Name: "ann"}, {Name: "a:b"}}, api.ErrUser},
		{[]api.User{{Name: "ann"}, {Name: "ann"}}, api.ErrExist},
		{[]api.User{{Name: "ann"}, {Name: "bob"}, {Name: "ann"}}, api.ErrExist},
		{[]api.User{{Name: "adm", Leader: "ann"}}, api.ErrGroup},
		{[]api.User{{Name: "adm"}, {Name: "ann", Leader: "Ann"}}, api.ErrGroup},
		{[]api.User{{Name: "adm", Members: []string{"ann"}}}, api.ErrGroup},
		{[]api.User{{Name: "adm", Members: []string{""}}}, api.ErrGroup},
		{[]api.User{{Name: "adm", Members: []string{"adm", "ann"}}}, api.ErrGroup},
		{[]api.User{{Name: "a", Members: []string{"b", "a"}}, {Name: "b"}}, api.ErrGroup},
		{[]api.User{{Name: "a", Members: []string{"a", "a"}}}, api.ErrGroup},
		{[]api.User{{Name: "a", Members: []string{"a", "b", "b"}}, {Name: "b"}}, api.ErrGroup},
		// An error of one user comes before all errors of a later one.
		{[]api.User{{Name: "a", Members: []string{"x"}}, {Name: "A"}}, api.ErrGroup},
		{[]api.User{{Name: "a", Leader: "x"}, {Name: "a"}}, api.ErrGroup},
		{[]api.User{{Name: "a"}, {Name: "a"}, {Name: "A"}}, api.ErrExist},
		{[]api.User{{Name: "A"}, {Name: "a"}, {Name: "a", Leader: "x"}}, api.ErrUser},
		// The errors of one user have the chapter's order.
		{[]api.User{{Name: "A", Leader: "x", Members: []string{"y"}}}, api.ErrUser},
		{[]api.User{{Name: "a"}, {Name: "a", Leader: "x", Members: []string{"y"}}}, api.ErrExist},
		// A name that is not valid is the name of a user of the list; the error is that of this user.
		{[]api.User{{Name: "a", Leader: "A", Members: []string{"A"}}, {Name: "A"}}, api.ErrUser},
		{[]api.User{{Name: "a", Members: []string{""}}, {Name: ""}}, api.ErrUser},
		{[]api.User{{Name: "A"}, {Name: "A"}}, api.ErrUser},
	} {
		if e := user.Check(x.l); e != x.e {
			t.Errorf("Check(%v) is %d, not %d", x.l, e, x.e)
		}
	}
}

// TestCheckLimit checks both sides of the limit of P5.2, and that its ErrFull comes first.
func TestCheckLimit(t *testing.T) {
	for n, want := range map[int]api.Errno{63: api.OK, 64: api.OK, 65: api.ErrFull, 66: api.ErrFull, 1000: api.ErrFull} {
		if e := user.Check(distinct(n)); e != want {
			t.Errorf("Check of %d users is %d", n, e)
		}
	}
	for _, u := range []api.User{{}, {Name: "u1"}, {Name: "x", Leader: "y"}, {Name: "x", Members: []string{"y"}}} {
		l := distinct(65)
		l[0] = u
		if e := user.Check(l); e != api.ErrFull {
			t.Errorf("Check of 65 users that begin with %v is %d", u, e)
		}
		if e := user.Check(l[:64]); e != checkOfChapter(l[:64]) || e == api.OK {
			t.Errorf("Check of 64 users that begin with %v is %d", u, e)
		}
	}
}

// TestCheckOfManyLists checks P5.2 against its clauses.
func TestCheckOfManyLists(t *testing.T) {
	count := map[api.Errno]int{}
	for _, l := range lists() {
		e := user.Check(l)
		if e != checkOfChapter(l) {
			t.Errorf("Check(%v) is %d", l, e)
		}
		count[e]++
	}
	for _, e := range []api.Errno{api.OK, api.ErrUser, api.ErrExist, api.ErrGroup} {
		if count[e] < 100 {
			t.Errorf("only %d lists lead to %d", count[e], e)
		}
	}
}

// TestFind checks P5.3.
func TestFind(t *testing.T) {
	l := append(three(), api.User{Name: "ann", Leader: "bob", Members: []string{"adm"}}, api.User{Name: "", Leader: "x"}, api.User{Name: "Eve"})
	for name, i := range map[string]int{"adm": 0, "ann": 1, "bob": 2, "": 4, "Eve": 5} {
		if u, ok := user.Find(l, name); !ok || !same([]api.User{u}, l[i:i+1]) {
			t.Errorf("Find of %q is %v, %v", name, u, ok)
		}
	}
	for _, name := range []string{"eve", "an", "annn", "a", "x", "ann,bob", "ann\x00"} {
		if u, ok := user.Find(l, name); ok || !same([]api.User{u}, []api.User{{}}) {
			t.Errorf("Find of %q is %v, %v", name, u, ok)
		}
	}
	if u, ok := user.Find(nil, ""); ok || u.Name != "" {
		t.Errorf("Find in no list is %v, %v", u, ok)
	}
}

// TestFindIsNew checks that the user of P5.3 shares no memory with the list, spare capacity included.
func TestFindIsNew(t *testing.T) {
	l := three()
	l[0].Members = append(make([]string, 0, 8), "ann", "bob")
	u, _ := user.Find(l, "adm")
	u.Members[0] = "changed"
	u.Members = append(u.Members, "added")
	if all := l[0].Members[:3]; !slices.Equal(all, []string{"ann", "bob", ""}) {
		t.Errorf("the list has %q", all)
	}
}

// TestMember checks P5.4.
func TestMember(t *testing.T) {
	l := []api.User{
		{Name: "adm", Members: []string{"ann"}},
		{Name: "ann"},
		{Name: "ops", Leader: "eve", Members: []string{"adm", "bob"}},
		{Name: "ops", Members: []string{"late"}},
		{Name: "", Members: []string{"x"}},
	}
	for _, x := range []struct {
		user, group string
		want        bool
	}{
		{"ann", "adm", true},
		{"ann", "ann", true},
		{"ann", "ops", false},
		{"adm", "ann", false},
		{"adm", "adm", true},
		{"adm", "ops", true},
		{"bob", "ops", true},
		// Membership is not inherited, and a leader is not a member.
		{"eve", "ops", false},
		// Of two users with a name the first one counts.
		{"late", "ops", false},
		{"ops", "ops", true},
		// Every text is a member of the group with the same text.
		{"nobody", "nobody", true},
		{"", "", true},
		{"A:B", "A:B", true},
		{"nobody", "adm", false},
		{"ann", "nobody", false},
		{"ann", "", false},
		{"x", "", true},
		{"", "adm", false},
		{"an", "adm", false},
		{"ann", "ad", false},
	} {
		if user.Member(l, x.user, x.group) != x.want {
			t.Errorf("Member of %q in %q is %v", x.user, x.group, !x.want)
		}
	}
	if user.Member(nil, "a", "b") || !user.Member(nil, "a", "a") {
		t.Error("Member in no list is wrong")
	}
}

// TestMemberOfTheExample checks every pair of the example of P5.4.
func TestMemberOfTheExample(t *testing.T) {
	l := []api.User{{Name: "adm", Members: []string{"ann"}}, {Name: "ann"}}
	for _, u := range []string{"adm", "ann", "bob"} {
		for _, g := range []string{"adm", "ann", "bob"} {
			if want := u == g || u == "ann" && g == "adm"; user.Member(l, u, g) != want {
				t.Errorf("Member of %q in %q is %v", u, g, !want)
			}
		}
	}
}

// TestLeads checks P5.5.
func TestLeads(t *testing.T) {
	l := []api.User{
		{Name: "adm", Leader: "ann", Members: []string{"bob"}},
		{Name: "ann"},
		{Name: "bob"},
		{Name: "ops", Members: []string{"ann", "bob"}},
		{Name: "eve", Leader: "eve"},
		{Name: "joe", Leader: "bob", Members: []string{"ann", "joe"}},
		{Name: "adm", Leader: "late"},
		{Name: "ops", Leader: "late"},
		{Name: "", Leader: "x"},
	}
	for _, x := range []struct {
		user, group string
		want        bool
	}{
		{"ann", "adm", true},
		{"bob", "adm", false},
		{"adm", "adm", false},
		{"bob", "bob", true},
		{"ann", "bob", false},
		{"adm", "bob", false},
		// Without a leader all members lead.
		{"ann", "ops", true},
		{"bob", "ops", true},
		{"ops", "ops", true},
		{"eve", "ops", false},
		{"eve", "eve", true},
		{"ann", "eve", false},
		// With a leader neither the members nor the user of the group lead.
		{"bob", "joe", true},
		{"joe", "joe", false},
		{"ann", "joe", false},
		// Of two users with a name the first one counts.
		{"late", "adm", false},
		{"late", "ops", false},
		{"nobody", "nobody", true},
		{"ann", "nobody", false},
		{"x", "", true},
		{"", "", false},
		{"", "adm", false},
		{"", "ops", false},
	} {
		if user.Leads(l, x.user, x.group) != x.want {
			t.Errorf("Leads of %q in %q is %v", x.user, x.group, !x.want)
		}
	}
	if user.Leads(nil, "a", "b") || !user.Leads(nil, "a", "a") || !user.Leads(nil, "", "") {
		t.Error("Leads in no list is wrong")
	}
}

// TestPrint checks the texts of P5.6.
func TestPrint(t *testing.T) {
	for _, x := range []struct {
		l    []api.User
		text string
	}{
		{nil, ""},
		{three(), threeText},
		{[]api.User{{Name: "a"}}, "a::\n"},
		{[]api.User{{Name: "a", Leader: "a"}}, "a:a:\n"},
		{[]api.User{{Name: "a", Members: []string{"a"}}}, "a::a\n"},
		{[]api.User{{Name: "b"}, {Name: "a", Leader: "b", Members: []string{"a", "b", "c"}}, {Name: "c"}}, "b::\na:b:a,b,c\nc::\n"},
	} {
		if s, e := user.Print(x.l); s != x.text || e != api.OK {
			t.Errorf("Print(%v) is %q, %d", x.l, s, e)
		}
	}
}

// TestPrintErrors checks that the errors of P5.6 are those of Check.
func TestPrintErrors(t *testing.T) {
	failed := 0
	for _, l := range append(lists(), distinct(65)) {
		want := checkOfChapter(l)
		s, e := user.Print(l)
		if e != want || e != api.OK && s != "" {
			t.Errorf("Print(%v) is %q, %d", l, s, e)
		}
		if e != api.OK {
			failed++
		}
	}
	if failed < 1000 {
		t.Errorf("only %d lists lead to an error", failed)
	}
}

// TestParse checks the lists of P5.7.
func TestParse(t *testing.T) {
	checkParse(t, "", nil, 0, api.OK)
	checkParse(t, threeText, three(), 0, api.OK)
	checkParse(t, "a::\n", []api.User{{Name: "a"}}, 0, api.OK)
	checkParse(t, "a:a:a\n", []api.User{{Name: "a", Leader: "a", Members: []string{"a"}}}, 0, api.OK)
	checkParse(t, "a:b:a,b\nb::\n", []api.User{{Name: "a", Leader: "b", Members: []string{"a", "b"}}, {Name: "b"}}, 0, api.OK)
}

// TestParseForm checks the ErrForm of P5.7 and its line, also behind lines of which Check would report an error.
func TestParseForm(t *testing.T) {
	for s, line := range map[string]int{
		"\n": 0, "a": 0, "a::": 0, ":": 0, ":\n": 0, "a:\n": 0, "a:::\n": 0, "a::a:\n": 0, "ann\n": 0, ",,\n": 0,
		"a::,\n": 0, "a::a,\n": 0, "a::,a\n": 0, "a::a,,b\n": 0, "a::,,\n": 0, "a::a,": 0,
		"adm::\nann:\n": 1, "adm::\n\n": 1, "adm::\nann::": 1, "adm::\n\nann::\n": 1, "adm::\nann::,\nbob\n": 1,
		"Adm::\nann\n": 1, "adm::\nadm::\nx": 2, "adm:x:\nadm::y\n\n": 2, "::\n:::\n": 1, "adm::eve\nann": 1,
		strings.Repeat("a::\n", 65) + "b": 65, strings.Repeat("a::\n", 64) + "\n" + strings.Repeat("a::\n", 64): 64,
	} {
		checkParse(t, s, nil, line, api.ErrForm)
	}
}

// TestParseCheck checks the errors of P5.7 that Check reports: their line is behind the last one.
func TestParseCheck(t *testing.T) {
	for _, x := range []struct {
		s    string
		line int
		e    api.Errno
	}{
		{"Adm::\n", 1, api.ErrUser},
		{"::\n", 1, api.ErrUser},
		{" a::\n", 1, api.ErrUser},
		{"a\r::\n", 1, api.ErrUser},
		{"a,b::\n", 1, api.ErrUser},
		{"a::\nB::\nc::\n", 3, api.ErrUser},
		{"adm::\nadm::\n", 2, api.ErrExist},
		{"adm:ann:\n", 1, api.ErrGroup},
		{"adm:,:\n", 1, api.ErrGroup},
		{"adm::eve\n", 1, api.ErrGroup},
		{"adm::adm,adm\n", 1, api.ErrGroup},
		{"adm::adm,aaa\naaa::\n", 2, api.ErrGroup},
		{"adm::adm\r\n", 1, api.ErrGroup},
		{"adm:x:\nAdm::\n", 2, api.ErrGroup},
		{strings.Repeat("a::\n", 64), 64, api.ErrExist},
		{strings.Repeat("a::\n", 65), 65, api.ErrFull},
		{strings.Repeat("::\n", 1000), 1000, api.ErrFull},
	} {
		checkParse(t, x.s, nil, x.line, x.e)
	}
}

// TestParseOfManyTexts checks P5.7 against its clauses, and the second half of P5.8.
func TestParseOfManyTexts(t *testing.T) {
	parsed := 0
	for _, s := range sample.Words([]string{"a", "b", "A", ":", "::", ",", "\n"}, 7) {
		want, line, e := parseOfChapter(s)
		checkParse(t, s, want, line, e)
		l, _, e := user.Parse(s)
		if e != api.OK {
			continue
		}
		parsed++
		if text, f := user.Print(l); user.Check(l) != api.OK || text != s || f != api.OK {
			t.Errorf("Print of Parse(%q) is %q, %d", s, text, f)
		}
	}
	if parsed < 50 {
		t.Errorf("only %d texts were parsed", parsed)
	}
}

// TestParseOfPrint checks the first half of P5.8.
func TestParseOfPrint(t *testing.T) {
	full := distinct(64)
	names := []string{}
	for _, u := range full {
		names = append(names, u.Name)
	}
	slices.Sort(names)
	for i := range full {
		full[i].Leader, full[i].Members = names[i], names[i:]
	}
	for _, l := range append(lists(), distinct(64), full) {
		if user.Check(l) != api.OK {
			continue
		}
		s, _ := user.Print(l)
		checkParse(t, s, l, 0, api.OK)
	}
}

// TestParseIsNew checks that no two users of P5.7 share the memory of their members.
func TestParseIsNew(t *testing.T) {
	l, _, _ := user.Parse("a::a,b\nb::a,b\n")
	l[0].Members[1] = "changed"
	_ = append(l[0].Members, "added")
	if !slices.Equal(l[1].Members, []string{"a", "b"}) {
		t.Errorf("the other user has the members %q", l[1].Members)
	}
}

// TestGroups checks P5.9.
func TestGroups(t *testing.T) {
	led := 0
	for _, l := range lists() {
		names := map[string]bool{"nobody": true}
		for _, u := range l {
			names[u.Name] = true
		}
		for name := range names {
			if !user.Member(l, name, name) {
				t.Errorf("%q is no member of the own group in %v", name, l)
			}
		}
		if user.Check(l) != api.OK {
			continue
		}
		for _, g := range l {
			leaders := 0
			for name := range names {
				if user.Leads(l, name, g.Name) {
					leaders++
				}
			}
			if g.Leader != "" && leaders != 1 {
				t.Errorf("%q has %d leaders in %v", g.Name, leaders, l)
			}
			if g.Leader != "" {
				led++
			}
		}
	}
	if led < 100 {
		t.Errorf("only %d groups have a leader", led)
	}
}

// TestArgumentsAreKept checks that no call changes a list.
func TestArgumentsAreKept(t *testing.T) {
	for _, l := range append(lists(), distinct(65)) {
		before := copyOf(l)
		user.Check(l)
		user.Find(l, "a")
		user.Member(l, "a", "b")
		user.Leads(l, "a", "b")
		user.Print(l)
		if !same(l, before) {
			t.Errorf("%v became %v", before, l)
		}
	}
}
