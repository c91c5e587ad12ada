package tree_test

import (
	"fmt"
	"math"
	"slices"
	"strings"
	"testing"

	"filespace/api"
	"filespace/tree"
)

// The greatest name, and a text that is one byte longer.
var (
	longest = strings.Repeat("n", 64)
	tooLong = strings.Repeat("n", 65)
)

// small is a tree with files of every mode, a name in two directories, an empty directory, and Ids that are not used any more.
func small() api.Tree {
	return api.Tree{Next: 12, Nodes: []api.Node{
		{Id: 1, Parent: 1, Vers: 5, Name: "/", Mode: dirBit + 493, Uid: "adm", Gid: "adm", Muid: "ann", Atime: 1, Mtime: 2},
		{Id: 2, Parent: 1, Vers: 3, Name: "d", Mode: dirBit + 511, Uid: "ann", Gid: "grp", Muid: "bob", Atime: 3, Mtime: 4},
		{Id: 3, Parent: 2, Vers: 1, Name: "f", Mode: 420, Uid: "ann", Gid: "adm", Muid: "bob", Atime: 5, Mtime: 6, Data: "hello"},
		{Id: 5, Parent: 1, Vers: 2, Name: "log", Mode: appendBit + 420, Uid: "bob", Gid: "bob", Muid: "bob", Atime: 7, Mtime: 8, Data: "abc"},
		{Id: 6, Parent: 1, Name: "lock", Mode: exclBit + 384, Uid: "bob", Gid: "bob", Muid: "bob", Atime: 9, Mtime: 9},
		{Id: 7, Parent: 2, Name: "empty", Mode: dirBit, Uid: "ann", Gid: "ann", Muid: "ann", Atime: 10, Mtime: 10},
		{Id: 9, Parent: 1, Name: "f", Mode: appendBit + exclBit + 511, Uid: "", Gid: "", Muid: "", Atime: 11, Mtime: 11},
		{Id: 10, Parent: 2, Name: "e", Mode: dirBit + 448, Uid: "ann", Gid: "ann", Muid: "ann", Atime: 12, Mtime: 12},
		{Id: 11, Parent: 10, Name: "f", Mode: 0, Uid: "ann", Gid: "ann", Muid: "ann", Atime: 13, Mtime: 13, Data: "\x00\xff"},
	}}
}

// greatest is a tree in which every value is the greatest that is valid.
func greatest() api.Tree {
	long := func(id, parent, mode int, name, data string) api.Node {
		return api.Node{Id: id, Parent: parent, Vers: maxVers, Name: name, Mode: mode, Uid: longest, Gid: longest, Muid: longest, Atime: maxTime, Mtime: maxTime, Data: data}
	}
	return api.Tree{Next: maxNode + 1, Nodes: []api.Node{
		long(1, 1, dirBit+511, "/", ""),
		long(maxNode-3, 1, dirBit+511, longest, ""),
		long(maxNode-2, maxNode-3, 511, longest, strings.Repeat("x", maxFile)),
		long(maxNode-1, maxNode-3, appendBit+511, "...", strings.Repeat("x", maxFile)),
		long(maxNode, maxNode-3, appendBit+exclBit+511, "~", strings.Repeat("x", maxFile-1)),
	}}
}

// wide is a tree of n nodes, all of them in the root.
func wide(n int) api.Tree {
	t := newOfChapter("adm", 511, 1)
	for id := 2; id <= n; id++ {
		t.Nodes = append(t.Nodes, api.Node{Id: id, Parent: 1, Name: fmt.Sprint("f", id), Mode: 420})
	}
	t.Next = n + 1
	return t
}

// deep is a tree of n directories with the longest names, each in the one before it.
func deep(n int) api.Tree {
	t := newOfChapter("adm", 511, 1)
	for id := 2; id <= n; id++ {
		t.Nodes = append(t.Nodes, api.Node{Id: id, Parent: id - 1, Name: fmt.Sprintf("%064d", id), Mode: dirBit + 511})
	}
	t.Next = n + 1
	return t
}

// fewNodes are valid trees of few nodes, for which many calls can be tried.
func fewNodes() []api.Tree {
	return []api.Tree{newOfChapter("", 0, 0), newOfChapter("adm", 493, 5), small(), greatest(), wide(3), deep(12)}
}

// trees are valid trees, also of many nodes.
func trees() []api.Tree {
	return append(fewNodes(), wide(maxNodes), wide(maxNodes-1), deep(40))
}

// idsOf returns numbers that are Ids of a tree, and numbers around that are not.
func idsOf(t api.Tree) []int {
	l := []int{math.MinInt, -1, 0, t.Next, t.Next + 1, maxNode, maxNode + 1, math.MaxInt}
	for i, n := range t.Nodes {
		if i < 10 || i > len(t.Nodes)-3 {
			l = append(l, n.Id, n.Id+1)
		}
	}
	slices.Sort(l)
	return slices.Compact(l)
}

// mark is a node that is in no tree: a test recognizes where it was overwritten, or where it has got to.
var mark = api.Node{Id: -7, Parent: -7, Name: "mark"}

// withSpare returns a tree whose list has spare capacity, with marks in it.
func withSpare(t api.Tree) api.Tree {
	nodes := append(slices.Clone(t.Nodes), mark, mark, mark)
	return api.Tree{Next: t.Next, Nodes: nodes[:len(t.Nodes)]}
}

// call is a call of a function with some tree.
type call func(t api.Tree) outcome

// check reports a call that does not have the wanted outcome, changes its argument, or returns a tree that is not valid or shares memory with the argument.
func check(t *testing.T, name string, x api.Tree, f call, want outcome) {
	t.Helper()
	passed := withSpare(x)
	got := f(passed)
	if !got.same(want) {
		t.Errorf("%s is %s, want %s", name, show(got), show(want))
	}
	if len(want.t.Nodes) > 0 && !tree.Right(got.t) {
		t.Errorf("%s returns a tree that is not valid: %s", name, show(got))
	}
	returned := got.t.Nodes[:cap(got.t.Nodes)]
	for i := range returned {
		returned[i] = mark
	}
	rest := passed.Nodes[len(x.Nodes):cap(passed.Nodes)]
	if passed.Next != x.Next || !slices.Equal(passed.Nodes, x.Nodes) || !slices.Equal(rest[:3], []api.Node{mark, mark, mark}) {
		t.Errorf("%s changes its argument", name)
	}
}

// show returns the beginning of the text of an outcome.
func show(o outcome) string {
	return fmt.Sprintf("%.600s", fmt.Sprintf("%+v", o))
}

func find(dir int, name string) call {
	return func(t api.Tree) outcome {
		id, e := tree.Find(t, dir, name)
		return outcome{n: id, e: e}
	}
}

func create(dir int, name string, mode int, uid, gid string, now int) call {
	return func(t api.Tree) outcome {
		u, id, e := tree.Create(t, dir, name, mode, uid, gid, now)
		return outcome{t: u, n: id, e: e}
	}
}

func remove(id int, uid string, now int) call {
	return func(t api.Tree) outcome {
		u, e := tree.Remove(t, id, uid, now)
		return outcome{t: u, e: e}
	}
}

func read(id, offset, count int) call {
	return func(t api.Tree) outcome {
		s, e := tree.Read(t, id, offset, count)
		return outcome{text: s, e: e}
	}
}

func write(id, offset int, data, uid string, now int) call {
	return func(t api.Tree) outcome {
		u, n, e := tree.Write(t, id, offset, data, uid, now)
		return outcome{t: u, n: n, e: e}
	}
}

func resize(id, length int, uid string, now int) call {
	return func(t api.Tree) outcome {
		u, e := tree.Resize(t, id, length, uid, now)
		return outcome{t: u, e: e}
	}
}

func rename(id int, name, uid string, now int) call {
	return func(t api.Tree) outcome {
		u, e := tree.Rename(t, id, name, uid, now)
		return outcome{t: u, e: e}
	}
}

func attrs(id, mode int, gid string, mtime int) call {
	return func(t api.Tree) outcome {
		u, e := tree.Attrs(t, id, mode, gid, mtime)
		return outcome{t: u, e: e}
	}
}

func pathOf(id int) call {
	return func(t api.Tree) outcome {
		s, e := tree.Path(t, id)
		return outcome{text: s, e: e}
	}
}

// with returns a tree in which some nodes are other ones; nodes with new Ids are added at the end.
func with(t api.Tree, nodes ...api.Node) api.Tree {
	l := slices.Clone(t.Nodes)
	for _, n := range nodes {
		if i := slices.IndexFunc(l, func(m api.Node) bool { return m.Id == n.Id }); i >= 0 {
			l[i] = n
		} else {
			l = append(l, n)
		}
	}
	return api.Tree{Next: t.Next, Nodes: l}
}

// without returns a tree without the node at an index.
func without(t api.Tree, i int) api.Tree {
	return api.Tree{Next: t.Next, Nodes: slices.Delete(slices.Clone(t.Nodes), i, i+1)}
}

// changed returns a node that was changed once.
func changed(n api.Node, uid string, now int) api.Node {
	n.Vers, n.Muid, n.Mtime = n.Vers+1, uid, now
	return n
}

// withData returns a node with other contents.
func withData(n api.Node, data string) api.Node {
	n.Data = data
	return n
}

// withName returns a node with another name.
func withName(n api.Node, name string) api.Node {
	n.Name = name
	return n
}

// checkErrors reports calls for the small tree that do not have the wanted error and leave the tree as it is.
func checkErrors(t *testing.T, name string, calls []call, want api.Errno) {
	t.Helper()
	for i, f := range calls {
		check(t, fmt.Sprint(name, " ", i), small(), f, outcome{t: small(), e: want})
	}
}

// TestNew checks P10.1.
func TestNew(t *testing.T) {
	want := api.Tree{Next: 2, Nodes: []api.Node{{Id: 1, Parent: 1, Name: "/", Mode: dirBit + 493, Uid: "adm", Gid: "adm", Muid: "adm", Atime: 5, Mtime: 5}}}
	check(t, "New", api.Tree{}, func(api.Tree) outcome { return outcome{t: tree.New("adm", 493, 5)} }, outcome{t: want})
}

// TestNewModes checks that P10.1 takes every number as permissions, modulo 512.
func TestNewModes(t *testing.T) {
	perms := map[int]int{0: 0, 1: 1, 511: 511, 512: 0, 513: 1, 1023: 511, -1: 511, -2: 510, -511: 1, -512: 0, -513: 511, dirBit: 0, dirBit + 7: 7, math.MaxInt: 511, math.MinInt: 0, math.MinInt + 3: 3}
	for perm, want := range perms {
		if n, _ := tree.Node(tree.New("adm", perm, 5), 1); n.Mode != dirBit+want {
			t.Errorf("New with the permissions %d has the mode %d", perm, n.Mode)
		}
	}
	for perm := -1100; perm <= 1100; perm++ {
		got, want := outcome{t: tree.New("adm", perm, 5)}, outcome{t: newOfChapter("adm", perm, 5)}
		if !got.same(want) {
			t.Errorf("New with the permissions %d is %s", perm, show(got))
		}
	}
}

// TestNewLimits checks the time and the user of P10.1 at the limits, and beyond them.
func TestNewLimits(t *testing.T) {
	times := map[int]int{math.MinInt: 0, -1: 0, 0: 0, 1: 1, maxTime - 1: maxTime - 1, maxTime: maxTime, maxTime + 1: maxTime, math.MaxInt: maxTime}
	for now, want := range times {
		if n, _ := tree.Node(tree.New("adm", 493, now), 1); n.Atime != want || n.Mtime != want {
			t.Errorf("New at the time %d has the times %d and %d", now, n.Atime, n.Mtime)
		}
	}
	uids := map[string]string{"": "", "a": "a", "No user/\x00\xff": "No user/\x00\xff", longest: longest, tooLong: "", strings.Repeat("a", 1<<20): ""}
	for uid, want := range uids {
		x := tree.New(uid, 493, 5)
		if n, _ := tree.Node(x, 1); n.Uid != want || n.Gid != want || n.Muid != want || !tree.Right(x) {
			t.Errorf("New of %.70q has the user %q, the group %q and the last modifier %q", uid, n.Uid, n.Gid, n.Muid)
		}
	}
}

// TestNode checks P10.3.
func TestNode(t *testing.T) {
	for _, x := range trees() {
		for _, n := range x.Nodes {
			if m, ok := tree.Node(x, n.Id); m != n || !ok {
				t.Errorf("Node of %d is %v, %v", n.Id, m, ok)
			}
		}
	}
	for _, id := range []int{math.MinInt, -1, 0, 4, 8, 12, 13, math.MaxInt} {
		if m, ok := tree.Node(small(), id); m != (api.Node{}) || ok {
			t.Errorf("Node of %d is %v, %v", id, m, ok)
		}
	}
}

// TestFind checks P10.4.
func TestFind(t *testing.T) {
	for _, x := range []struct {
		dir  int
		name string
		id   int
		e    api.Errno
	}{
		{1, "d", 2, api.OK},
		{1, "log", 5, api.OK},
		{1, "f", 9, api.OK},
		{2, "f", 3, api.OK},
		{10, "f", 11, api.OK},
		{2, "e", 10, api.OK},
		{1, "..", 1, api.OK},
		{2, "..", 1, api.OK},
		{7, "..", 2, api.OK},
		{10, "..", 2, api.OK},
		{1, "/", 0, api.ErrNotExist},
		{1, ".", 0, api.ErrNotExist},
		{1, "", 0, api.ErrNotExist},
		{1, "e", 0, api.ErrNotExist},
		{1, "d/f", 0, api.ErrNotExist},
		{1, "D", 0, api.ErrNotExist},
		{1, "lo", 0, api.ErrNotExist},
		{1, "logs", 0, api.ErrNotExist},
		{7, "f", 0, api.ErrNotExist},
		{3, "f", 0, api.ErrNotDir},
		{3, "..", 0, api.ErrNotDir},
		{5, "", 0, api.ErrNotDir},
		{9, "..", 0, api.ErrNotDir},
		{4, "..", 0, api.ErrNotExist},
		{0, "d", 0, api.ErrNotExist},
		{-1, "", 0, api.ErrNotExist},
		{12, "f", 0, api.ErrNotExist},
	} {
		check(t, fmt.Sprintf("Find of %q in %d", x.name, x.dir), small(), find(x.dir, x.name), outcome{n: x.id, e: x.e})
	}
}

// TestFindInEvery checks P10.4 for every directory of the trees, with the names of all of their nodes.
func TestFindInEvery(t *testing.T) {
	for _, x := range trees() {
		names := []string{"", ".", "..", "/", "no", longest, tooLong}
		for i := 0; i < len(x.Nodes); i += 1 + len(x.Nodes)/20 {
			names = append(names, x.Nodes[i].Name)
		}
		for _, dir := range idsOf(x) {
			for _, name := range names {
				check(t, fmt.Sprintf("Find of %q in %d", name, dir), x, find(dir, name), findOfChapter(x, dir, name))
			}
		}
	}
}

// TestChildren checks P10.5.
func TestChildren(t *testing.T) {
	wanted := map[int][]int{1: {2, 5, 6, 9}, 2: {3, 7, 10}, 10: {11}, 7: nil, 3: nil, 5: nil, 11: nil, 4: nil, 0: nil, -1: nil, 12: nil, math.MinInt: nil, math.MaxInt: nil}
	x := small()
	for dir, want := range wanted {
		if l := tree.Children(x, dir); !slices.Equal(l, want) {
			t.Errorf("Children of %d are %v, want %v", dir, l, want)
		}
	}
	if l := tree.Children(tree.New("adm", 493, 5), 1); len(l) != 0 {
		t.Errorf("a new tree has the children %v", l)
	}
	l := tree.Children(wide(maxNodes), 1)
	if len(l) != maxNodes-1 || l[0] != 2 || l[len(l)-1] != maxNodes || !slices.IsSorted(l) {
		t.Errorf("a full tree has %d children", len(l))
	}
}

// TestCreate checks P10.6 for a file and for a directory.
func TestCreate(t *testing.T) {
	x := small()
	f := api.Node{Id: 12, Parent: 2, Name: "new", Mode: 420, Uid: "cat", Gid: "grp", Muid: "cat", Atime: 20, Mtime: 20}
	want := with(x, changed(x.Nodes[1], "cat", 20), f)
	want.Next = 13
	check(t, "Create of a file", x, create(2, "new", 420, "cat", "grp", 20), outcome{t: want, n: 12})

	d := api.Node{Id: 12, Parent: 1, Name: "..d", Mode: dirBit + 1, Atime: 0, Mtime: 0}
	want = with(x, changed(x.Nodes[0], "", 0), d)
	want.Next = 13
	check(t, "Create of a directory", x, create(1, "..d", dirBit+1, "", "", 0), outcome{t: want, n: 12})

	check(t, "the first Create", tree.New("adm", 493, 5), func(t api.Tree) outcome {
		_, id, e := tree.Create(t, 1, "f", 420, "ann", "adm", 6)
		return outcome{n: id, e: e}
	}, outcome{n: 2})
}

// TestCreateErrors checks the errors of P10.6, each one together with all those that are listed after it.
func TestCreateErrors(t *testing.T) {
	for _, dir := range []int{0, 4, 12, -1, math.MinInt, math.MaxInt} {
		checkErrors(t, "no directory", []call{create(dir, "", -1, "ann", "adm", 8), create(dir, "d", 420, "ann", "adm", 8)}, api.ErrNotExist)
	}
	for _, dir := range []int{3, 5, 6, 9, 11} {
		checkErrors(t, "a file", []call{create(dir, "", -1, "ann", "adm", 8), create(dir, "new", 420, "ann", "adm", 8)}, api.ErrNotDir)
	}
	for _, name := range []string{"", ".", "..", "/", "a/b", "/a", "a ", "a\x00", "\x7f", "é", tooLong, strings.Repeat("n", 1<<16)} {
		checkErrors(t, "no name", []call{create(1, name, -1, "ann", "adm", 8), create(1, name, 420, "ann", "adm", 8)}, api.ErrName)
	}
	for _, mode := range []int{-1, 512, 1 << 27, 1 << 28, dirBit + 512, dirBit + appendBit, dirBit + exclBit, dirBit + appendBit + exclBit, appendBit + 512, exclBit + 512, appendBit + exclBit + 512, 2 * dirBit, 2*dirBit + 420, dirBit - 1, math.MinInt, math.MinInt + 420, math.MinInt + dirBit, -dirBit, math.MaxInt} {
		checkErrors(t, "no mode", []call{create(1, "d", mode, "ann", "adm", 8), create(1, "new", mode, "ann", "adm", 8)}, api.ErrArg)
	}
	checkErrors(t, "a name in use", []call{create(1, "d", 420, "ann", "adm", 8), create(2, "f", dirBit, "ann", "adm", 8), create(10, "f", 420, "ann", "adm", 8)}, api.ErrExist)
}

// TestCreateFull checks the limits of P10.6: the last node that is created, and the order of the error after all others.
func TestCreateFull(t *testing.T) {
	full := wide(maxNodes)
	check(t, "Create in a full tree", full, create(1, "new", 420, "ann", "adm", 8), outcome{t: full, e: api.ErrFull})
	check(t, "Create of an old name", full, create(1, "f2", 420, "ann", "adm", 8), outcome{t: full, e: api.ErrExist})
	check(t, "Create in no directory", full, create(2, "new", 420, "ann", "adm", 8), outcome{t: full, e: api.ErrNotDir})
	y, id, e := tree.Create(wide(maxNodes-1), 1, "new", 420, "ann", "adm", 8)
	if id != maxNodes || e != api.OK || len(y.Nodes) != maxNodes || !tree.Right(y) {
		t.Errorf("Create of the last node returns %d, %d", id, e)
	}

	used := small()
	used.Next = maxNode + 1
	check(t, "Create without an Id", used, create(1, "new", 420, "ann", "adm", 8), outcome{t: used, e: api.ErrFull})
	check(t, "Create of an old name without an Id", used, create(1, "d", 420, "ann", "adm", 8), outcome{t: used, e: api.ErrExist})
	used.Next = maxNode
	y, id, e = tree.Create(used, 1, "new", 420, "ann", "adm", 8)
	if id != maxNode || e != api.OK || y.Next != maxNode+1 || !tree.Right(y) {
		t.Errorf("Create with the last Id returns %d, %d", id, e)
	}
}

// TestRemove checks P10.7: files and an empty directory are removed, and Next stays also if the node was the last one.
func TestRemove(t *testing.T) {
	x := small()
	for i, want := range map[int]api.Tree{
		2: with(x, changed(x.Nodes[1], "cat", 20)),
		3: with(x, changed(x.Nodes[0], "cat", 20)),
		5: with(x, changed(x.Nodes[1], "cat", 20)),
		8: with(x, changed(x.Nodes[7], "cat", 20)),
	} {
		id := x.Nodes[i].Id
		check(t, fmt.Sprint("Remove of ", id), x, remove(id, "cat", 20), outcome{t: without(want, i)})
	}
}

// TestRemoveErrors checks the errors of P10.7: the root has children, but is no directory that becomes empty.
func TestRemoveErrors(t *testing.T) {
	checkErrors(t, "no node", []call{remove(0, "ann", 8), remove(4, "ann", 8), remove(12, "ann", 8), remove(-1, "ann", 8), remove(math.MinInt, "ann", 8)}, api.ErrNotExist)
	checkErrors(t, "the root", []call{remove(1, "ann", 8)}, api.ErrArg)
	checkErrors(t, "children", []call{remove(2, "ann", 8), remove(10, "ann", 8)}, api.ErrNotEmpty)
	x := tree.New("adm", 493, 5)
	check(t, "Remove of an empty root", x, remove(1, "ann", 8), outcome{t: x, e: api.ErrArg})
}

// TestRead checks P10.8.
func TestRead(t *testing.T) {
	for _, x := range []struct {
		id, offset, count int
		text              string
	}{
		{3, 0, 5, "hello"},
		{3, 1, 2, "el"},
		{3, 0, 0, ""},
		{3, 0, 6, "hello"},
		{3, 4, 1, "o"},
		{3, 4, 9, "o"},
		{3, 5, 1, ""},
		{3, 6, 1, ""},
		{3, math.MaxInt, math.MaxInt, ""},
		{3, 1, math.MaxInt, "ello"},
		{3, 0, maxFile + 1, "hello"},
		{5, 1, 1, "b"},
		{6, 0, 1, ""},
		{11, 0, 2, "\x00\xff"},
	} {
		check(t, fmt.Sprint("Read ", x), small(), read(x.id, x.offset, x.count), outcome{text: x.text})
	}
	long := greatest().Nodes[2]
	for _, count := range []int{maxFile - 1, maxFile, maxFile + 1, math.MaxInt} {
		check(t, "Read of a long file", greatest(), read(long.Id, 0, count), outcome{text: long.Data[:min(count, maxFile)]})
	}
}

// TestReadErrors checks the errors of P10.8, each one together with all those that are listed after it.
func TestReadErrors(t *testing.T) {
	for _, x := range []struct {
		id int
		e  api.Errno
	}{{0, api.ErrNotExist}, {4, api.ErrNotExist}, {12, api.ErrNotExist}, {-1, api.ErrNotExist}, {1, api.ErrIsDir}, {2, api.ErrIsDir}, {7, api.ErrIsDir}, {3, api.ErrArg}, {5, api.ErrArg}, {6, api.ErrArg}} {
		for _, place := range [][2]int{{-1, 0}, {0, -1}, {-1, -1}, {math.MinInt, 1}, {1, math.MinInt}, {math.MaxInt, -1}} {
			check(t, fmt.Sprint("Read ", x.id, place), small(), read(x.id, place[0], place[1]), outcome{e: x.e})
		}
	}
	check(t, "Read of the root", small(), read(1, 0, 5), outcome{e: api.ErrIsDir})
	check(t, "Read of nothing", small(), read(4, 0, 5), outcome{e: api.ErrNotExist})
}

// TestWrite checks P10.9: before, across and after the end of a file, and at the end of one that is only appended to.
func TestWrite(t *testing.T) {
	x := small()
	for _, w := range []struct {
		i, offset  int
		data, text string
	}{
		{2, 0, "J", "Jello"},
		{2, 1, "--", "h--lo"},
		{2, 0, "world", "world"},
		{2, 4, "abc", "hellabc"},
		{2, 5, "!", "hello!"},
		{2, 6, "!", "hello\x00!"},
		{2, 8, "ab", "hello\x00\x00\x00ab"},
		{2, 0, "hello", "hello"},
		{3, 0, "d", "abcd"},
		{3, 1, "de", "abcde"},
		{3, 3, "d", "abcd"},
		{3, 10, "d", "abcd"},
		{3, math.MaxInt, "\x00", "abc\x00"},
		{4, 0, "\xff\x00", "\xff\x00"},
		{4, 2, "ab", "\x00\x00ab"},
		{6, 7, "z", "z"},
	} {
		n := changed(withData(x.Nodes[w.i], w.text), "cat", 20)
		check(t, fmt.Sprint("Write ", w), x, write(n.Id, w.offset, w.data, "cat", 20), outcome{t: with(x, n), n: len(w.data)})
	}
}

// TestWriteNothing checks that P10.9 changes nothing without data, wherever it is, and that there are errors without data, too.
func TestWriteNothing(t *testing.T) {
	for _, offset := range []int{0, 1, 5, 6, maxFile, maxFile + 1, math.MaxInt} {
		for _, id := range []int{3, 5, 6, 9, 11} {
			check(t, fmt.Sprint("Write of nothing at ", offset), small(), write(id, offset, "", "cat", 20), outcome{t: small()})
		}
		long := greatest()
		check(t, "Write of nothing to a long file", long, write(maxNode-2, offset, "", "cat", 20), outcome{t: long})
	}
	checkErrors(t, "nothing to a directory", []call{write(2, -1, "", "cat", 20)}, api.ErrIsDir)
	checkErrors(t, "nothing before the file", []call{write(3, -1, "", "cat", 20)}, api.ErrArg)
}

// TestWriteErrors checks the errors of P10.9, each one together with all those that are listed after it.
func TestWriteErrors(t *testing.T) {
	long := strings.Repeat("y", maxFile+1)
	for _, id := range []int{0, 4, 12, -1} {
		checkErrors(t, "no node", []call{write(id, -1, long, "ann", 8), write(id, 0, "a", "ann", 8)}, api.ErrNotExist)
	}
	for _, id := range []int{1, 2, 7} {
		checkErrors(t, "a directory", []call{write(id, -1, long, "ann", 8), write(id, 0, "a", "ann", 8)}, api.ErrIsDir)
	}
	for _, id := range []int{3, 5, 9} {
		checkErrors(t, "a negative offset", []call{write(id, -1, long, "ann", 8), write(id, math.MinInt, "a", "ann", 8)}, api.ErrArg)
		checkErrors(t, "long data", []call{write(id, 0, long, "ann", 8), write(id, math.MaxInt, long, "ann", 8)}, api.ErrLong)
	}
	checkErrors(t, "a place beyond the limit", []call{write(3, maxFile, "a", "ann", 8), write(3, maxFile-1, "ab", "ann", 8), write(3, maxFile+1, "a", "ann", 8), write(3, 1, long[1:], "ann", 8), write(3, math.MaxInt, "a", "ann", 8)}, api.ErrLong)
	checkErrors(t, "more than fits behind the end", []call{write(5, 0, long[4:]+"z", "ann", 8)}, api.ErrLong)
}

// TestWriteLimits checks the writes of P10.9 that just fit.
func TestWriteLimits(t *testing.T) {
	x := small()
	long := strings.Repeat("y", maxFile)
	for _, w := range []struct {
		i, offset  int
		data, text string
	}{
		{2, 0, long, long},
		{2, maxFile - 1, "a", "hello" + strings.Repeat("\x00", maxFile-6) + "a"},
		{2, maxFile - 2, "ab", "hello" + strings.Repeat("\x00", maxFile-7) + "ab"},
		{2, 2, long[2:], "he" + long[2:]},
		{3, 0, long[3:], "abc" + long[3:]},
		{3, maxFile, long[3:], "abc" + long[3:]},
	} {
		n := changed(withData(x.Nodes[w.i], w.text), "cat", 20)
		check(t, fmt.Sprintf("Write of %d bytes at %d", len(w.data), w.offset), x, write(n.Id, w.offset, w.data, "cat", 20), outcome{t: with(x, n), n: len(w.data)})
	}
	full := greatest()
	check(t, "Write behind the greatest length", full, write(maxNode-1, 0, "a", "cat", 20), outcome{t: full, e: api.ErrLong})
}

// TestResize checks P10.10.
func TestResize(t *testing.T) {
	x := small()
	for _, w := range []struct {
		i, length int
		text      string
	}{
		{2, 0, ""},
		{2, 1, "h"},
		{2, 4, "hell"},
		{2, 6, "hello\x00"},
		{2, 8, "hello\x00\x00\x00"},
		{2, maxFile, "hello" + strings.Repeat("\x00", maxFile-5)},
		{3, 2, "ab"},
		{3, 4, "abc\x00"},
		{4, 1, "\x00"},
		{8, 1, "\x00"},
		{8, 3, "\x00\xff\x00"},
	} {
		n := changed(withData(x.Nodes[w.i], w.text), "cat", 20)
		check(t, fmt.Sprint("Resize of ", n.Id, " to ", w.length), x, resize(n.Id, w.length, "cat", 20), outcome{t: with(x, n)})
	}
	for id, length := range map[int]int{3: 5, 5: 3, 6: 0, 9: 0, 11: 2} {
		check(t, fmt.Sprint("Resize of ", id, " to its length"), x, resize(id, length, "cat", 20), outcome{t: x})
	}
	full := greatest()
	check(t, "Resize to the greatest length", full, resize(maxNode-2, maxFile, "cat", 20), outcome{t: full})
}

// TestResizeErrors checks the errors of P10.10, each one together with all those that are listed after it.
func TestResizeErrors(t *testing.T) {
	for _, length := range []int{-1, math.MinInt, 0, 5, maxFile + 1, math.MaxInt} {
		checkErrors(t, "no node", []call{resize(0, length, "ann", 8), resize(4, length, "ann", 8), resize(12, length, "ann", 8)}, api.ErrNotExist)
		checkErrors(t, "a directory", []call{resize(1, length, "ann", 8), resize(2, length, "ann", 8), resize(7, length, "ann", 8)}, api.ErrIsDir)
	}
	checkErrors(t, "a negative length", []call{resize(3, -1, "ann", 8), resize(5, math.MinInt, "ann", 8)}, api.ErrArg)
	checkErrors(t, "a length above the limit", []call{resize(3, maxFile+1, "ann", 8), resize(5, math.MaxInt, "ann", 8)}, api.ErrLong)
}

// TestRename checks P10.11: of files and directories, to names that are new, and to names that other directories have.
func TestRename(t *testing.T) {
	x := small()
	for _, w := range []struct {
		i      int
		name   string
		parent int
	}{
		{2, "g", 1}, {2, "d", 1}, {1, "e", 0}, {1, longest, 0}, {3, "...", 0}, {5, "log", 1}, {7, "x", 1}, {8, "e", 7}, {8, "~", 7},
	} {
		n := withName(x.Nodes[w.i], w.name)
		check(t, fmt.Sprint("Rename of ", n.Id), x, rename(n.Id, w.name, "cat", 20), outcome{t: with(x, n, changed(x.Nodes[w.parent], "cat", 20))})
	}
	for _, n := range x.Nodes[1:] {
		check(t, fmt.Sprint("Rename of ", n.Id, " to its name"), x, rename(n.Id, n.Name, "cat", 20), outcome{t: x})
	}
}

// TestRenameErrors checks the errors of P10.11, each one together with all those that are listed after it.
func TestRenameErrors(t *testing.T) {
	for _, name := range []string{"", "..", "d", "f", "new", "/"} {
		checkErrors(t, "no node", []call{rename(0, name, "ann", 8), rename(4, name, "ann", 8), rename(12, name, "ann", 8), rename(-1, name, "ann", 8)}, api.ErrNotExist)
		checkErrors(t, "the root", []call{rename(1, name, "ann", 8)}, api.ErrArg)
	}
	for _, name := range []string{"", ".", "..", "/", "a/b", "a b", "\x00", "é", tooLong} {
		checkErrors(t, "no name", []call{rename(2, name, "ann", 8), rename(3, name, "ann", 8)}, api.ErrName)
	}
	checkErrors(t, "a name in use", []call{rename(2, "f", "ann", 8), rename(2, "log", "ann", 8), rename(9, "d", "ann", 8), rename(3, "e", "ann", 8), rename(10, "f", "ann", 8), rename(7, "e", "ann", 8)}, api.ErrExist)
}

// TestAttrs checks P10.12: each attribute alone, all at once, and none.
func TestAttrs(t *testing.T) {
	x := small()
	for _, w := range []struct {
		i, mode int
		gid     string
		mtime   int
		want    func(n *api.Node)
	}{
		{2, keep, "", keep, func(n *api.Node) {}},
		{0, keep, "", keep, func(n *api.Node) {}},
		{2, 511, "", keep, func(n *api.Node) { n.Mode = 511 }},
		{2, 0, "", keep, func(n *api.Node) { n.Mode = 0 }},
		{2, appendBit + 1, "", keep, func(n *api.Node) { n.Mode = appendBit + 1 }},
		{2, exclBit + appendBit + 511, "", keep, func(n *api.Node) { n.Mode = exclBit + appendBit + 511 }},
		{6, exclBit, "", keep, func(n *api.Node) { n.Mode = exclBit }},
		{1, dirBit, "", keep, func(n *api.Node) { n.Mode = dirBit }},
		{0, dirBit + 511, "", keep, func(n *api.Node) { n.Mode = dirBit + 511 }},
		{2, keep, "new", keep, func(n *api.Node) { n.Gid = "new" }},
		{0, keep, longest, keep, func(n *api.Node) { n.Gid = longest }},
		{2, keep, tooLong, keep, func(n *api.Node) {}},
		{2, keep, " /\xff", keep, func(n *api.Node) { n.Gid = " /\xff" }},
		{2, keep, "", 0, func(n *api.Node) { n.Mtime = 0 }},
		{1, keep, "", maxTime, func(n *api.Node) { n.Mtime = maxTime }},
		{8, 7, "g", 9, func(n *api.Node) { n.Mode, n.Gid, n.Mtime = 7, "g", 9 }},
		{0, dirBit + 7, "g", 9, func(n *api.Node) { n.Mode, n.Gid, n.Mtime = dirBit+7, "g", 9 }},
		{2, 420, "adm", 6, func(n *api.Node) {}},
	} {
		n := x.Nodes[w.i]
		w.want(&n)
		check(t, fmt.Sprintf("Attrs of %d: %d, %q, %d", n.Id, w.mode, w.gid, w.mtime), x, attrs(n.Id, w.mode, w.gid, w.mtime), outcome{t: with(x, n)})
	}
}

// TestAttrsErrors checks the errors of P10.12, each one together with all those that are listed after it.
func TestAttrsErrors(t *testing.T) {
	for _, id := range []int{0, 4, 12, -1} {
		checkErrors(t, "no node", []call{attrs(id, 512, "g", -2), attrs(id, keep, "", keep), attrs(id, 420, "g", 5)}, api.ErrNotExist)
	}
	for _, mode := range []int{-2, 512, dirBit, dirBit + 420, dirBit + appendBit, appendBit + 512, 1 << 27, math.MinInt, math.MaxInt} {
		checkErrors(t, "no mode of a file", []call{attrs(3, mode, "g", -2), attrs(5, mode, "g", 5), attrs(9, mode, "", keep)}, api.ErrArg)
	}
	for _, mode := range []int{-2, 0, 511, 512, appendBit, exclBit + 420, dirBit + 512, dirBit + exclBit, dirBit + appendBit, 2 * dirBit, math.MinInt, math.MinInt + dirBit, math.MaxInt} {
		checkErrors(t, "no mode of a directory", []call{attrs(1, mode, "g", -2), attrs(2, mode, "g", 5), attrs(7, mode, "", keep)}, api.ErrArg)
	}
	for _, mtime := range []int{-2, maxTime + 1, math.MinInt, math.MaxInt} {
		checkErrors(t, "no time", []call{attrs(3, keep, "", mtime), attrs(3, 420, "g", mtime), attrs(1, dirBit, "g", mtime)}, api.ErrNumber)
	}
}

// TestPath checks P10.13.
func TestPath(t *testing.T) {
	wanted := map[int]string{1: "/", 2: "/d", 3: "/d/f", 5: "/log", 6: "/lock", 7: "/d/empty", 9: "/f", 10: "/d/e", 11: "/d/e/f"}
	for id, want := range wanted {
		check(t, fmt.Sprint("Path of ", id), small(), pathOf(id), outcome{text: want})
	}
	for _, id := range []int{0, 4, 8, 12, -1, math.MinInt, math.MaxInt} {
		check(t, fmt.Sprint("Path of ", id), small(), pathOf(id), outcome{e: api.ErrNotExist})
	}
	check(t, "Path of a new root", tree.New("adm", 493, 5), pathOf(1), outcome{text: "/"})
}

// TestPathIsLong checks that P10.13 has no limit: a path of a tree may be longer than a path of layer 3.
func TestPathIsLong(t *testing.T) {
	x := deep(maxNodes)
	want := ""
	for id := 2; id <= maxNodes; id++ {
		want += fmt.Sprintf("/%064d", id)
	}
	if s, e := tree.Path(x, maxNodes); s != want || e != api.OK {
		t.Errorf("Path returns %d bytes, %d", len(s), e)
	}
}

// TestExamples checks the examples of the chapter one after the other: what is changed by the Create is the root.
func TestExamples(t *testing.T) {
	x, id, e := tree.Create(tree.New("adm", 493, 5), 1, "f", 420, "ann", "adm", 6)
	root, _ := tree.Node(x, 1)
	if id != 2 || e != api.OK || root.Mode != dirBit+493 || root.Vers != 1 || root.Mtime != 6 || root.Muid != "ann" || root.Atime != 5 {
		t.Errorf("Create returns %d, %d, with the root %v", id, e, root)
	}
	x, n, e := tree.Write(x, 2, 0, "hello", "ann", 7)
	if s, f := tree.Read(x, 2, 1, 2); n != 5 || e != api.OK || s != "el" || f != api.OK {
		t.Errorf("Write returns %d, %d, and Read %q, %d", n, e, s, f)
	}
}
