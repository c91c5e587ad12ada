package tree_test

import (
	"fmt"
	"math"
	"math/rand"
	"slices"
	"strings"
	"testing"

	"filespace/api"
	"filespace/tree"
)

// doer is a user with a group who does something at a time.
type doer struct {
	uid, gid string
	now      int
}

func doers() []doer {
	return []doer{{"ann", "adm", 20}, {"", "", -1}, {longest, longest, maxTime}, {tooLong, tooLong, maxTime + 1}, {"a", tooLong, math.MinInt}, {tooLong, "g", math.MaxInt}, {"/\x00", "\xff", 0}}
}

func someNames() []string {
	return []string{"", ".", "..", "/", "a b", "new", "d", "f", "e", "log", "f2", longest, tooLong}
}

func someModes() []int {
	return []int{math.MinInt, -2, -1, 0, 420, 511, 512, exclBit + 1, appendBit + 511, appendBit + exclBit, dirBit, dirBit + 511, dirBit + 512, dirBit + appendBit, dirBit + exclBit, 1 << 27, 2 * dirBit}
}

// TestCreateOfMany checks P10.6 against the second implementation, in every tree of few nodes.
func TestCreateOfMany(t *testing.T) {
	for _, x := range fewNodes() {
		for _, dir := range idsOf(x) {
			for i, name := range someNames() {
				for j, mode := range someModes() {
					d := doers()[(i+j)%len(doers())]
					check(t, fmt.Sprintf("Create of %q with %d in %d", name, mode, dir), x, create(dir, name, mode, d.uid, d.gid, d.now), createOfChapter(x, dir, name, mode, d.uid, d.gid, d.now))
				}
			}
			if t.Failed() {
				return
			}
		}
	}
}

// TestNamesOfMany checks P10.7, P10.11 and P10.13 against the second implementation, for every node.
func TestNamesOfMany(t *testing.T) {
	for _, x := range fewNodes() {
		for _, id := range idsOf(x) {
			check(t, fmt.Sprint("Path of ", id), x, pathOf(id), pathOfChapter(x, id))
			for _, d := range doers() {
				check(t, fmt.Sprint("Remove of ", id), x, remove(id, d.uid, d.now), removeOfChapter(x, id, d.uid, d.now))
				for _, name := range someNames() {
					check(t, fmt.Sprintf("Rename of %d to %q", id, name), x, rename(id, name, d.uid, d.now), renameOfChapter(x, id, name, d.uid, d.now))
				}
			}
			if t.Failed() {
				return
			}
		}
	}
}

// TestAttrsOfMany checks P10.12 against the second implementation, for every node.
func TestAttrsOfMany(t *testing.T) {
	for _, x := range fewNodes() {
		for _, id := range idsOf(x) {
			for _, mode := range someModes() {
				for _, gid := range []string{"", "new", longest, tooLong} {
					for _, mtime := range []int{-2, -1, 0, 7, maxTime, maxTime + 1} {
						check(t, fmt.Sprintf("Attrs of %d: %d, %q, %d", id, mode, gid, mtime), x, attrs(id, mode, gid, mtime), attrsOfChapter(x, id, mode, gid, mtime))
					}
				}
			}
			if t.Failed() {
				return
			}
		}
	}
}

// TestContentsOfMany checks P10.8 to P10.10 against the second implementation, for the nodes of the trees with contents.
func TestContentsOfMany(t *testing.T) {
	numbers := []int{math.MinInt, -1, 0, 1, 2, 4, 5, 6, maxFile - 1, maxFile, maxFile + 1, math.MaxInt}
	long := strings.Repeat("y", maxFile+1)
	for _, x := range []api.Tree{newOfChapter("adm", 493, 5), small(), greatest()} {
		for _, id := range idsOf(x) {
			for i, n := range numbers {
				d := doers()[i%len(doers())]
				check(t, fmt.Sprint("Resize of ", id, " to ", n), x, resize(id, n, d.uid, d.now), resizeOfChapter(x, id, n, d.uid, d.now))
				for _, count := range numbers {
					check(t, fmt.Sprint("Read of ", id, " at ", n, " of ", count), x, read(id, n, count), readOfChapter(x, id, n, count))
				}
				for _, data := range []string{"", "a", "\x00\xff", "xyz", long[:maxFile-5], long[:maxFile-1], long[:maxFile], long} {
					check(t, fmt.Sprint("Write to ", id, " at ", n, " of ", len(data)), x, write(id, n, data, d.uid, d.now), writeOfChapter(x, id, n, data, d.uid, d.now))
				}
			}
			if t.Failed() {
				return
			}
		}
	}
}

// TestChanges checks what it means to change a node: in every call that does, the version after the greatest one is 0, and times and users are the nearest valid ones.
func TestChanges(t *testing.T) {
	for _, vers := range []int{0, 1, maxVers - 1, maxVers} {
		x := small()
		for i := range x.Nodes {
			x.Nodes[i].Vers = vers
		}
		want := vers + 1
		if vers == maxVers {
			want = 0
		}
		for _, d := range doers() {
			for name, changing := range map[string]struct {
				f  call
				id int
			}{
				"Create": {create(2, "new", 420, d.uid, d.gid, d.now), 2},
				"Remove": {remove(3, d.uid, d.now), 2},
				"Write":  {write(3, 0, "a", d.uid, d.now), 3},
				"Resize": {resize(3, 1, d.uid, d.now), 3},
				"Rename": {rename(3, "g", d.uid, d.now), 2},
			} {
				n, _ := tree.Node(changing.f(x).t, changing.id)
				if n.Vers != want || n.Mtime != min(max(d.now, 0), maxTime) || n.Muid != strings.TrimSuffix(d.uid, tooLong) {
					t.Errorf("%s by %.70v of a node of the version %d leaves %+v", name, d, vers, n)
				}
			}
		}
	}
}

// TestReads checks P10.17: what was written is at its place, the bytes around are the old ones, and those in between are 0.
func TestReads(t *testing.T) {
	for _, id := range []int{3, 5, 6, 9, 11} {
		n, _ := tree.Node(small(), id)
		for offset := range 9 {
			for _, data := range []string{"", "a", "\x00", "xy", "0123456789"} {
				x, _, e := tree.Write(small(), id, offset, data, "ann", 20)
				if e != api.OK {
					t.Fatalf("Write returns %d", e)
				}
				place := offset
				if n.Mode/appendBit%2 == 1 {
					place = len(n.Data)
				}
				padded := n.Data
				if data != "" {
					padded += strings.Repeat("\x00", max(place-len(n.Data), 0))
				}
				written, _ := tree.Read(x, id, place, len(data))
				before, _ := tree.Read(x, id, 0, place)
				after, _ := tree.Read(x, id, place+len(data), maxFile)
				if written != data || before != padded[:min(place, len(padded))] || after != padded[min(place+len(data), len(padded)):] {
					t.Errorf("after the Write of %q at %d the file %d is %q, %q, %q", data, offset, id, before, written, after)
				}
			}
		}
	}
}

// step is a random call, and what the second implementation returns for it.
func step(r *rand.Rand, x api.Tree) (string, call, outcome) {
	id := r.Intn(x.Next + 2)
	name := []string{"a", "b", "c", "d", "..", "no name"}[r.Intn(6)]
	mode := []int{dirBit + 511, dirBit, 420, appendBit + 420, exclBit, 512, keep}[r.Intn(7)]
	uid := []string{"ann", "bob", tooLong}[r.Intn(3)]
	number := []int{-1, 0, 1, 3, 7, maxFile - 2, maxFile + 1}[r.Intn(7)]
	data := strings.Repeat("x", r.Intn(5))
	switch r.Intn(8) {
	case 0, 1:
		return fmt.Sprintf("Create in %d of %q with %d", id, name, mode), create(id, name, mode, uid, "grp", number), createOfChapter(x, id, name, mode, uid, "grp", number)
	case 2:
		return fmt.Sprintf("Remove of %d", id), remove(id, uid, number), removeOfChapter(x, id, uid, number)
	case 3, 4:
		return fmt.Sprintf("Write to %d at %d of %q", id, number, data), write(id, number, data, uid, number), writeOfChapter(x, id, number, data, uid, number)
	case 5:
		return fmt.Sprintf("Resize of %d to %d", id, number), resize(id, number, uid, number), resizeOfChapter(x, id, number, uid, number)
	case 6:
		return fmt.Sprintf("Rename of %d to %q", id, name), rename(id, name, uid, number), renameOfChapter(x, id, name, uid, number)
	default:
		return fmt.Sprintf("Attrs of %d: %d, %d", id, mode, number), attrs(id, mode, uid, number), attrsOfChapter(x, id, mode, uid, number)
	}
}

// differing returns the Ids of the nodes that are not the same in two trees, without those of parents of others.
func differing(x, y api.Tree) []int {
	s, u := stateOf(x), stateOf(y)
	ids := map[int]bool{}
	for _, n := range append(slices.Clone(x.Nodes), y.Nodes...) {
		if s.nodes[n.Id] != u.nodes[n.Id] {
			ids[n.Id] = true
		}
	}
	var l []int
	for id := range ids {
		isParent := false
		for other := range ids {
			isParent = isParent || other != id && max(s.nodes[other].Parent, u.nodes[other].Parent) == id
		}
		if !isParent {
			l = append(l, id)
		}
	}
	return l
}

// checkWalks reports a node that is not found by the elements of its path.
func checkWalks(t *testing.T, x api.Tree) {
	t.Helper()
	for _, n := range x.Nodes {
		p, e := tree.Path(x, n.Id)
		if e != api.OK || p == "" || p[0] != '/' {
			t.Fatalf("Path of %d is %q, %d", n.Id, p, e)
		}
		at := 1
		for _, name := range strings.FieldsFunc(p, func(r rune) bool { return r == '/' }) {
			at, e = tree.Find(x, at, name)
			if e != api.OK {
				t.Fatalf("Find of %q on the way %q returns %d", name, p, e)
			}
		}
		if at != n.Id {
			t.Fatalf("the path %q of %d leads to %d", p, n.Id, at)
		}
		for _, id := range tree.Children(x, n.Id) {
			if up, e := tree.Find(x, id, ".."); up != n.Id && e != api.ErrNotDir {
				t.Fatalf("the parent of %d is %d, %d", id, up, e)
			}
		}
	}
}

// TestSteps checks P10.14 to P10.16 after each of many random calls, and that no call changes a tree that was returned earlier.
func TestSteps(t *testing.T) {
	used := map[int]bool{}
	most := 0
	for seed := range 60 {
		r := rand.New(rand.NewSource(int64(seed)))
		x := tree.New("adm", 493, 5)
		if seed%2 == 1 {
			x = small()
		}
		clear(used)
		for range 150 {
			name, f, want := step(r, x)
			check(t, name, x, f, want)
			before := slices.Clone(x.Nodes)
			y := f(x).t
			if !slices.Equal(x.Nodes, before) || y.Next < x.Next || len(differing(x, y)) > 1 {
				t.Errorf("%s changes %v, and Next from %d to %d", name, differing(x, y), x.Next, y.Next)
			}
			for _, n := range y.Nodes {
				if _, wasThere := tree.Node(x, n.Id); !wasThere && (used[n.Id] || n.Id < x.Next) {
					t.Errorf("%s uses the Id %d again", name, n.Id)
				}
				used[n.Id] = true
			}
			x = y
			checkWalks(t, x)
			if t.Failed() {
				return
			}
		}
		most = max(most, len(x.Nodes))
	}
	if most < 8 {
		t.Errorf("no tree has more than %d nodes", most)
	}
}

// TestWalks checks P10.16 for the trees of the tests.
func TestWalks(t *testing.T) {
	for _, x := range trees() {
		checkWalks(t, x)
	}
}

// anyNode returns a node that may have any values.
func anyNode(r *rand.Rand) api.Node {
	number := func() int {
		return []int{math.MinInt, -1, 0, 1, 1, 2, 2, 3, 3, 4, dirBit, dirBit + 1, appendBit, maxNode, math.MaxInt}[r.Intn(15)]
	}
	text := func() string {
		return []string{"", "/", "..", "a", "a", "b", "a/b", tooLong, strings.Repeat("x", maxFile+9)}[r.Intn(9)]
	}
	return api.Node{Id: number(), Parent: number(), Vers: number(), Name: text(), Mode: number(), Uid: text(), Gid: text(), Muid: text(), Atime: number(), Mtime: number(), Data: text()}
}

// anyTrees returns trees that are not valid, among them such without nodes, without order, and with nodes that are in each other.
func anyTrees() []api.Tree {
	l := []api.Tree{{}, {Next: -1}, {Next: math.MaxInt, Nodes: []api.Node{{}}}, {Next: 2, Nodes: make([]api.Node, 2000)}}
	l = append(l,
		api.Tree{Nodes: []api.Node{{Id: 2, Parent: 3, Name: "a", Mode: dirBit}, {Id: 3, Parent: 2, Name: "b", Mode: dirBit}}},
		api.Tree{Nodes: []api.Node{{Id: 2, Parent: 2, Name: "a", Mode: dirBit}, {Id: 3, Parent: 3, Name: "a"}}},
		api.Tree{Next: math.MaxInt, Nodes: []api.Node{{Id: math.MaxInt, Parent: 7, Vers: math.MaxInt, Name: "a", Mode: appendBit, Data: strings.Repeat("x", maxFile+1)}}},
		without(small(), 0), without(small(), 1), wide(maxNodes+5),
	)
	r := rand.New(rand.NewSource(1))
	for range 300 {
		t := api.Tree{Next: r.Intn(6)}
		for range r.Intn(5) {
			t.Nodes = append(t.Nodes, anyNode(r))
		}
		if r.Intn(2) == 0 {
			slices.SortFunc(t.Nodes, func(a, b api.Node) int { return a.Id - b.Id })
		}
		l = append(l, t)
	}
	return l
}

// calls returns calls of every function for a node.
func calls(id int) []call {
	l := []call{
		func(t api.Tree) outcome {
			n, ok := tree.Node(t, id)
			return outcome{n: n.Id, text: fmt.Sprint(n, ok, tree.Right(t), tree.Children(t, id))}
		},
		pathOf(id), remove(id, "ann", 8),
	}
	for _, name := range []string{"", "..", "a", "b", "/", "new"} {
		l = append(l, find(id, name), rename(id, name, "ann", 8), create(id, name, 420, "ann", "adm", 8), create(id, name, dirBit, tooLong, tooLong, -1))
	}
	for _, n := range []int{math.MinInt, -1, 0, 2, maxFile, math.MaxInt} {
		l = append(l, read(id, n, 2), read(id, 2, n), write(id, n, "abc", "ann", n), resize(id, n, "ann", n), attrs(id, n, "g", n), attrs(id, keep, "", n))
	}
	return l
}

// TestAnyTree checks that for trees that are not valid, too, every call ends without a panic (R1), neither changes its argument nor shares memory with it (R3), and always returns the same (R4).
func TestAnyTree(t *testing.T) {
	for i, x := range anyTrees() {
		for _, id := range []int{math.MinInt, -1, 0, 1, 2, 3, 4, maxNode, math.MaxInt} {
			for j, f := range calls(id) {
				want := f(withSpare(x))
				want.t.Nodes = slices.Clone(want.t.Nodes)
				passed := withSpare(x)
				got := f(passed)
				if !got.same(want) {
					t.Errorf("the call %d of %d returns two results for the tree %d", j, id, i)
				}
				returned := got.t.Nodes[:cap(got.t.Nodes)]
				for k := range returned {
					returned[k] = mark
				}
				rest := passed.Nodes[len(x.Nodes):cap(passed.Nodes)]
				if !slices.Equal(passed.Nodes, x.Nodes) || !slices.Equal(rest[:3], []api.Node{mark, mark, mark}) {
					t.Errorf("the call %d of %d changes the tree %d", j, id, i)
				}
			}
		}
	}
}
