package tree_test

import (
	"fmt"
	"math"
	"slices"
	"strings"
	"testing"

	"filespace/api"
	"filespace/tree"
)

// edited returns the small tree in which the node at an index is another one.
func edited(i int, f func(n *api.Node)) api.Tree {
	t := small()
	f(&t.Nodes[i])
	return t
}

// checkRight reports a tree of which Right does not report what is wanted.
func checkRight(t *testing.T, name string, x api.Tree, want bool) {
	t.Helper()
	passed := withSpare(x)
	if tree.Right(passed) != want {
		t.Errorf("Right of %s is %v", name, !want)
	}
	if passed.Next != x.Next || !slices.Equal(passed.Nodes, x.Nodes) {
		t.Errorf("Right changes %s", name)
	}
}

// TestRight checks P10.2 for valid trees.
func TestRight(t *testing.T) {
	for i, x := range trees() {
		checkRight(t, fmt.Sprint("tree ", i), x, true)
	}
	checkRight(t, "the deepest tree", deep(maxNodes), true)
	for _, next := range []int{12, 13, maxNode, maxNode + 1} {
		x := small()
		x.Next = next
		checkRight(t, fmt.Sprint("the Next ", next), x, true)
	}
}

// TestRightNodes checks the first clause of P10.2: the number of nodes, their order, and Next.
func TestRightNodes(t *testing.T) {
	checkRight(t, "no nodes", api.Tree{}, false)
	checkRight(t, "no nodes but a Next", api.Tree{Next: 2, Nodes: []api.Node{}}, false)
	checkRight(t, "1025 nodes", wide(maxNodes+1), false)
	for _, next := range []int{11, 10, 2, 1, 0, -1, maxNode + 2, math.MinInt, math.MaxInt} {
		x := small()
		x.Next = next
		checkRight(t, fmt.Sprint("the Next ", next), x, false)
	}
	x := with(small(), api.Node{Id: maxNode + 1, Parent: 1, Name: "new"})
	for _, next := range []int{maxNode + 1, maxNode + 2} {
		x.Next = next
		checkRight(t, "an Id that is too great", x, false)
	}
	for i := range len(small().Nodes) - 1 {
		x := small()
		x.Nodes[i], x.Nodes[i+1] = x.Nodes[i+1], x.Nodes[i]
		checkRight(t, fmt.Sprint("nodes in another order from ", i), x, false)
		// The node that is twice in the list has two names, so that only the Id is wrong.
		x = small()
		x.Nodes = slices.Insert(x.Nodes, i+1, withName(x.Nodes[i], "twice"))
		checkRight(t, fmt.Sprint("a node that is there twice from ", i), x, false)
	}
}

// TestRightRoot checks the second clause of P10.2.
func TestRightRoot(t *testing.T) {
	for name, f := range map[string]func(n *api.Node){
		"the Id 0":          func(n *api.Node) { n.Id = 0 },
		"the Id 0 and 0":    func(n *api.Node) { n.Id, n.Parent = 0, 0 },
		"the Parent 0":      func(n *api.Node) { n.Parent = 0 },
		"the Parent 2":      func(n *api.Node) { n.Parent = 2 },
		"another name":      func(n *api.Node) { n.Name = "root" },
		"no name":           func(n *api.Node) { n.Name = "" },
		"two slashes":       func(n *api.Node) { n.Name = "//" },
		"a mode of a file":  func(n *api.Node) { n.Mode = 493 },
		"contents":          func(n *api.Node) { n.Data = "x" },
		"a negative Vers":   func(n *api.Node) { n.Vers = -1 },
		"a negative Atime":  func(n *api.Node) { n.Atime = -1 },
		"an Uid of 65":      func(n *api.Node) { n.Uid = tooLong },
		"two bits together": func(n *api.Node) { n.Mode = dirBit + exclBit },
	} {
		x := newOfChapter("adm", 493, 5)
		f(&x.Nodes[0])
		checkRight(t, "a root with "+name, x, false)
		checkRight(t, "a root of others with "+name, edited(0, f), false)
	}
	lost := newOfChapter("adm", 493, 5)
	lost.Nodes[0].Id, lost.Nodes[0].Parent, lost.Next = 2, 2, 3
	checkRight(t, "a root with the Id 2", lost, false)
	checkRight(t, "a tree without its root", without(small(), 0), false)
}

// TestRightPlaces checks the third clause of P10.2: the parent and the name of a node.
func TestRightPlaces(t *testing.T) {
	for i := 1; i < len(small().Nodes); i++ {
		id := small().Nodes[i].Id
		for _, parent := range []int{0, -1, 3, 4, 5, 6, 8, 9, 11, 12, id, id + 1, math.MinInt, math.MaxInt} {
			checkRight(t, fmt.Sprint("a node ", id, " in ", parent), edited(i, func(n *api.Node) { n.Parent = parent }), false)
		}
		for _, name := range []string{"", ".", "..", "/", "a/b", "a b", "\x00", "\xff", tooLong} {
			checkRight(t, fmt.Sprintf("a node %d with the name %q", id, name), edited(i, func(n *api.Node) { n.Name = name }), false)
		}
		checkRight(t, "a node with a new name", edited(i, func(n *api.Node) { n.Name = longest }), true)
	}
	checkRight(t, "a node in a directory with a greater Id", edited(1, func(n *api.Node) { n.Parent = 7 }), false)
	checkRight(t, "two nodes in each other", api.Tree{Next: 4, Nodes: []api.Node{small().Nodes[0], {Id: 2, Parent: 3, Name: "a", Mode: dirBit}, {Id: 3, Parent: 2, Name: "b", Mode: dirBit}}}, false)
	checkRight(t, "a file with children", edited(1, func(n *api.Node) { n.Mode = 511 }), false)
	for _, i := range []int{1, 3, 4} {
		checkRight(t, "a name that is there twice", edited(i, func(n *api.Node) { n.Name = "f" }), false)
	}
	checkRight(t, "a name that is there twice in d", edited(5, func(n *api.Node) { n.Name = "f" }), false)
	checkRight(t, "a name that is there twice in e", with(small(), api.Node{Id: 11, Parent: 2, Name: "f"}), false)
}

// fields are changes of the fields that the last clause of P10.2 limits, with the values that are valid and those that are not.
func fields() map[string]map[bool][]func(n *api.Node) {
	number := func(of func(n *api.Node) *int, l ...int) []func(n *api.Node) {
		var all []func(n *api.Node)
		for _, v := range l {
			all = append(all, func(n *api.Node) { *of(n) = v })
		}
		return all
	}
	text := func(of func(n *api.Node) *string, l ...string) []func(n *api.Node) {
		var all []func(n *api.Node)
		for _, v := range l {
			all = append(all, func(n *api.Node) { *of(n) = v })
		}
		return all
	}
	vers := func(n *api.Node) *int { return &n.Vers }
	atime := func(n *api.Node) *int { return &n.Atime }
	mtime := func(n *api.Node) *int { return &n.Mtime }
	uid := func(n *api.Node) *string { return &n.Uid }
	gid := func(n *api.Node) *string { return &n.Gid }
	muid := func(n *api.Node) *string { return &n.Muid }
	long := strings.Repeat("x", 1<<16)
	return map[string]map[bool][]func(n *api.Node){
		"Vers":  {true: number(vers, 0, 1, maxVers), false: number(vers, -1, maxVers+1, math.MinInt, math.MaxInt)},
		"Atime": {true: number(atime, 0, 1, maxTime), false: number(atime, -1, maxTime+1, math.MinInt, math.MaxInt)},
		"Mtime": {true: number(mtime, 0, 1, maxTime), false: number(mtime, -1, maxTime+1, math.MinInt, math.MaxInt)},
		"Uid":   {true: text(uid, "", "\x00/", longest), false: text(uid, tooLong, long)},
		"Gid":   {true: text(gid, "", "\x00/", longest), false: text(gid, tooLong, long)},
		"Muid":  {true: text(muid, "", "\x00/", longest), false: text(muid, tooLong, long)},
	}
}

// TestRightFields checks both sides of the limits of the last clause of P10.2, in every node.
func TestRightFields(t *testing.T) {
	for i := range small().Nodes {
		for name, sides := range fields() {
			for want, l := range sides {
				for j, f := range l {
					checkRight(t, fmt.Sprint("the node ", i, " with another ", name, ", ", j), edited(i, f), want)
				}
			}
		}
	}
}

// TestRightModes checks the modes of P10.2: every sum of the bits of a directory and of a file, with and without permissions.
func TestRightModes(t *testing.T) {
	modes := []int{-1, -512, math.MinInt, math.MinInt + 511, math.MinInt + dirBit, math.MaxInt, 2 * dirBit, 2*dirBit + 511, dirBit - 1}
	for _, bits := range []int{0, dirBit, appendBit, exclBit, 1 << 28, 1 << 27} {
		for _, more := range []int{0, dirBit, appendBit, exclBit, appendBit + exclBit} {
			for _, perm := range []int{0, 1, 420, 511, 512, 1023} {
				modes = append(modes, bits+more+perm)
			}
		}
	}
	for i, n := range small().Nodes {
		for _, mode := range modes {
			hasChildren := i == 0 || i == 1 || i == 7
			want := isModeOfChapter(mode) && (!hasChildren || isDirOfChapter(mode)) && (n.Data == "" || !isDirOfChapter(mode))
			checkRight(t, fmt.Sprint("the node ", i, " with the mode ", mode), edited(i, func(n *api.Node) { n.Mode = mode }), want)
		}
	}
}

// TestRightData checks the contents of P10.2.
func TestRightData(t *testing.T) {
	for i, n := range small().Nodes {
		for _, length := range []int{0, 1, maxFile - 1, maxFile, maxFile + 1, 2 * maxFile} {
			want := length == 0 || length <= maxFile && !isDirOfChapter(n.Mode)
			checkRight(t, fmt.Sprint("the node ", i, " of ", length, " bytes"), edited(i, func(n *api.Node) { n.Data = strings.Repeat("x", length) }), want)
		}
	}
}

// TestRightOfMany checks P10.2 against the second implementation, for trees in which some nodes are copies of others with other Ids, parents and names.
func TestRightOfMany(t *testing.T) {
	valid := 0
	x := small()
	for i := range x.Nodes {
		for j := range x.Nodes {
			for _, id := range []int{-1, 0, 1, 2, 3, 4, 5, 8, 10, 11} {
				for _, parent := range []int{0, 1, 2, 3, 7, 10, 11} {
					y := small()
					y.Nodes[i] = x.Nodes[j]
					y.Nodes[i].Id, y.Nodes[i].Parent = id, parent
					want := rightOfChapter(y)
					if want {
						valid++
					}
					checkRight(t, fmt.Sprint("the tree with ", j, " at ", i, " as ", id, " in ", parent), y, want)
				}
			}
		}
	}
	if valid < 20 {
		t.Errorf("only %d of the trees were valid", valid)
	}
}
