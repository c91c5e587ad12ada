package tree

import (
	"cmp"
	"slices"
	"strings"

	"filespace/api"
	"filespace/path"
)

// index returns where the node with an Id is.
func index(t api.Tree, id int) (int, bool) {
	return slices.BinarySearchFunc(t.Nodes, id, func(n api.Node, wanted int) int { return cmp.Compare(n.Id, wanted) })
}

// directory returns the directory with an Id.
func directory(t api.Tree, id int) (api.Node, api.Errno) {
	n, ok := Node(t, id)
	if !ok {
		return api.Node{}, api.ErrNotExist
	}
	if !isDir(n.Mode) {
		return api.Node{}, api.ErrNotDir
	}
	return n, api.OK
}

// file returns the node with an Id that is no directory.
func file(t api.Tree, id int) (api.Node, api.Errno) {
	n, ok := Node(t, id)
	if !ok {
		return api.Node{}, api.ErrNotExist
	}
	if isDir(n.Mode) {
		return api.Node{}, api.ErrIsDir
	}
	return n, api.OK
}

// belowRoot returns the node with an Id, which must not be the root: it is neither removed nor renamed.
func belowRoot(t api.Tree, id int) (api.Node, api.Errno) {
	n, ok := Node(t, id)
	if !ok {
		return api.Node{}, api.ErrNotExist
	}
	if id == rootId {
		return api.Node{}, api.ErrArg
	}
	return n, api.OK
}

// child returns the Id of the child of a directory with a name.
func child(t api.Tree, dir int, name string) (int, bool) {
	i := slices.IndexFunc(t.Nodes, func(n api.Node) bool { return n.Name == name && isChild(n, dir) })
	if i < 0 {
		return 0, false
	}
	return t.Nodes[i].Id, true
}

// checkCreate returns the first error of Create.
func checkCreate(t api.Tree, dir int, name string, mode int) api.Errno {
	if _, e := directory(t, dir); e != api.OK {
		return e
	}
	if !path.Valid(name) {
		return api.ErrName
	}
	if !isMode(mode) {
		return api.ErrArg
	}
	if _, taken := child(t, dir, name); taken {
		return api.ErrExist
	}
	if len(t.Nodes) >= api.MaxNodes || t.Next > api.MaxNode {
		return api.ErrFull
	}
	return api.OK
}

// copied returns a tree with a list of its own, because neither the argument nor a tree that was returned earlier may change.
func copied(t api.Tree) api.Tree {
	nodes := make([]api.Node, len(t.Nodes))
	copy(nodes, t.Nodes)
	return api.Tree{Next: t.Next, Nodes: nodes}
}

// edit returns a copy of a tree in which f has visited the node with an Id.
func edit(t api.Tree, id int, f func(n *api.Node)) api.Tree {
	u := copied(t)
	if i, ok := index(u, id); ok {
		f(&u.Nodes[i])
	}
	return u
}

// changeBy returns the visit that changes a node at a time by a user.
func changeBy(uid string, now int) func(n *api.Node) {
	return func(n *api.Node) {
		n.Vers++
		if n.Vers > api.MaxVers {
			n.Vers = 0
		}
		n.Mtime = timeOf(now)
		n.Muid = nameOf(uid)
	}
}

// setData returns a tree in which a user has given a file other contents.
func setData(t api.Tree, id int, data, uid string, now int) api.Tree {
	change := changeBy(uid, now)
	return edit(t, id, func(n *api.Node) {
		n.Data = data
		change(n)
	})
}

// overwritten returns contents with data at a place, which may be beyond their end.
func overwritten(old string, place int, data string) string {
	end := min(place+len(data), len(old))
	return resized(old, place) + data + old[end:]
}

// resized returns contents of a length: the first bytes, and bytes 0 for those that are missing.
func resized(old string, length int) string {
	if length <= len(old) {
		return old[:length]
	}
	return old + strings.Repeat("\x00", length-len(old))
}

// isChild reports whether a node is in a directory, in which the root is not, although it is its own parent.
func isChild(n api.Node, dir int) bool {
	return n.Parent == dir && n.Id != rootId
}

func isDir(mode int) bool {
	return mode&api.DMDir != 0
}

// isMode reports whether a mode is valid: a directory has no other bit beside its permissions. A negative mode has bits that no sum has.
func isMode(mode int) bool {
	if isDir(mode) {
		return mode&^api.MaxPerm == api.DMDir
	}
	return mode&^(api.MaxPerm|api.DMAppend|api.DMExcl) == 0
}

func isTime(time int) bool {
	return 0 <= time && time <= api.MaxTime
}

// timeOf returns the time for which now counts.
func timeOf(now int) int {
	return min(max(now, 0), api.MaxTime)
}

// nameOf returns the text for which a uid or a gid counts.
func nameOf(id string) string {
	if !isShort(id) {
		return ""
	}
	return id
}

// isShort reports whether a text may be a Uid, a Gid or a Muid, which need not be the name of a user.
func isShort(id string) bool {
	return len(id) <= api.MaxName
}
