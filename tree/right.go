package tree

import (
	"filespace/api"
	"filespace/path"
)

// entry is a name in a directory, which only one node may have.
type entry struct {
	parent int
	name   string
}

// Right reports whether a tree is valid.
func Right(t api.Tree) bool {
	count := len(t.Nodes)
	if count == 0 || count > api.MaxNodes || !isRoot(t.Nodes[0]) {
		return false
	}
	last := rootId
	isDirectory := map[int]bool{rootId: true}
	isTaken := map[entry]bool{}
	for _, n := range t.Nodes[1:] {
		e := entry{n.Parent, n.Name}
		// Only the nodes before this one are in the map, so that the Parent is also less than the Id.
		if n.Id <= last || !isDirectory[n.Parent] || !path.Valid(n.Name) || isTaken[e] || !hasLimits(n) {
			return false
		}
		last = n.Id
		isDirectory[n.Id] = isDir(n.Mode)
		isTaken[e] = true
	}
	return last < t.Next && t.Next <= api.MaxNode+1
}

func isRoot(n api.Node) bool {
	return n.Id == rootId && n.Parent == rootId && n.Name == rootName && isDir(n.Mode) && hasLimits(n)
}

// hasLimits reports whether those fields of a node are valid that do not depend on other nodes.
func hasLimits(n api.Node) bool {
	longest := api.MaxFile
	if isDir(n.Mode) {
		longest = 0
	}
	return isMode(n.Mode) &&
		0 <= n.Vers && n.Vers <= api.MaxVers &&
		isTime(n.Atime) && isTime(n.Mtime) &&
		isShort(n.Uid) && isShort(n.Gid) && isShort(n.Muid) &&
		len(n.Data) <= longest
}
