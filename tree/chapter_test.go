package tree_test

import (
	"slices"

	"filespace/api"
)

// The bits of a mode and the limits, as numbers.
const (
	dirBit    = 2147483648
	appendBit = 1073741824
	exclBit   = 536870912
	maxNodes  = 1024
	maxNode   = 1048575
	maxVers   = 2147483647
	maxTime   = 1099511627776
	maxFile   = 65536
	keep      = -1
)

// state is a tree as a map from the Ids to the nodes. Its methods are a second implementation that follows the chapter clause by clause.
type state struct {
	next  int
	nodes map[int]api.Node
}

// outcome is the result of a call: the tree, the number and the text that it returns, as far as it returns them, and the error.
type outcome struct {
	t    api.Tree
	n    int
	text string
	e    api.Errno
}

// same reports whether two outcomes are equal; nil and empty lists are.
func (o outcome) same(p outcome) bool {
	return o.t.Next == p.t.Next && slices.Equal(o.t.Nodes, p.t.Nodes) && o.n == p.n && o.text == p.text && o.e == p.e
}

func stateOf(t api.Tree) state {
	s := state{t.Next, map[int]api.Node{}}
	for _, n := range t.Nodes {
		s.nodes[n.Id] = n
	}
	return s
}

// tree returns the tree that a state is.
func (s state) tree() api.Tree {
	t := api.Tree{Next: s.next}
	for _, n := range s.nodes {
		t.Nodes = append(t.Nodes, n)
	}
	slices.SortFunc(t.Nodes, func(a, b api.Node) int { return a.Id - b.Id })
	return t
}

func isNameOfChapter(s string) bool {
	for i := range len(s) {
		if s[i] < 33 || s[i] > 126 || s[i] == '/' {
			return false
		}
	}
	return 1 <= len(s) && len(s) <= 64 && s != "." && s != ".."
}

func isModeOfChapter(mode int) bool {
	for _, bits := range []int{0, dirBit, appendBit, exclBit, appendBit + exclBit} {
		if bits <= mode && mode <= bits+511 {
			return true
		}
	}
	return false
}

func isDirOfChapter(mode int) bool {
	return mode >= 0 && mode/dirBit%2 == 1
}

func timeOfChapter(now int) int {
	if now < 0 {
		return 0
	}
	if now > maxTime {
		return maxTime
	}
	return now
}

func userOfChapter(uid string) string {
	if len(uid) > 64 {
		return ""
	}
	return uid
}

func newOfChapter(uid string, perm, now int) api.Tree {
	rest := perm % 512
	if rest < 0 {
		rest += 512
	}
	uid, now = userOfChapter(uid), timeOfChapter(now)
	return api.Tree{Next: 2, Nodes: []api.Node{{Id: 1, Parent: 1, Name: "/", Mode: dirBit + rest, Uid: uid, Gid: uid, Muid: uid, Atime: now, Mtime: now}}}
}

// rightOfChapter compares each node with all others.
func rightOfChapter(t api.Tree) bool {
	if len(t.Nodes) < 1 || len(t.Nodes) > 1024 || t.Next > 1048576 {
		return false
	}
	for i, n := range t.Nodes {
		if n.Id < 1 || n.Id > 1048575 || t.Next <= n.Id || i > 0 && t.Nodes[i-1].Id >= n.Id {
			return false
		}
		if !isModeOfChapter(n.Mode) || n.Vers < 0 || n.Vers > 2147483647 || n.Atime < 0 || n.Atime > maxTime || n.Mtime < 0 || n.Mtime > maxTime {
			return false
		}
		if len(n.Uid) > 64 || len(n.Gid) > 64 || len(n.Muid) > 64 || len(n.Data) > 65536 || isDirOfChapter(n.Mode) && n.Data != "" {
			return false
		}
		if i == 0 {
			if n.Id != 1 || n.Parent != 1 || n.Name != "/" || !isDirOfChapter(n.Mode) {
				return false
			}
			continue
		}
		hasParent := false
		for j, m := range t.Nodes {
			hasParent = hasParent || m.Id == n.Parent && isDirOfChapter(m.Mode)
			if j != i && m.Parent == n.Parent && m.Name == n.Name {
				return false
			}
		}
		if !hasParent || n.Parent >= n.Id || !isNameOfChapter(n.Name) {
			return false
		}
	}
	return true
}

// childrenOf returns the children of a directory by their names.
func (s state) childrenOf(dir int) map[string]int {
	l := map[string]int{}
	for id, n := range s.nodes {
		if id != 1 && n.Parent == dir {
			l[n.Name] = id
		}
	}
	return l
}

// change changes a node at a time by a user.
func (s state) change(id int, uid string, now int) {
	n := s.nodes[id]
	if n.Vers == maxVers {
		n.Vers = 0
	} else {
		n.Vers = n.Vers + 1
	}
	n.Mtime = timeOfChapter(now)
	n.Muid = userOfChapter(uid)
	s.nodes[id] = n
}

func findOfChapter(t api.Tree, dir int, name string) outcome {
	s := stateOf(t)
	d, ok := s.nodes[dir]
	if !ok {
		return outcome{e: api.ErrNotExist}
	}
	if !isDirOfChapter(d.Mode) {
		return outcome{e: api.ErrNotDir}
	}
	if name == ".." {
		return outcome{n: d.Parent}
	}
	id, ok := s.childrenOf(dir)[name]
	if !ok {
		return outcome{e: api.ErrNotExist}
	}
	return outcome{n: id}
}

func createOfChapter(t api.Tree, dir int, name string, mode int, uid, gid string, now int) outcome {
	s := stateOf(t)
	d, ok := s.nodes[dir]
	if !ok {
		return outcome{t: t, e: api.ErrNotExist}
	}
	if !isDirOfChapter(d.Mode) {
		return outcome{t: t, e: api.ErrNotDir}
	}
	if !isNameOfChapter(name) {
		return outcome{t: t, e: api.ErrName}
	}
	if !isModeOfChapter(mode) {
		return outcome{t: t, e: api.ErrArg}
	}
	if _, ok := s.childrenOf(dir)[name]; ok {
		return outcome{t: t, e: api.ErrExist}
	}
	if len(s.nodes) == 1024 || s.next == 1048576 {
		return outcome{t: t, e: api.ErrFull}
	}
	id := s.next
	s.next = s.next + 1
	s.nodes[id] = api.Node{Id: id, Parent: dir, Name: name, Mode: mode, Uid: userOfChapter(uid), Muid: userOfChapter(uid), Gid: userOfChapter(gid), Atime: timeOfChapter(now), Mtime: timeOfChapter(now)}
	s.change(dir, uid, now)
	return outcome{t: s.tree(), n: id}
}

func removeOfChapter(t api.Tree, id int, uid string, now int) outcome {
	s := stateOf(t)
	n, ok := s.nodes[id]
	if !ok {
		return outcome{t: t, e: api.ErrNotExist}
	}
	if id == 1 {
		return outcome{t: t, e: api.ErrArg}
	}
	if isDirOfChapter(n.Mode) && len(s.childrenOf(id)) > 0 {
		return outcome{t: t, e: api.ErrNotEmpty}
	}
	delete(s.nodes, id)
	s.change(n.Parent, uid, now)
	return outcome{t: s.tree()}
}

func readOfChapter(t api.Tree, id, offset, count int) outcome {
	n, ok := stateOf(t).nodes[id]
	if !ok {
		return outcome{e: api.ErrNotExist}
	}
	if isDirOfChapter(n.Mode) {
		return outcome{e: api.ErrIsDir}
	}
	if offset < 0 || count < 0 {
		return outcome{e: api.ErrArg}
	}
	var l []byte
	for i := offset; i < len(n.Data) && len(l) < count && len(l) < 65536; i++ {
		l = append(l, n.Data[i])
	}
	return outcome{text: string(l)}
}

func writeOfChapter(t api.Tree, id, offset int, data, uid string, now int) outcome {
	s := stateOf(t)
	n, ok := s.nodes[id]
	if !ok {
		return outcome{t: t, e: api.ErrNotExist}
	}
	if isDirOfChapter(n.Mode) {
		return outcome{t: t, e: api.ErrIsDir}
	}
	if offset < 0 {
		return outcome{t: t, e: api.ErrArg}
	}
	if data == "" {
		return outcome{t: t}
	}
	if n.Mode/appendBit%2 == 1 {
		offset = len(n.Data)
	}
	if offset > 65536 || offset+len(data) > 65536 {
		return outcome{t: t, e: api.ErrLong}
	}
	l := []byte(n.Data)
	for i := range len(data) {
		for len(l) <= offset+i {
			l = append(l, 0)
		}
		l[offset+i] = data[i]
	}
	n.Data = string(l)
	s.nodes[id] = n
	s.change(id, uid, now)
	return outcome{t: s.tree(), n: len(data)}
}

func resizeOfChapter(t api.Tree, id, length int, uid string, now int) outcome {
	s := stateOf(t)
	n, ok := s.nodes[id]
	if !ok {
		return outcome{t: t, e: api.ErrNotExist}
	}
	if isDirOfChapter(n.Mode) {
		return outcome{t: t, e: api.ErrIsDir}
	}
	if length < 0 {
		return outcome{t: t, e: api.ErrArg}
	}
	if length > 65536 {
		return outcome{t: t, e: api.ErrLong}
	}
	if length == len(n.Data) {
		return outcome{t: t}
	}
	l := make([]byte, length)
	for i := 0; i < length && i < len(n.Data); i++ {
		l[i] = n.Data[i]
	}
	n.Data = string(l)
	s.nodes[id] = n
	s.change(id, uid, now)
	return outcome{t: s.tree()}
}

func renameOfChapter(t api.Tree, id int, name, uid string, now int) outcome {
	s := stateOf(t)
	n, ok := s.nodes[id]
	if !ok {
		return outcome{t: t, e: api.ErrNotExist}
	}
	if id == 1 {
		return outcome{t: t, e: api.ErrArg}
	}
	if !isNameOfChapter(name) {
		return outcome{t: t, e: api.ErrName}
	}
	if other, ok := s.childrenOf(n.Parent)[name]; ok && other != id {
		return outcome{t: t, e: api.ErrExist}
	}
	if n.Name == name {
		return outcome{t: t}
	}
	n.Name = name
	s.nodes[id] = n
	s.change(n.Parent, uid, now)
	return outcome{t: s.tree()}
}

func attrsOfChapter(t api.Tree, id, mode int, gid string, mtime int) outcome {
	s := stateOf(t)
	n, ok := s.nodes[id]
	if !ok {
		return outcome{t: t, e: api.ErrNotExist}
	}
	if mode != keep {
		if !isModeOfChapter(mode) || isDirOfChapter(mode) != isDirOfChapter(n.Mode) {
			return outcome{t: t, e: api.ErrArg}
		}
		n.Mode = mode
	}
	if mtime != keep {
		if mtime < 0 || mtime > maxTime {
			return outcome{t: t, e: api.ErrNumber}
		}
		n.Mtime = mtime
	}
	if gid != "" && len(gid) <= 64 {
		n.Gid = gid
	}
	s.nodes[id] = n
	return outcome{t: s.tree()}
}

// pathOfChapter goes from the node up to the root.
func pathOfChapter(t api.Tree, id int) outcome {
	s := stateOf(t)
	if _, ok := s.nodes[id]; !ok {
		return outcome{e: api.ErrNotExist}
	}
	if id == 1 {
		return outcome{text: "/"}
	}
	text := ""
	for ; id != 1; id = s.nodes[id].Parent {
		text = "/" + s.nodes[id].Name + text
	}
	return outcome{text: text}
}
