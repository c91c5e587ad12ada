package wire

import (
	"filespace/api"
	"filespace/layout"
)

// The widths of the numbers that are not fields.
const (
	sizeWidth   = 4 // of a message
	kindWidth   = 1
	tagWidth    = 2
	countWidth  = 2 // of names, of qids, and of the bytes of a description
	lengthWidth = 4 // of data
)

// coder is what passes over the parts of a message in the order of their bytes: a writer, which appends the bytes of each part, or a reader, which sets each part to what the bytes say. So what is written is also what is read.
type coder interface {
	number(n *int, width int)
	text(s *string)
	data(s *string)
	names(l *[]string)
	qids(l *[]api.Qid)
	dir(d *api.Dir)
	errno(e *api.Errno)
}

// pass lets a coder pass over all parts of a message but its size.
func pass(c coder, m *api.Msg) {
	c.number(&m.Kind, kindWidth)
	c.number(&m.Tag, tagWidth)
	for _, f := range layout.Of(m.Kind) {
		passField(c, m, f)
	}
}

func passField(c coder, m *api.Msg, f layout.Field) {
	switch f {
	case layout.Fid:
		c.number(&m.Fid, 4)
	case layout.NewFid:
		c.number(&m.NewFid, 4)
	case layout.AuthFid:
		c.number(&m.AuthFid, 4)
	case layout.OldTag:
		c.number(&m.OldTag, tagWidth)
	case layout.Msize:
		c.number(&m.Msize, 4)
	case layout.Version:
		c.text(&m.Version)
	case layout.User:
		c.text(&m.User)
	case layout.Attach:
		c.text(&m.Attach)
	case layout.Names:
		c.names(&m.Names)
	case layout.Qids:
		c.qids(&m.Qids)
	case layout.Qid:
		passQid(c, &m.Qid)
	case layout.Iounit:
		c.number(&m.Iounit, 4)
	case layout.Mode:
		c.number(&m.Mode, 1)
	case layout.Perm:
		c.number(&m.Perm, 4)
	case layout.Name:
		c.text(&m.Name)
	case layout.Offset:
		c.number(&m.Offset, 8)
	case layout.Count:
		c.number(&m.Count, 4)
	case layout.Data:
		c.data(&m.Data)
	case layout.Stat:
		c.dir(&m.Stat)
	case layout.Err:
		c.errno(&m.Err)
	case layout.Lease:
		c.number(&m.Lease, 1)
	case layout.Term:
		c.number(&m.Term, 4)
	default:
		c.text(&m.Session)
	}
}

func passQid(c coder, q *api.Qid) {
	c.number(&q.Type, 1)
	c.number(&q.Vers, 4)
	c.number(&q.Path, 8)
}
