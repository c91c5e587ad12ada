package wire

import (
	"strings"

	"filespace/api"
	"filespace/fault"
	"filespace/octet"
	"filespace/stat"
)

// reader is the coder that sets the parts to what the bytes from an offset on say. It has failed once the bytes are not those of a part; the parts that it sets then do not count.
type reader struct {
	bytes  string
	at     int
	failed bool
}

// move moves the offset behind a part that was read, or notes that it could not be read.
func (r *reader) move(next int, e api.Errno) {
	if e != api.OK {
		r.failed = true
		return
	}
	r.at = next
}

func (r *reader) number(n *int, width int) {
	value, next, e := octet.Get(r.bytes, r.at, width)
	r.move(next, e)
	*n = value
}

func (r *reader) text(s *string) {
	value, next, e := octet.GetText(r.bytes, r.at)
	r.move(next, e)
	*s = value
}

func (r *reader) data(s *string) {
	var length int
	r.number(&length, lengthWidth)
	if length > len(r.bytes)-r.at {
		r.failed = true
		return
	}
	// A copy, because a part of the bytes would keep all of them in memory.
	*s = strings.Clone(r.bytes[r.at : r.at+length])
	r.at += length
}

func (r *reader) names(l *[]string) {
	var count int
	r.number(&count, countWidth)
	for len(*l) < count && !r.failed {
		var name string
		r.text(&name)
		*l = append(*l, name)
	}
}

func (r *reader) qids(l *[]api.Qid) {
	var count int
	r.number(&count, countWidth)
	for len(*l) < count && !r.failed {
		var q api.Qid
		passQid(r, &q)
		*l = append(*l, q)
	}
}

func (r *reader) dir(d *api.Dir) {
	var length int
	r.number(&length, countWidth)
	end := r.at + length
	value, next, e := stat.Get(r.bytes, r.at)
	r.move(next, e)
	// The description has a length of its own, which must be the same.
	if next != end {
		r.failed = true
	}
	*d = value
}

func (r *reader) errno(e *api.Errno) {
	var text string
	r.text(&text)
	value, ok := fault.Find(text)
	if !ok {
		r.failed = true
	}
	*e = value
}
