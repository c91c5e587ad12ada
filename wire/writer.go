package wire

import (
	"filespace/api"
	"filespace/fault"
	"filespace/octet"
	"filespace/stat"
)

// writer is the coder that appends the bytes of the parts. It keeps the first error of a part, and leaves the parts as they are.
type writer struct {
	bytes []byte
	e     api.Errno
}

func (w *writer) add(encoding string, e api.Errno) {
	if w.e == api.OK {
		w.e = e
	}
	w.bytes = append(w.bytes, encoding...)
}

func (w *writer) number(n *int, width int) {
	w.add(octet.Put(*n, width))
}

func (w *writer) text(s *string) {
	w.add(octet.PutText(*s))
}

func (w *writer) data(s *string) {
	w.add(octet.Put(len(*s), lengthWidth))
	w.add(*s, api.OK)
}

func (w *writer) names(l *[]string) {
	w.add(octet.Put(len(*l), countWidth))
	for _, name := range *l {
		w.text(&name)
	}
}

func (w *writer) qids(l *[]api.Qid) {
	w.add(octet.Put(len(*l), countWidth))
	for _, q := range *l {
		passQid(w, &q)
	}
}

func (w *writer) dir(d *api.Dir) {
	encoding, e := stat.Put(*d)
	w.add(octet.Put(len(encoding), countWidth))
	w.add(encoding, e)
}

func (w *writer) errno(e *api.Errno) {
	w.add(octet.PutText(fault.Text(*e)))
}
