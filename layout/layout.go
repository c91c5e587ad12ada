// Package layout lists the fields of which each kind of messages of the file protocol consists. The layers msg (8), which checks them, and wire (9), which encodes them, share this list.
package layout

import "filespace/api"

// Field is a field of a message other than Kind and Tag.
type Field int

// The fields of a message.
const (
	Fid Field = iota
	NewFid
	AuthFid
	OldTag
	Msize
	Version
	User
	Attach
	Names
	Qids
	Qid
	Iounit
	Mode
	Perm
	Name
	Offset
	Count
	Data
	Stat
	Err
	Lease
	Term
	Session
	Total // the number of the fields above
)

// Of returns the fields that a kind uses, in the order in which they are checked and encoded. A number that is no kind has none.
func Of(kind int) []Field {
	switch kind {
	case api.TVersion:
		return []Field{Msize, Version}
	case api.RVersion:
		return []Field{Msize, Version, Session}
	case api.TAuth:
		return []Field{AuthFid, User, Attach}
	case api.RAuth, api.RAttach:
		return []Field{Qid}
	case api.TAttach:
		return []Field{Fid, AuthFid, User, Attach}
	case api.RError:
		return []Field{Err}
	case api.TFlush:
		return []Field{OldTag}
	case api.TWalk:
		return []Field{Fid, NewFid, Names}
	case api.RWalk:
		return []Field{Qids}
	case api.TOpen:
		return []Field{Fid, Mode}
	case api.ROpen, api.RCreate:
		return []Field{Qid, Iounit}
	case api.TCreate:
		return []Field{Fid, Name, Perm, Mode}
	case api.TRead:
		return []Field{Fid, Offset, Count}
	case api.RRead:
		return []Field{Data}
	case api.TWrite:
		return []Field{Fid, Offset, Data}
	case api.RWrite:
		return []Field{Count}
	case api.TClunk, api.TRemove, api.TStat:
		return []Field{Fid}
	case api.RStat:
		return []Field{Stat}
	case api.TWstat:
		return []Field{Fid, Stat}
	case api.TLease:
		return []Field{Fid, Lease, Term}
	case api.RLease:
		return []Field{Qid, Lease, Term}
	case api.TResume:
		return []Field{Session}
	default:
		return nil
	}
}
