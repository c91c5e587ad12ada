package msg

import (
	"slices"

	"filespace/api"
	"filespace/layout"
	"filespace/path"
	"filespace/stat"
)

// The greatest numbers of one byte and of four bytes.
const (
	greatestByte = 1<<8 - 1
	greatestWord = 1<<32 - 1
)

// upwards is the one name in a walk that is no name of layer 3.
const upwards = ".."

// typeBits are the bits of which the type of a qid is a sum.
const typeBits = api.QAuth | api.QExcl | api.QAppend | api.QDir

// look reports whether a field is zero, and returns the error of its value where the kind of the message uses it.
func look(m *api.Msg, f layout.Field) (isZero bool, e api.Errno) {
	switch f {
	case layout.Fid:
		return number(m.Fid, api.MaxFid)
	case layout.NewFid:
		return number(m.NewFid, api.MaxFid)
	case layout.AuthFid:
		return number(m.AuthFid, greatestAuthFid(m.Kind))
	case layout.OldTag:
		return number(m.OldTag, api.MaxTag)
	case layout.Msize:
		return number(m.Msize, greatestWord)
	case layout.Version:
		return text(m.Version, api.MaxName)
	case layout.User:
		return text(m.User, api.MaxUserName)
	case layout.Attach:
		return text(m.Attach, api.MaxPath)
	case layout.Names:
		return len(m.Names) == 0, checkNames(m.Names)
	case layout.Qids:
		return len(m.Qids) == 0, checkQids(m.Qids)
	case layout.Qid:
		return m.Qid == api.Qid{}, checkQid(m.Qid)
	case layout.Iounit:
		return number(m.Iounit, api.MaxMsize)
	case layout.Mode:
		return number(m.Mode, greatestByte)
	case layout.Perm:
		return number(m.Perm, greatestWord)
	case layout.Name:
		return m.Name == "", checkName(m.Name)
	case layout.Offset:
		return number(m.Offset, api.MaxNum)
	case layout.Count:
		return number(m.Count, api.MaxMsize)
	case layout.Data:
		return text(m.Data, api.MaxMsize-api.Header)
	case layout.Stat:
		return m.Stat == api.Dir{}, stat.Check(m.Stat)
	case layout.Err:
		return m.Err == api.OK, checkErr(m.Err)
	case layout.Lease:
		return number(m.Lease, api.LeaseWrite)
	case layout.Term:
		return number(m.Term, api.MaxTerm)
	default:
		return text(m.Session, api.MaxName)
	}
}

// hasOthers reports whether a field that is not among the given ones is not zero.
func hasOthers(m *api.Msg, used []layout.Field) bool {
	for f := range layout.Total {
		if isZero, _ := look(m, f); !isZero && !slices.Contains(used, f) {
			return true
		}
	}
	return false
}

// number looks at a field whose values are the numbers from 0 on.
func number(n, greatest int) (isZero bool, e api.Errno) {
	if n < 0 || n > greatest {
		return false, api.ErrNumber
	}
	return n == 0, api.OK
}

// text looks at a field whose values are all texts that are not too long.
func text(s string, most int) (isZero bool, e api.Errno) {
	if len(s) > most {
		return false, api.ErrLong
	}
	return s == "", api.OK
}

// greatestAuthFid returns the greatest AuthFid of a kind: an attach need not follow an authentication, which NoFid says.
func greatestAuthFid(kind int) int {
	if kind == api.TAttach {
		return api.NoFid
	}
	return api.MaxFid
}

func checkErr(e api.Errno) api.Errno {
	if e < api.ErrArg || e > api.ErrStatus {
		return api.ErrNumber
	}
	return api.OK
}

func checkName(name string) api.Errno {
	if !path.Valid(name) {
		return api.ErrName
	}
	return api.OK
}

func checkNames(names []string) api.Errno {
	if len(names) > api.MaxWalk {
		return api.ErrLong
	}
	for _, name := range names {
		if name != upwards && !path.Valid(name) {
			return api.ErrName
		}
	}
	return api.OK
}

func checkQid(q api.Qid) api.Errno {
	// A negative type has bits that no sum has.
	if q.Type&^typeBits != 0 || q.Vers < 0 || q.Vers > api.MaxVers || q.Path < 0 || q.Path > api.MaxId {
		return api.ErrNumber
	}
	return api.OK
}

func checkQids(qids []api.Qid) api.Errno {
	if len(qids) > api.MaxWalk {
		return api.ErrLong
	}
	for _, q := range qids {
		if e := checkQid(q); e != api.OK {
			return e
		}
	}
	return api.OK
}
