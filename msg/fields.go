package msg

import (
	"slices"

	"filespace/api"
	"filespace/path"
	"filespace/stat"
)

// field is a field of a message other than Kind and Tag.
type field int

const (
	fieldFid field = iota
	fieldNewFid
	fieldAuthFid
	fieldOldTag
	fieldMsize
	fieldVersion
	fieldUser
	fieldAttach
	fieldNames
	fieldQids
	fieldQid
	fieldIounit
	fieldMode
	fieldPerm
	fieldName
	fieldOffset
	fieldCount
	fieldData
	fieldStat
	fieldErr
	fieldLease
	fieldTerm
	fieldSession
	allFields // the number of the fields above
)

// The greatest numbers of one byte and of four bytes.
const (
	greatestByte = 1<<8 - 1
	greatestWord = 1<<32 - 1
)

// upwards is the one name in a walk that is no name of layer 3.
const upwards = ".."

// typeBits are the bits of which the type of a qid is a sum.
const typeBits = api.QAuth | api.QExcl | api.QAppend | api.QDir

// fieldsOf returns the fields that a kind uses, in the order in which they are checked.
func fieldsOf(kind int) []field {
	switch kind {
	case api.TVersion:
		return []field{fieldMsize, fieldVersion}
	case api.RVersion:
		return []field{fieldMsize, fieldVersion, fieldSession}
	case api.TAuth:
		return []field{fieldAuthFid, fieldUser, fieldAttach}
	case api.RAuth, api.RAttach:
		return []field{fieldQid}
	case api.TAttach:
		return []field{fieldFid, fieldAuthFid, fieldUser, fieldAttach}
	case api.RError:
		return []field{fieldErr}
	case api.TFlush:
		return []field{fieldOldTag}
	case api.TWalk:
		return []field{fieldFid, fieldNewFid, fieldNames}
	case api.RWalk:
		return []field{fieldQids}
	case api.TOpen:
		return []field{fieldFid, fieldMode}
	case api.ROpen, api.RCreate:
		return []field{fieldQid, fieldIounit}
	case api.TCreate:
		return []field{fieldFid, fieldName, fieldPerm, fieldMode}
	case api.TRead:
		return []field{fieldFid, fieldOffset, fieldCount}
	case api.RRead:
		return []field{fieldData}
	case api.TWrite:
		return []field{fieldFid, fieldOffset, fieldData}
	case api.RWrite:
		return []field{fieldCount}
	case api.TClunk, api.TRemove, api.TStat:
		return []field{fieldFid}
	case api.RStat:
		return []field{fieldStat}
	case api.TWstat:
		return []field{fieldFid, fieldStat}
	case api.TLease:
		return []field{fieldFid, fieldLease, fieldTerm}
	case api.RLease:
		return []field{fieldQid, fieldLease, fieldTerm}
	case api.TResume:
		return []field{fieldSession}
	default:
		return nil
	}
}

// look reports whether a field is zero, and returns the error of its value where the kind of the message uses it.
func look(m *api.Msg, f field) (isZero bool, e api.Errno) {
	switch f {
	case fieldFid:
		return number(m.Fid, api.MaxFid)
	case fieldNewFid:
		return number(m.NewFid, api.MaxFid)
	case fieldAuthFid:
		return number(m.AuthFid, greatestAuthFid(m.Kind))
	case fieldOldTag:
		return number(m.OldTag, api.MaxTag)
	case fieldMsize:
		return number(m.Msize, greatestWord)
	case fieldVersion:
		return text(m.Version, api.MaxName)
	case fieldUser:
		return text(m.User, api.MaxUserName)
	case fieldAttach:
		return text(m.Attach, api.MaxPath)
	case fieldNames:
		return len(m.Names) == 0, checkNames(m.Names)
	case fieldQids:
		return len(m.Qids) == 0, checkQids(m.Qids)
	case fieldQid:
		return m.Qid == api.Qid{}, checkQid(m.Qid)
	case fieldIounit:
		return number(m.Iounit, api.MaxMsize)
	case fieldMode:
		return number(m.Mode, greatestByte)
	case fieldPerm:
		return number(m.Perm, greatestWord)
	case fieldName:
		return m.Name == "", checkName(m.Name)
	case fieldOffset:
		return number(m.Offset, api.MaxNum)
	case fieldCount:
		return number(m.Count, api.MaxMsize)
	case fieldData:
		return text(m.Data, api.MaxMsize-api.Header)
	case fieldStat:
		return m.Stat == api.Dir{}, stat.Check(m.Stat)
	case fieldErr:
		return m.Err == api.OK, checkErr(m.Err)
	case fieldLease:
		return number(m.Lease, api.LeaseWrite)
	case fieldTerm:
		return number(m.Term, api.MaxTerm)
	default:
		return text(m.Session, api.MaxName)
	}
}

// hasOthers reports whether a field that is not among the given ones is not zero.
func hasOthers(m *api.Msg, used []field) bool {
	for f := range allFields {
		if isZero, _ := look(m, f); !isZero && !slices.Contains(used, f) {
			return true
		}
	}
	return false
}

// number looks at a field whose values are the numbers from 0 on.
func number(n, greatest int) (isZero bool, e api.Errno) {
	if n < 0 || n > greatest {
		return false, api.ErrNumber
	}
	return n == 0, api.OK
}

// text looks at a field whose values are all texts that are not too long.
func text(s string, most int) (isZero bool, e api.Errno) {
	if len(s) > most {
		return false, api.ErrLong
	}
	return s == "", api.OK
}

// greatestAuthFid returns the greatest AuthFid of a kind: an attach need not follow an authentication, which NoFid says.
func greatestAuthFid(kind int) int {
	if kind == api.TAttach {
		return api.NoFid
	}
	return api.MaxFid
}

func checkErr(e api.Errno) api.Errno {
	if e < api.ErrArg || e > api.ErrStatus {
		return api.ErrNumber
	}
	return api.OK
}

func checkName(name string) api.Errno {
	if !path.Valid(name) {
		return api.ErrName
	}
	return api.OK
}

func checkNames(names []string) api.Errno {
	if len(names) > api.MaxWalk {
		return api.ErrLong
	}
	for _, name := range names {
		if name != upwards && !path.Valid(name) {
			return api.ErrName
		}
	}
	return api.OK
}

func checkQid(q api.Qid) api.Errno {
	// A negative type has bits that no sum has.
	if q.Type&^typeBits != 0 || q.Vers < 0 || q.Vers > api.MaxVers || q.Path < 0 || q.Path > api.MaxId {
		return api.ErrNumber
	}
	return api.OK
}

func checkQids(qids []api.Qid) api.Errno {
	if len(qids) > api.MaxWalk {
		return api.ErrLong
	}
	for _, q := range qids {
		if e := checkQid(q); e != api.OK {
			return e
		}
	}
	return api.OK
}
