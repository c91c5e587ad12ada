package wire

import (
	"strings"
	"testing"

	"filespace/api"
)

// TestFirstError checks the second error of P9.2, that of the first field that a lower layer rejects. No message that msg.Check accepts has one, so the messages are passed to the writer unchecked.
func TestFirstError(t *testing.T) {
	long := strings.Repeat("x", 65536)
	for _, x := range []struct {
		m api.Msg
		e api.Errno
	}{
		{api.Msg{Kind: api.TClunk, Tag: 1, Fid: 7}, api.OK},
		{api.Msg{Kind: api.TClunk, Tag: 65536}, api.ErrNumber},
		{api.Msg{Kind: api.TClunk, Fid: -1}, api.ErrNumber},
		{api.Msg{Kind: api.TAttach, Fid: 1 << 32, User: long}, api.ErrNumber},
		{api.Msg{Kind: api.TCreate, Name: long, Perm: -1}, api.ErrLong},
		{api.Msg{Kind: api.TWalk, Names: []string{"a", long}}, api.ErrLong},
		{api.Msg{Kind: api.TWalk, NewFid: -1, Names: []string{long}}, api.ErrNumber},
		{api.Msg{Kind: api.TWalk, Names: make([]string, 65536)}, api.ErrNumber},
		{api.Msg{Kind: api.RWalk, Qids: []api.Qid{{}, {Type: 256}}}, api.ErrNumber},
		{api.Msg{Kind: api.RWalk, Qids: make([]api.Qid, 65536)}, api.ErrNumber},
		{api.Msg{Kind: api.ROpen, Qid: api.Qid{Path: -1}, Iounit: 8}, api.ErrNumber},
		{api.Msg{Kind: api.TWstat, Stat: api.Dir{Name: "a/b"}}, api.ErrName},
		{api.Msg{Kind: api.TWstat, Fid: -1, Stat: api.Dir{Name: "a/b"}}, api.ErrNumber},
	} {
		var w writer
		pass(&w, &x.m)
		if w.e != x.e {
			t.Errorf("the error of the kind %d is %d, want %d", x.m.Kind, w.e, x.e)
		}
	}
}
