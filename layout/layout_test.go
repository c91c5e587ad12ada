package layout_test

import (
	"math"
	"slices"
	"testing"

	"filespace/api"
	"filespace/layout"
)

// TestOf checks some kinds of the table; the tests of msg and wire check all of them by the chapters' tables.
func TestOf(t *testing.T) {
	for kind, want := range map[int][]layout.Field{
		api.TAttach: {layout.Fid, layout.AuthFid, layout.User, layout.Attach},
		api.TCreate: {layout.Fid, layout.Name, layout.Perm, layout.Mode},
		api.RLease:  {layout.Qid, layout.Lease, layout.Term},
		api.RError:  {layout.Err},
		api.RFlush:  nil,
	} {
		if l := layout.Of(kind); !slices.Equal(l, want) {
			t.Errorf("Of(%d) is %v, want %v", kind, l, want)
		}
	}
}

// TestOfAll checks that every field is used by a kind and none twice by the same one, and that a number that is no kind has no fields.
func TestOfAll(t *testing.T) {
	seen := map[layout.Field]bool{}
	for kind := range 1000 {
		l := layout.Of(kind)
		for i, f := range l {
			if f < 0 || f >= layout.Total || slices.Contains(l[:i], f) {
				t.Errorf("Of(%d) is %v", kind, l)
			}
			seen[f] = true
		}
		if isKind := api.TVersion <= kind && kind <= api.RResume && kind != 106; !isKind && len(l) > 0 {
			t.Errorf("Of(%d) is %v", kind, l)
		}
	}
	if len(seen) != int(layout.Total) {
		t.Errorf("only %d fields are used", len(seen))
	}
	for _, kind := range []int{math.MinInt, -110, -1, math.MaxInt} {
		if l := layout.Of(kind); len(l) > 0 {
			t.Errorf("Of(%d) is %v", kind, l)
		}
	}
}

// TestOfIsNew checks that a caller who changes a result changes no later one.
func TestOfIsNew(t *testing.T) {
	layout.Of(api.TClunk)[0] = layout.Session
	if l := layout.Of(api.TClunk); l[0] != layout.Fid {
		t.Errorf("Of(TClunk) is %v", l)
	}
}
