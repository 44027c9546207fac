package vault

import (
	"strings"
	"testing"

	"sealwax/api"
	"sealwax/disk"
	"sealwax/suite"
)

// TestAllNumbers: a vault begins 2^20 - 1 commits; another one is ErrFull, which changes nothing. Most of them are skipped here.
func TestAllNumbers(t *testing.T) {
	tr := &Trusted{}
	c := Config{Pages: 3, Journal: 9}
	d, s := disk.New(c.Disk(), 9), suite.Ideal("tape")
	v, e := Format(d, s, tr, c)
	if e != api.OK {
		t.Fatal(e)
	}
	v.begun = 1<<20 - 3
	data := strings.Repeat("a", 240)
	for i := range 2 {
		v.Write(i, data)
		if e := v.Commit(); e != api.OK || tr.Commit != 1<<21-2+i {
			t.Errorf("commit %d: error %d, number %d", i, e, tr.Commit)
		}
	}
	if e := v.Commit(); e != api.OK {
		t.Errorf("Commit of nothing: error %d", e)
	}
	v.Write(2, data)
	drawn, steps := s.Drawn(), d.Steps()
	for range 3 {
		if e := v.Commit(); e != api.ErrFull || tr.Commit != 1<<21-1 || s.Drawn() != drawn || d.Steps() != steps {
			t.Errorf("one more: error %d, number %d", e, tr.Commit)
		}
	}
	if x, e := v.Read(2); x != data || e != api.OK || v.Err() != api.OK || len(v.Dirty()) != 1 {
		t.Errorf("after it: error %d", e)
	}
	w, e := Open(d, s, tr, c)
	if e != api.OK {
		t.Fatal(e)
	}
	w.Write(2, data)
	if e := w.Commit(); e != api.OK || tr.Commit != 1<<21+1 {
		t.Errorf("the next vault: error %d, number %d", e, tr.Commit)
	}
}
