package stop_test

import (
	"errors"
	"testing"

	"metewand/api"
	"metewand/stop"
)

func TestAttempt(t *testing.T) {
	for _, x := range []struct {
		work func() string
		want string
		e    api.Errno
	}{
		{func() string { return "done" }, "done", api.OK},
		{func() string { stop.Pass(api.OK); stop.Demand(true, api.ErrName); return "done" }, "done", api.OK},
		{func() string { stop.Throw(api.ErrClash); return "done" }, "", api.ErrClash},
		{func() string { stop.Pass(api.ErrShape); return "done" }, "", api.ErrShape},
		{func() string { stop.Demand(false, api.ErrName); return "done" }, "", api.ErrName},
		{func() string { panic("something else") }, "", api.ErrLarge},
		{func() string { panic(errors.New("something else")) }, "", api.ErrLarge},
		{func() string { var list []string; return list[len(list)] }, "", api.ErrLarge},
	} {
		if s, e := stop.Attempt(x.work); s != x.want || e != x.e {
			t.Errorf("got %s, error %d; want %s, error %d", s, e, x.want, x.e)
		}
	}
}

// One attempt in another ends the inner one alone.
func TestNested(t *testing.T) {
	s, e := stop.Attempt(func() string {
		_, inner := stop.Attempt(func() int { stop.Throw(api.ErrRange); return 1 })
		return inner.Error()
	})
	if s != api.ErrRange.Error() || e != api.OK {
		t.Errorf("got %s, error %d", s, e)
	}
}
