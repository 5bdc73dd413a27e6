package fault_test

import (
	"testing"

	"loggia/api"
	"loggia/fault"
)

func TestCaughtTellsWhatMustPanicsWith(t *testing.T) {
	for _, e := range []api.Errno{api.ErrArg, api.ErrForm, api.ErrDown} {
		behind := false
		got := fault.Caught(func() {
			fault.Must(false, e)
			behind = true
		})
		if got != e || behind {
			t.Errorf("told %v for %v, went on: %v", got, e, behind)
		}
	}
}

func TestCaughtTellsTheFirstError(t *testing.T) {
	got := fault.Caught(func() {
		fault.Must(true, api.ErrArg)
		fault.Must(false, api.ErrForm)
		fault.Must(false, api.ErrLong)
	})
	if got != api.ErrForm {
		t.Errorf("told %v", got)
	}
}

func TestCaughtTellsOKAtTheEnd(t *testing.T) {
	done := false
	got := fault.Caught(func() {
		fault.Must(true, api.ErrForm)
		done = true
	})
	if got != api.OK || !done {
		t.Errorf("told %v, done: %v", got, done)
	}
}

func TestCaughtHidesNoOtherPanic(t *testing.T) {
	defer func() {
		if x := recover(); x != "a mistake" {
			t.Errorf("caught %v", x)
		}
	}()
	e := fault.Caught(func() { panic("a mistake") })
	t.Errorf("answered %v", e)
}
