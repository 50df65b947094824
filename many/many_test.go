package many

import (
	"errors"
	"fmt"
	"runtime"
	"slices"
	"strings"
	"sync"
	"testing"
	"time"

	"clepsydra/api"
	"clepsydra/desk"
)

// texts are so many sessions, no two of them alike, some of them long; and their answers,
// one by one.
func texts(many int) (asked, want []string) {
	for i := range many {
		s := fmt.Sprintf("eval %d\nadd chart c { input a; output x := %d; region { initial state s { during x := x + a; } } }\nnew\ntick\n", i, -i)
		s += strings.Repeat(fmt.Sprintf("tick %d\ncode %d\n", i, i%61), i*7%40)
		switch i % 10 {
		case 3:
			s = ""
		case 7:
			s = strings.Repeat("x", api.MaxText+i)
		}
		asked = append(asked, s)
		want = append(want, desk.Session(s))
	}
	return asked, want
}

// Promise 16.1: each text's session, in order, however many workers there are.
func TestAll(t *testing.T) {
	for _, many := range []int{0, 1, 2, 3, 15, 16, 17, 49, 50} {
		asked, want := texts(many)
		for workers := 1; workers <= 16; workers++ {
			got, err := All(asked, workers)
			if err != nil || !slices.Equal(got, want) {
				t.Fatalf("%d texts, %d workers: %.900q, %v", many, workers, got, err)
			}
		}
	}
	if got, err := All([]string{"eval 1", "", "eval 3\n\n", "zz"}, 2); err != nil || !slices.Equal(got, []string{"eval 1\n", "ok\n", "eval 3\nok\n", "error 3\n"}) {
		t.Errorf("%q, %v", got, err)
	}
	if got, err := All(nil, 5); err != nil || len(got) != 0 {
		t.Errorf("of nothing %q, %v", got, err)
	}
}

// Promise 16.1: at most 50 texts, and from 1 to 16 workers; no place is told, and nothing
// else.
func TestLimit(t *testing.T) {
	for _, c := range []struct{ texts, workers int }{
		{0, 0}, {0, 17}, {0, -1}, {1, 0}, {1, 17}, {3, -1}, {3, 1 << 40}, {3, -1 << 63}, {50, 0}, {50, 17}, {51, 1}, {51, 16}, {51, 0}, {51, 17}, {1000, 4}, {100000, 16},
	} {
		got, err := All(make([]string, c.texts), c.workers)
		var at *api.At
		if api.Tell(err) != api.ErrLimit || errors.As(err, &at) || got != nil {
			t.Errorf("%d texts, %d workers: %d answers, %v", c.texts, c.workers, len(got), err)
		}
	}
	for _, c := range []struct{ texts, workers int }{{0, 1}, {0, 16}, {1, 16}, {50, 1}, {50, 16}} {
		got, err := All(make([]string, c.texts), c.workers)
		if err != nil || len(got) != c.texts {
			t.Errorf("%d texts, %d workers: %d answers, %v", c.texts, c.workers, len(got), err)
		}
	}
}

// Rule P4: the texts are not written into, nor what stands behind them; answers are fresh.
func TestMemory(t *testing.T) {
	whole := []string{"eval 1", "eval 2", "eval 3", "eval 4"}
	asked := whole[:2]
	first, err := All(asked, 3)
	if err != nil {
		t.Fatal(err)
	}
	again, err := All(asked, 3)
	if err != nil {
		t.Fatal(err)
	}
	first = first[:cap(first)]
	for i := range first {
		first[i] = "spoilt"
	}
	if !slices.Equal(again, []string{"eval 1\n", "eval 2\n"}) || !slices.Equal(whole, []string{"eval 1", "eval 2", "eval 3", "eval 4"}) {
		t.Errorf("%q, and of %q", again, whole)
	}
}

// Promise 16.1: calls at the same time have nothing to do with each other.
func TestAtOnce(t *testing.T) {
	asked, want := texts(20)
	var group sync.WaitGroup
	for i := range 12 {
		group.Add(1)
		go func() {
			defer group.Done()
			got, err := All(asked[i:], 1+i)
			if err != nil || !slices.Equal(got, want[i:]) {
				t.Errorf("from %d on: %.900q, %v", i, got, err)
			}
		}()
	}
	group.Wait()
}

// No worker is left when the call answers, with an error or without.
func TestNobodyIsLeft(t *testing.T) {
	asked, _ := texts(5)
	before := runtime.NumGoroutine()
	for range 50 {
		All(asked[:3], 16)
		All(nil, 16)
		All(asked, 17)
	}
	// One that is done may yet be on its way out.
	for range 200 {
		if runtime.NumGoroutine() <= before {
			return
		}
		time.Sleep(time.Millisecond)
	}
	t.Errorf("%d are left", runtime.NumGoroutine()-before)
}
