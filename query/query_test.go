package query

import (
	"errors"
	"fmt"
	"math"
	"runtime"
	"slices"
	"strings"
	"sync"
	"testing"
	"time"

	"amanuensis/api"
)

// sheet makes one of rules that are sound.
func sheet(t *testing.T, rules ...api.Rule) *Sheet {
	t.Helper()
	s, err := New(rules)
	if err != nil || s == nil {
		t.Fatalf("%v: %v", rules, err)
	}
	return s
}

// name of an error: OK, or one of the program's.
func name(err error) string {
	if err == nil {
		return "OK"
	}
	var e api.Errno
	if !errors.As(err, &e) || e == api.OK {
		return "?"
	}
	return e.Error()
}

// play does calls, and tells what comes of them: `set K V`, `get K`, `some K MOST`, `crew WORKERS KEYS`, `runs`.
func play(s *Sheet, calls string) string {
	var told []string
	for _, call := range strings.Split(calls, "; ") {
		word, rest, _ := strings.Cut(call, " ")
		var n []int
		for _, f := range strings.Fields(rest) {
			k := 0
			fmt.Sscan(f, &k)
			n = append(n, k)
		}
		told = append(told, played(s, word, n))
	}
	return strings.Join(told, "; ")
}

func played(s *Sheet, word string, n []int) string {
	switch word {
	case "set":
		return name(s.Set(n[0], n[1]))
	case "get":
		v, err := s.Get(n[0])
		return toldOf(v, err)
	case "some":
		v, err := s.Some(n[0], n[1])
		return toldOf(v, err)
	case "crew":
		v, e, err := s.Crew(n[1:], n[0])
		if err != nil {
			return name(err) + strings.Repeat(" and more", len(v)+len(e))
		}
		return fmt.Sprint(v, e)
	}
	return fmt.Sprint(s.Runs())
}

// toldOf gives a number, or the name of an error, beside which there must be a 0.
func toldOf(v int, err error) string {
	if err == nil || v != 0 {
		return fmt.Sprint(v) + strings.TrimPrefix(name(err), "OK")
	}
	return name(err)
}

// plays holds what comes of calls, on one sheet, against what should.
func plays(t *testing.T, s *Sheet, cases [][2]string) {
	t.Helper()
	for i, c := range cases {
		if got := play(s, c[0]); got != c[1] {
			t.Errorf("%d: %s: got %s, want %s", i, c[0], got, c[1])
		}
	}
}

func input() api.Rule             { return api.Rule{Op: api.QInput} }
func add(a, b int) api.Rule       { return api.Rule{Op: api.QAdd, A: a, B: b} }
func mul(a, b int) api.Rule       { return api.Rule{Op: api.QMul, A: a, B: b} }
func less(a, b int) api.Rule      { return api.Rule{Op: api.QLess, A: a, B: b} }
func pick(a, b, c int) api.Rule   { return api.Rule{Op: api.QPick, A: a, B: b, C: c} }
func low(a int) api.Rule          { return api.Rule{Op: api.QLow, A: a} }
func inputs(count int) []api.Rule { return make([]api.Rule, count) }

// example is the sheet of the chapter's table.
func example(t *testing.T) *Sheet {
	t.Helper()
	return sheet(t, input(), input(), add(0, 1), low(2), pick(3, 2, 5), add(4, 0))
}

func TestQ3TheExample(t *testing.T) {
	plays(t, example(t), [][2]string{
		{"set 0 3; get 4", "OK; 3"},
		{"set 1 4; get 3; runs", "OK; 3; [0 0 2 2 1 0]"},
		{"get 4; runs", "7; [0 0 2 2 2 0]"},
		{"set 0 0; set 1 0; get 4; get 5", "OK; OK; ErrRing; ErrRing"},
		{"runs", "[0 0 3 3 3 1]"},
	})
}

func TestQ1Numbers(t *testing.T) {
	const most, least = math.MaxInt, math.MinInt
	for _, c := range []struct{ op, a, b, want int }{
		{api.QAdd, 0, 0, 0},
		{api.QAdd, 1, 2, 3},
		{api.QAdd, 1000002, 0, 1000002},
		{api.QAdd, 1000002, 1, 0},
		{api.QAdd, 1000003, 1000003, 0},
		{api.QAdd, 1000002, 1000002, 1000001},
		{api.QAdd, -1, 0, 1000002},
		{api.QAdd, -1, -1, 1000001},
		{api.QAdd, -1000003, 0, 0},
		{api.QAdd, -5, 7, 2},
		{api.QAdd, most, most, 350685},
		{api.QAdd, least, least, 649316},
		{api.QAdd, most, least, 1000002},
		{api.QMul, 0, 7, 0},
		{api.QMul, 3, 4, 12},
		{api.QMul, 1000, 1001, 1001000 - 1000003},
		{api.QMul, 1000003, 5, 0},
		{api.QMul, 1000002, 1000002, 1},
		{api.QMul, -1, 1, 1000002},
		{api.QMul, -2, -3, 6},
		{api.QMul, most, 1, 675344},
		{api.QMul, most, most, 150072},
		{api.QMul, least, most, 174587},
		{api.QMul, least, least, 500758},
		{api.QLess, 1, 2, 1},
		{api.QLess, 2, 2, 0},
		{api.QLess, 3, 2, 0},
		{api.QLess, -1, 0, 1},
		{api.QLess, 1000004, 5, 0},
		{api.QLess, least, most, 1},
		{api.QLess, most, least, 0},
		{api.QLow, 0, 9, 0},
		{api.QLow, 3, 9, 3},
		{api.QLow, 4, 9, 0},
		{api.QLow, 1000006, 9, 2},
		{api.QLow, -1, 9, 3},
		{api.QLow, -3, 9, 1},
		{api.QLow, -4, 9, 0},
		{api.QLow, most, 9, 3},
		{api.QLow, least, 9, 0},
		{api.QLow, least + 1, 9, 1},
		{api.QPick, 1, 7, 7},
		{api.QPick, -1, 7, 7},
		{api.QPick, most, least, least},
		{api.QPick, least, -7, -7},
		{api.QPick, 0, 7, 44},
	} {
		s := sheet(t, input(), input(), input(), api.Rule{Op: c.op, A: 0, B: 1, C: 2})
		s.Set(0, c.a)
		s.Set(1, c.b)
		s.Set(2, 44)
		if got, err := s.Get(3); got != c.want || err != nil {
			t.Errorf("%+v: %d, %v", c, got, err)
		}
	}
}

func TestQ1Inputs(t *testing.T) {
	s := sheet(t, input(), low(0), input())
	plays(t, s, [][2]string{
		{"get 0; get 2", "0; 0"},
		{"set 0 -9223372036854775808; set 2 9223372036854775807", "OK; OK"},
		{"get 0; get 2; set 2 -5; get 2", "-9223372036854775808; 9223372036854775807; OK; -5"},
		{"runs", "[0 0 0]"},
	})
}

func TestQ1OneCellTwice(t *testing.T) {
	s := sheet(t, input(), add(0, 0), mul(1, 1), less(2, 2), pick(2, 2, 2))
	plays(t, s, [][2]string{
		{"set 0 5; crew 1 1 2 3 4", "OK; [10 100 0 100] [OK OK OK OK]"},
		{"runs", "[0 1 1 1 1]"},
		{"set 0 -5; crew 1 1 2 3 4", "OK; [999993 100 0 100] [OK OK OK OK]"},
		{"runs", "[0 2 2 1 1]"},
	})
}

func TestQ1FaultsOfNew(t *testing.T) {
	bad := api.Rule{Op: api.QLow + 1}
	for _, c := range []struct {
		rules []api.Rule
		want  string
	}{
		{nil, "OK"},
		{inputs(1), "OK"},
		{inputs(api.MaxKeys), "OK"},
		{inputs(api.MaxKeys + 1), "ErrFull"},
		{append(inputs(api.MaxKeys), bad), "ErrFull"},
		{append(inputs(api.MaxKeys-1), bad), "ErrRange"},
		{append(inputs(api.MaxKeys), low(-1)), "ErrFull"},
		{append([]api.Rule{bad}, inputs(1000)...), "ErrFull"},
		{append(inputs(api.MaxKeys-1), low(api.MaxKeys-1)), "OK"},
		{append(inputs(api.MaxKeys-1), low(api.MaxKeys)), "ErrRange"},
		{[]api.Rule{bad}, "ErrRange"},
		{[]api.Rule{input(), {Op: -1}}, "ErrRange"},
		{[]api.Rule{{Op: math.MinInt}}, "ErrRange"},
		{[]api.Rule{{Op: math.MaxInt}}, "ErrRange"},
		{[]api.Rule{low(0)}, "OK"},
		{[]api.Rule{low(1), input()}, "OK"},
		{[]api.Rule{low(1)}, "ErrRange"},
	} {
		s, err := New(c.rules)
		if name(err) != c.want || (s == nil) != (err != nil) {
			t.Errorf("%d rules, %v: %v, %v", len(c.rules), c.rules[:min(2, len(c.rules))], s, err)
		}
	}
}

// Each Op is given a number of no cell in each place: that is wrong where it looks at the place, and nothing else is.
func TestQ1WhatIsLookedAt(t *testing.T) {
	looks := map[int]string{api.QInput: "", api.QAdd: "AB", api.QMul: "AB", api.QLess: "AB", api.QPick: "ABC", api.QLow: "A"}
	for op, at := range looks {
		for _, off := range []int{-1, 3, math.MinInt, math.MaxInt} {
			for _, place := range []string{"A", "B", "C"} {
				r := api.Rule{Op: op, A: 1, B: 1, C: 1}
				switch place {
				case "A":
					r.A = off
				case "B":
					r.B = off
				case "C":
					r.C = off
				}
				want := "OK"
				if strings.Contains(at, place) {
					want = "ErrRange"
				}
				s, err := New([]api.Rule{input(), input(), r})
				if name(err) != want || (s == nil) != (err != nil) {
					t.Errorf("%+v: %v, want %s", r, err, want)
				}
				if s != nil {
					if _, err := s.Get(2); err != nil {
						t.Errorf("%+v: %v", r, err)
					}
				}
			}
		}
	}
}

func TestQ1Rings(t *testing.T) {
	for _, c := range []struct {
		rules []api.Rule
		calls string
		want  string
	}{
		{[]api.Rule{low(0)}, "get 0; runs", "ErrRing; [1]"},
		{[]api.Rule{add(0, 0)}, "get 0; get 0; runs", "ErrRing; ErrRing; [1]"},
		{[]api.Rule{low(1), low(0)}, "get 1; get 0; runs", "ErrRing; ErrRing; [1 1]"},
		{[]api.Rule{low(1), low(2), low(0)}, "get 2; runs", "ErrRing; [1 1 1]"},
		// Led to a ring, but not in it: it has ErrRing too.
		{[]api.Rule{low(0), low(0), add(3, 1), input()}, "get 2; runs", "ErrRing; [1 1 1 0]"},
		// What stands behind the ring is not led to.
		{[]api.Rule{low(0), input(), add(0, 3), low(1)}, "get 2; runs", "ErrRing; [1 0 1 0]"},
		{[]api.Rule{low(0), input(), add(3, 0), low(1)}, "get 2; runs", "ErrRing; [1 0 1 1]"},
		{[]api.Rule{low(0), input(), pick(0, 3, 3), low(1)}, "get 2; runs", "ErrRing; [1 0 1 0]"},
		// A ring that no rule is led to does no harm.
		{[]api.Rule{low(0), input(), pick(1, 0, 3), low(1)}, "get 2; runs", "0; [0 0 1 1]"},
		{[]api.Rule{low(0), input(), pick(1, 0, 3), low(1)}, "set 1 5; get 2; runs", "OK; ErrRing; [1 0 1 0]"},
		{[]api.Rule{low(0), input(), pick(1, 3, 0), low(1)}, "set 1 5; get 2; get 0; runs", "OK; 1; ErrRing; [1 0 1 1]"},
		// A pick that may be led to itself, and is not.
		{[]api.Rule{pick(1, 1, 0), input()}, "set 1 2; get 0; set 1 0; get 0; runs", "OK; 2; OK; ErrRing; [2 0]"},
		{[]api.Rule{pick(0, 1, 1), input()}, "get 0; runs", "ErrRing; [1 0]"},
	} {
		if got := play(sheet(t, c.rules...), c.calls); got != c.want {
			t.Errorf("%v: %s: got %s, want %s", c.rules, c.calls, got, c.want)
		}
	}
}

func TestQ2Faults(t *testing.T) {
	plays(t, example(t), [][2]string{
		{"set -1 1; set 6 1; set 2 1; set 3 1; set 4 1; set 5 1", "ErrRange; ErrRange; ErrRange; ErrRange; ErrRange; ErrRange"},
		{"set 2 0; set -9223372036854775808 0; set 9223372036854775807 0", "ErrRange; ErrRange; ErrRange"},
		{"get -1; get 6; get -9223372036854775808; get 9223372036854775807", "ErrRange; ErrRange; ErrRange; ErrRange"},
		{"runs", "[0 0 0 0 0 0]"},
		{"set 0 2; get 4; runs", "OK; 2; [0 0 1 1 1 0]"},
		{"set 2 7; set 9 7; get -1; get 6; get 4; runs", "ErrRange; ErrRange; ErrRange; ErrRange; 2; [0 0 1 1 1 0]"},
	})
	plays(t, sheet(t), [][2]string{
		{"set 0 0; get 0; some 0 9; crew 1 0; crew 1; runs", "ErrRange; ErrRange; ErrRange; ErrRange; [] []; []"},
	})
}

func TestQ3WhatIsNotRunAgain(t *testing.T) {
	plays(t, example(t), [][2]string{
		{"set 0 3; get 4; runs", "OK; 3; [0 0 1 1 1 0]"},
		{"get 4; get 3; get 2; runs", "3; 3; 3; [0 0 1 1 1 0]"},
		// An input that is set to the number that it has.
		{"set 0 3; set 1 0; get 4; runs", "OK; OK; 3; [0 0 1 1 1 0]"},
		// One that was another number in between.
		{"set 0 9; set 0 3; get 4; runs", "OK; OK; 3; [0 0 1 1 1 0]"},
		// 2 is the same: 3 and 4 are brought up to date, and not run.
		{"set 0 1; set 1 2; get 4; runs", "OK; OK; 3; [0 0 2 1 1 0]"},
		// What nobody asks for is not run.
		{"set 0 8; set 1 8; runs", "OK; OK; [0 0 2 1 1 0]"},
		{"get 2; runs", "16; [0 0 3 1 1 0]"},
	})
	// 3 is the same, of another 2: 4 is not run, since it was led to 3 and an input alone.
	plays(t, sheet(t, input(), input(), add(0, 1), low(2), add(3, 1)), [][2]string{
		{"set 0 1; get 4; runs", "OK; 1; [0 0 1 1 1]"},
		{"set 0 5; get 4; runs", "OK; 1; [0 0 2 2 1]"},
		{"set 1 4; get 4; runs", "OK; 5; [0 0 3 3 2]"},
	})
}

// Those to which a rule was led are brought up to date in order, and none behind the first one that is another.
func TestQ3NothingBehindWhatIsAnother(t *testing.T) {
	rules := []api.Rule{input(), input(), input(), low(0), low(1), low(2), pick(3, 4, 5)}
	plays(t, sheet(t, rules...), [][2]string{
		{"set 0 1; set 1 2; set 2 3; get 6; runs", "OK; OK; OK; 2; [0 0 0 1 1 0 1]"},
		{"set 0 0; set 1 3; get 6; runs", "OK; OK; 3; [0 0 0 2 1 1 2]"}, // 4 is no longer led to
		{"set 2 2; get 6; runs", "OK; 2; [0 0 0 2 1 2 3]"},
		{"set 1 1; get 6; runs", "OK; 2; [0 0 0 2 1 2 3]"},
		{"set 0 4; get 6; runs", "OK; 2; [0 0 0 3 1 2 3]"}, // 3 is run, and the same
		{"set 0 5; get 6; runs", "OK; 1; [0 0 0 4 2 2 4]"},
	})
	// Another number that picks the same cell: the rule is run.
	plays(t, sheet(t, input(), input(), pick(0, 1, 1)), [][2]string{
		{"set 0 1; set 1 5; get 2; set 0 2; get 2; runs", "OK; OK; 5; OK; 5; [0 0 2]"},
		{"set 0 0; get 2; runs", "OK; 5; [0 0 3]"},
	})
}

func TestQ3WhatARingLeaves(t *testing.T) {
	// 3 is cut short at 2, and remembers nothing behind it: 5 may be what it likes.
	rules := []api.Rule{input(), input(), pick(0, 0, 2), add(2, 5), input(), low(4)}
	plays(t, sheet(t, rules...), [][2]string{
		{"get 3; runs", "ErrRing; [0 0 1 1 0 0]"},
		{"set 4 3; get 3; runs", "OK; ErrRing; [0 0 1 1 0 0]"},
		{"set 1 3; get 2; runs", "OK; ErrRing; [0 0 1 1 0 0]"},
		{"set 0 2; get 3; runs", "OK; 5; [0 0 2 2 0 1]"},
		{"set 4 2; get 3; runs", "OK; 4; [0 0 2 3 0 2]"},
		{"set 0 0; get 3; runs", "OK; ErrRing; [0 0 3 4 0 2]"},
		{"set 4 1; get 3; runs", "OK; ErrRing; [0 0 3 4 0 2]"},
		{"set 0 2; get 3; runs", "OK; 3; [0 0 4 5 0 3]"},
	})
	// All of a ring are up to date behind the first question, and are checked behind a Set, from wherever it is asked.
	plays(t, sheet(t, input(), pick(0, 0, 2), low(3), low(1), input()), [][2]string{
		{"get 2; get 1; get 3; runs", "ErrRing; ErrRing; ErrRing; [0 1 1 1 0]"},
		{"set 4 1; get 3; get 2; get 1; runs", "OK; ErrRing; ErrRing; ErrRing; [0 1 1 1 0]"},
		{"set 0 7; get 3; get 2; get 1; runs", "OK; 3; 3; 7; [0 2 2 2 0]"},
		{"set 0 0; get 1; get 2; get 3; runs", "OK; ErrRing; ErrRing; ErrRing; [0 3 3 3 0]"},
		{"set 0 3; get 2; runs", "OK; 3; [0 4 4 4 0]"},
		{"set 0 0; get 3; runs", "OK; ErrRing; [0 5 5 5 0]"},
	})
	// One that comes back while it is checked, not run: 1 is asked, 2 was led elsewhere.
	plays(t, sheet(t, input(), add(2, 3), pick(0, 1, 3), input()), [][2]string{
		{"set 3 4; get 1; runs", "OK; 8; [0 1 1 0]"},
		{"set 0 1; get 1; runs", "OK; ErrRing; [0 2 2 0]"},
		{"set 3 5; get 2; runs", "OK; ErrRing; [0 2 2 0]"},
		{"set 0 0; get 2; get 1; runs", "OK; 5; 10; [0 3 3 0]"},
	})
}

// A cell is up to date only till an input is another number, whether it hangs on that or not; the check runs nothing.
func TestQ3ChecksRunNothing(t *testing.T) {
	rules := []api.Rule{input(), input()}
	for k := 2; k < api.MaxKeys; k++ {
		rules = append(rules, add(k-1, k-1))
	}
	s := sheet(t, rules...)
	s.Set(1, 1)
	if _, err := s.Get(api.MaxKeys - 1); err != nil {
		t.Fatal(err)
	}
	once := s.Runs()
	for i := range 200 {
		s.Set(0, i+1)
		s.Get(api.MaxKeys - 1 - i%3)
	}
	if got := s.Runs(); !slices.Equal(got, once) || slices.Max(got) != 1 {
		t.Errorf("got %v, want %v", got, once)
	}
}

func TestQ4Enough(t *testing.T) {
	plays(t, example(t), [][2]string{
		{"set 0 3; some 4 2; runs", "OK; ErrCancel; [0 0 0 0 0 0]"},
		{"some 4 0; some 4 1; some 2 0; runs", "ErrCancel; ErrCancel; ErrCancel; [0 0 0 0 0 0]"},
		{"some 4 3; runs", "3; [0 0 1 1 1 0]"},
		{"some 4 0; some 3 0; some 0 0; some 1 0", "3; 3; 3; 0"},
		{"set 1 4; some 4 0; some 4 1; some 4 2; runs", "OK; ErrCancel; ErrCancel; ErrCancel; [0 0 1 1 1 0]"},
		// Two of the three are brought up to date by another question.
		{"some 3 1; some 3 2; some 4 0; some 4 1; runs", "ErrCancel; 3; ErrCancel; 7; [0 0 2 2 2 0]"},
		// All is checked, and nothing needs a run.
		{"set 0 9; set 0 3; some 4 0; runs", "OK; OK; 7; [0 0 2 2 2 0]"},
		// A ring that takes more runs than enough is none yet.
		{"set 0 0; set 1 0; some 5 3; some 4 3; runs", "OK; OK; ErrCancel; ErrCancel; [0 0 2 2 2 0]"},
		{"some 4 4; some 5 0; runs", "ErrRing; ErrRing; [0 0 3 3 3 1]"},
		{"some 4 9223372036854775807", "ErrRing"},
	})
}

func TestQ4Faults(t *testing.T) {
	plays(t, example(t), [][2]string{
		{"some -1 9; some 6 9; some 4 -1; some 0 -1; some 9 -1", "ErrRange; ErrRange; ErrRange; ErrRange; ErrRange"},
		{"some 4 -9223372036854775808; some -9223372036854775808 0; some 9223372036854775807 0", "ErrRange; ErrRange; ErrRange"},
		{"runs", "[0 0 0 0 0 0]"},
		{"get 4; runs", "ErrRing; [0 0 1 1 1 1]"},
	})
}

// Behind an ErrCancel all is as if it had not been asked: also what cells remember, and which are up to date.
func TestQ4AsIfNotAsked(t *testing.T) {
	script := []string{"set 0 3", "get 4", "set 1 4", "get 3", "set 1 2", "get 5", "set 0 0", "set 1 0", "get 5", "set 0 1", "get 4", "get 5"}
	plain, asked := example(t), example(t)
	for _, call := range script {
		if a, b := play(plain, call+"; runs"), play(asked, call+"; runs"); a != b {
			t.Fatalf("%s: got %s, want %s", call, b, a)
		}
		for k := range 6 {
			for most := 0; play(asked, fmt.Sprint("some ", k, " ", most)) == "ErrCancel"; most++ {
				if a, b := plain.Runs(), asked.Runs(); !slices.Equal(a, b) {
					t.Fatalf("%s, then some %d %d: got %v, want %v", call, k, most, b, a)
				}
			}
			play(plain, fmt.Sprint("get ", k))
		}
	}
}

func TestQ5Crews(t *testing.T) {
	for workers := 1; workers <= api.MaxCrew; workers++ {
		crew := func(keys string) string { return fmt.Sprint("crew ", workers, " ", keys) }
		plays(t, example(t), [][2]string{
			{"set 0 3; " + crew("4 3") + "; runs", "OK; [3 3] [OK OK]; [0 0 1 1 1 0]"},
			{crew("4 4 0 4 1 0") + "; runs", "[3 3 3 3 0 3] [OK OK OK OK OK OK]; [0 0 1 1 1 0]"},
			{crew("") + "; runs", "[] []; [0 0 1 1 1 0]"},
			{"set 1 4; " + crew("3") + "; runs", "OK; [3] [OK]; [0 0 2 2 1 0]"},
			{"set 0 0; set 1 0; " + crew("4 5 5 4 2") + "; runs", "OK; OK; [0 0 0 0 0] [ErrRing ErrRing ErrRing ErrRing OK]; [0 0 3 3 2 1]"},
			{crew("5 4 3 2 1 0") + "; get 4; runs", "[0 0 0 0 0 0] [ErrRing ErrRing OK OK OK OK]; ErrRing; [0 0 3 3 2 1]"},
		})
	}
}

// Cells that are asked very often are brought up to date once.
func TestQ5ManyKeys(t *testing.T) {
	s := example(t)
	s.Set(0, 3)
	keys := make([]int, 1000000)
	for i := range keys {
		keys[i] = i % 5
	}
	within(t, func() {
		numbers, errs, err := s.Crew(keys, api.MaxCrew)
		if err != nil || len(numbers) != len(keys) || len(errs) != len(keys) {
			t.Errorf("%d, %d, %v", len(numbers), len(errs), err)
			return
		}
		for i, want := range []int{3, 0, 3, 3, 3} {
			if numbers[i] != want || numbers[len(keys)-5+i] != want || errs[i] != api.OK {
				t.Errorf("%d: %d, %d", i, numbers[i], numbers[len(keys)-5+i])
			}
		}
		if got := s.Runs(); !slices.Equal(got, []int{0, 0, 1, 1, 1, 0}) {
			t.Error(got)
		}
	})
}

func TestQ5Faults(t *testing.T) {
	plays(t, example(t), [][2]string{
		{"set 0 3; crew 0 4; crew 9 4; crew -1 4; crew 0; crew 9", "OK; ErrRange; ErrRange; ErrRange; ErrRange; ErrRange"},
		{"crew 1 4 6; crew 8 -1 4; crew 2 4 4 4 -9223372036854775808; crew 3 9223372036854775807", "ErrRange; ErrRange; ErrRange; ErrRange"},
		{"crew -9223372036854775808 4; crew 9223372036854775807 4; crew 0 9", "ErrRange; ErrRange; ErrRange"},
		{"runs; get 4; runs", "[0 0 0 0 0 0]; 3; [0 0 1 1 1 0]"},
	})
}

func TestQ5Memory(t *testing.T) {
	rules := []api.Rule{input(), low(0), add(0, 1), {}, {}}[:3]
	spare := rules[:5]
	before := slices.Clone(spare)
	s := sheet(t, rules...)
	if !slices.Equal(spare, before) {
		t.Errorf("rules: %v", spare)
	}
	rules[1], rules[2] = add(2, 2), low(7)
	keys := []int{2, 1, 2, 0, -7}[:4]
	numbers, errs, err := s.Crew(keys, 3)
	if err != nil || len(numbers) != 4 || len(errs) != 4 || !slices.Equal(keys[:5], []int{2, 1, 2, 0, -7}) {
		t.Errorf("%v %v %v %v", numbers, errs, err, keys[:5])
	}
	runs := s.Runs()
	for _, l := range [][]int{numbers[:cap(numbers)], runs[:cap(runs)]} {
		for i := range l {
			l[i] = 99
		}
	}
	for i := range errs {
		errs[i] = api.ErrFull
	}
	plays(t, s, [][2]string{
		{"runs; crew 3 2 1 2 0; runs", "[0 1 1]; [0 0 0 0] [OK OK OK OK]; [0 1 1]"},
		{"set 0 2; get 2; runs", "OK; 4; [0 2 2]"},
	})
}

// within ends the test if what it calls does not end: workers that wait for each other never do.
func within(t *testing.T, what func()) {
	t.Helper()
	done := make(chan struct{})
	go func() {
		defer close(done)
		what()
	}()
	select {
	case <-done:
	case <-time.After(2 * time.Minute):
		t.Fatal("it does not end")
	}
}

// All workers have ended when the call answers (but for what a goroutine does at its very end).
func TestQ5NoWorkerIsLeft(t *testing.T) {
	s := example(t)
	before := runtime.NumGoroutine()
	within(t, func() {
		for i := range 2000 {
			s.Set(0, i%3)
			s.Crew([]int{5, 4, 3}, 1+i%api.MaxCrew)
			s.Crew([]int{5, 6}, api.MaxCrew)
			s.Get(5)
			s.Some(5, i%3)
		}
	})
	for range 1000 {
		if runtime.NumGoroutine() <= before {
			return
		}
		time.Sleep(time.Millisecond)
	}
	t.Errorf("%d, and %d before", runtime.NumGoroutine(), before)
}

// Calls of several on one sheet come one behind the other.
func TestQ5CallsAtOnce(t *testing.T) {
	rules := []api.Rule{input(), input()}
	for k := 2; k < api.MaxKeys; k++ {
		rules = append(rules, add(k-1, 0))
	}
	s := sheet(t, rules...)
	s.Set(1, 1)
	var all sync.WaitGroup
	for i := range 16 {
		all.Go(func() {
			for j := range 50 {
				k := 2 + (i*7+j)%(api.MaxKeys-2)
				if v, err := s.Get(k); v != 1 || err != nil {
					t.Errorf("%d: %d, %v", k, v, err)
				}
				s.Some(k, j%3)
				s.Crew([]int{k, 3}, 2)
				s.Set(0, 0)
				s.Runs()
			}
		})
	}
	within(t, all.Wait)
	if got := s.Runs(); slices.Max(got) != 1 {
		t.Errorf("%v", got)
	}
}
