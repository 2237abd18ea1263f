package tests

import (
	"fmt"
	"slices"
	"testing"

	"loop.example/g00652/impl"
)

// numbered is a right map of n pairs, as long as n is at most 100.
func numbered(n int) []impl.Pair {
	var m []impl.Pair
	for i := range n {
		m = append(m, impl.Pair{Key: fmt.Sprintf("k%02d", i), Val: fmt.Sprintf("v%d", i)})
	}
	return m
}

// roomy holds a list that has used rows in its spare room, to see whether a
// call writes into the list or behind it.
type roomy struct {
	all  []impl.Pair
	was  []impl.Pair
	size int
}

func newRoomy(m []impl.Pair) roomy {
	all := slices.Clone(m)
	for range 3 {
		all = append(all, impl.Pair{Key: "spare", Val: "room"})
	}
	return roomy{all: all, was: slices.Clone(all), size: len(m)}
}

func (r roomy) list() []impl.Pair { return r.all[:r.size] }

func (r roomy) check(t *testing.T, call string) {
	t.Helper()
	if !slices.Equal(r.all, r.was) {
		t.Errorf("%s wrote into its argument or behind it: %q", call, r.all)
	}
}

// spoil writes over an answer and its spare room, which must be its own.
func spoil(answer []impl.Pair) {
	answer = answer[:cap(answer)]
	for i := range answer {
		answer[i] = impl.Pair{Key: "spoilt", Val: "spoilt"}
	}
}
