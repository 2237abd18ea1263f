package tests

import (
	"testing"

	"loop.example/g00652/impl"
)

func TestRepoOk(t *testing.T) {
	first := commitText(idOf(treeA), "first")
	second := commitText(idOf(treeA), "second", idOf(first))
	third := commitText(idOf(treeB), "third", idOf(first))
	for name, list := range map[string][]string{
		"nothing":                 nil,
		"a tree alone":            {treeA},
		"a tree without pairs":    {"map\n"},
		"60 trees":                trees(60),
		"a commit":                {treeA, first},
		"a tree that none names":  {treeA, treeB, first},
		"one parent":              {treeA, first, second},
		"two parents":             {treeA, treeB, first, second, third, commitText(idOf(treeB), "both", parents(second, third)...)},
		"one behind the other":    {treeA, first, second, commitText(idOf(treeA), "both", parents(first, second)...)},
		"two without parents":     {treeA, first, commitText(idOf(treeA), "another start")},
		"60 with a commit or two": append(trees(57), treeA, first, second),
	} {
		if !impl.RepoOk(objsOf(list...)) {
			t.Errorf("%s: RepoOk tells false", name)
		}
	}
	for name, list := range notRightRepos() {
		if impl.RepoOk(objsOf(list...)) {
			t.Errorf("%s: RepoOk tells true", name)
		}
	}
	for name, l := range notRightObjs() {
		if impl.RepoOk(l) {
			t.Errorf("%s: RepoOk tells true", name)
		}
	}
}

func TestRepoOkWantsRightObjects(t *testing.T) {
	for name, l := range notRightTreesAndCommits() {
		if impl.RepoOk(l) {
			t.Errorf("%s: RepoOk tells true", name)
		}
	}
}

func TestRepoOkLeavesItsArgument(t *testing.T) {
	for _, l := range [][]impl.Obj{nil, objsOf(trees(60)...), objsOf("abc", "def")} {
		r := newRoomy(l, spareObj)
		impl.RepoOk(r.list())
		r.check(t, "RepoOk")
	}
}
