package tests

import (
	"cmp"
	"fmt"
	"slices"
	"strings"

	"loop.example/g00652/impl"
)

// graph is a history whose commits are known by their places: parents have
// lower ones than those whose parents they are.
type graph struct {
	texts   []string
	objs    []impl.Obj
	ids     []string
	parents [][]int
	maps    []string
}

// graphOf has treeA for each commit.
func graphOf(parents ...[]int) graph {
	return mappedGraph(slices.Repeat([]string{"a=1\n"}, len(parents)), parents...)
}

// mappedGraph has for each commit the map of this text.
func mappedGraph(maps []string, parents ...[]int) graph {
	var g graph
	for i, places := range parents {
		g.grow(maps[i], fmt.Sprint("commit ", i), places)
	}
	g.objs = objsOf(g.texts...)
	return g
}

// grow puts one more commit behind those at these places; objs are as they were.
func (g *graph) grow(m, note string, places []int) {
	tree := "map\n" + m
	text := commitText(idOf(tree), note, g.rising(places)...)
	g.texts = append(g.texts, tree, text)
	g.ids = append(g.ids, idOf(text))
	g.parents = append(g.parents, places)
	g.maps = append(g.maps, m)
}

// idsAt keeps the order of the places.
func (g graph) idsAt(places []int) []string {
	var ids []string
	for _, at := range places {
		ids = append(ids, g.ids[at])
	}
	return ids
}

func (g graph) rising(places []int) []string {
	return slices.Sorted(slices.Values(g.idsAt(places)))
}

// parentsAt are the places of a commit's parents, as they stand in it.
func (g graph) parentsAt(at int) []int {
	out := slices.Clone(g.parents[at])
	slices.SortFunc(out, func(x, y int) int { return cmp.Compare(g.ids[x], g.ids[y]) })
	return out
}

func (g graph) noteAt(at int) string {
	_, note, _ := strings.Cut(g.texts[2*at+1], "\n")
	return note
}

// objsAt has the commits at these places and the trees of these maps, alone.
func (g graph) objsAt(places []int, maps []string) []impl.Obj {
	var texts []string
	for _, at := range places {
		texts = append(texts, g.texts[2*at+1])
	}
	for _, m := range maps {
		texts = append(texts, "map\n"+m)
	}
	return objsOf(texts...)
}

// behind tells of each place what is behind it, as the document has it.
func (g graph) behind() [][]bool {
	out := make([][]bool, len(g.parents))
	for i, places := range g.parents {
		out[i] = make([]bool, len(g.parents))
		out[i][i] = true
		for _, p := range places {
			for j, is := range out[p] {
				out[i][j] = out[i][j] || is
			}
		}
	}
	return out
}

// part has what is behind the commits at these places, and their trees, alone.
func (g graph) part(places ...int) []impl.Obj {
	behind := g.behind()
	var texts []string
	for _, at := range places {
		for i, is := range behind[at] {
			if is {
				texts = append(texts, g.texts[2*i], g.texts[2*i+1])
			}
		}
	}
	return objsOf(texts...)
}

func (g graph) depths() []int64 {
	out := make([]int64, len(g.parents))
	for i, places := range g.parents {
		for _, p := range places {
			out[i] = max(out[i], out[p]+1)
		}
	}
	return out
}

func (g graph) bases(behind [][]bool, a, b int) []string {
	var common, best []int
	for i := range g.ids {
		if behind[a][i] && behind[b][i] {
			common = append(common, i)
		}
	}
	for _, x := range common {
		if !slices.ContainsFunc(common, func(y int) bool { return y != x && behind[y][x] }) {
			best = append(best, x)
		}
	}
	return g.rising(best)
}

func (g graph) log(behind [][]bool, at int) []string {
	depths := g.depths()
	var places []int
	for i, is := range behind[at] {
		if is {
			places = append(places, i)
		}
	}
	slices.SortFunc(places, func(x, y int) int {
		return cmp.Or(cmp.Compare(depths[y], depths[x]), cmp.Compare(g.ids[x], g.ids[y]))
	})
	var out []string
	for _, at := range places {
		out = append(out, g.ids[at])
	}
	return out
}

// chain has each commit behind the one ahead of it; with two, behind both ahead.
func chain(n int, two bool) [][]int {
	out := make([][]int, n)
	for i := 1; i < n; i++ {
		out[i] = []int{i - 1}
		if two && i > 1 {
			out[i] = []int{i - 2, i - 1}
		}
	}
	return out
}

// halves has n commits without parents, and each two of one depth made one.
func halves(n int) [][]int {
	out := make([][]int, n)
	for start := 0; start < len(out)-1; {
		end := len(out)
		for i := start; i+1 < end; i += 2 {
			out = append(out, []int{i, i + 1})
		}
		start = end
	}
	return out
}

// crossing has two rows of commits, each behind both of the row ahead.
func crossing(rows int) [][]int {
	out := [][]int{nil, {0}, {0}}
	for len(out) < 1+2*rows {
		n := len(out)
		out = append(out, []int{n - 2, n - 1}, []int{n - 2, n - 1})
	}
	return out
}

// apart has commits that cross with one more on each way, so that what they
// have in common is met in either order of ids.
func apart(n int) [][]int {
	out := [][]int{nil, nil}
	for range n {
		at := len(out)
		out = append(out, []int{0}, []int{1}, []int{at, at + 1})
	}
	return out
}

// mixed has commits of no, one and two parents, by chance that is always the same.
func mixed(n int, seed uint32) [][]int {
	out := make([][]int, n)
	next := func(below int) int {
		seed = seed*1664525 + 1013904223
		return int(seed>>8) % below
	}
	for i := 1; i < n; i++ {
		a, b := next(i), next(i)
		switch kind := next(8); {
		case kind > 3 && a != b:
			out[i] = []int{a, b}
		case kind > 0:
			out[i] = []int{a}
		}
	}
	return out
}

// ternary are n maps of three keys, each with one of two values or not there,
// by chance that is always the same.
func ternary(n int, seed uint32) []string {
	var out []string
	for range n {
		text := ""
		for _, key := range []string{"p", "q", "r"} {
			seed = seed*1664525 + 1013904223
			if val := seed >> 8 % 3; val > 0 {
				text += fmt.Sprintf("%s=%d\n", key, val)
			}
		}
		out = append(out, text)
	}
	return out
}

func graphs() map[string]graph {
	out := map[string]graph{
		"one commit":                    graphOf(nil),
		"one parent":                    graphOf(nil, []int{0}),
		"two parents":                   graphOf(nil, []int{0}, []int{0}, []int{1, 2}),
		"two parents of no parents":     graphOf(nil, nil, []int{0, 1}),
		"one parent behind the other":   graphOf(nil, []int{0}, []int{1}, []int{0, 2}, []int{0, 3}),
		"a long way and a short one":    graphOf(nil, []int{0}, []int{1}, []int{2}, []int{0}, []int{3, 4}, []int{4}),
		"two that cross":                graphOf(crossing(2)...),
		"two that cross, without start": graphOf(nil, nil, []int{0, 1}, []int{0, 1}),
		"two that cross again":          graphOf(crossing(3)...),
		"two that cross many times":     graphOf(crossing(12)...),
		"many that cross far behind":    graphOf(apart(8)...),
		"crossed at unlike depths":      graphOf(nil, []int{0}, []int{0}, []int{2}, []int{3}, []int{1, 4}, []int{1, 4}, []int{5}, []int{6, 0}),
		"two with nothing in common":    graphOf(nil, []int{0}, nil, []int{2}),
		"20 without parents":            graphOf(make([][]int, 20)...),
		"chain of 20":                   graphOf(chain(20, false)...),
		"20 with two parents":           graphOf(chain(20, true)...),
		"16 made one":                   graphOf(halves(16)...),
	}
	for seed := range uint32(30) {
		out[fmt.Sprint("mixed ", seed)] = graphOf(mixed(2+int(seed)/2, seed)...)
	}
	return out
}

// noCommits are ids that are no commit's of a graph.
func noCommits() []string {
	return []string{
		"", "x", idOf(treeA), idOf("none"), idOf("map\n"), idOf(commitText(idOf(treeA), "commit 0"))[:15],
		strings.ToUpper(idOf(commitText(idOf(treeA), "commit 0"))), idOf(commitText(idOf(treeA), "commit 0")) + "0",
	}
}
