package tests

import (
	"math"
	"slices"
	"strconv"
	"strings"
	"testing"

	"loop.example/g01109/impl"
)

// checkGraph compares a result of a Graph and a bool with the wanted Graph.
func checkGraph(t *testing.T, name string, got impl.Graph, ok bool, want impl.Graph) {
	t.Helper()
	if !ok || !sameGraph(got, want) {
		t.Errorf("%s: got %v, %v, want %v", name, got, ok, want)
	}
}

// checkList compares a result of a list and a bool with the wanted list.
func checkList(t *testing.T, name string, got []int, ok bool, want []int) {
	t.Helper()
	if !ok || !slices.Equal(got, want) {
		t.Errorf("%s: got %v, %v, want %v", name, got, ok, want)
	}
}

// graphBy returns the Graph of the pairs for which joined is true.
func graphBy(size int, joined func(x, y int) bool) impl.Graph {
	g := impl.Graph{Size: size}
	for _, pair := range pairsOf(size) {
		if joined(pair[0], pair[1]) {
			g.Edges = append(g.Edges, pair)
		}
	}
	return g
}

// leastDistances finds distances by trying all nodes in the middle of ways.
func leastDistances(g impl.Graph) [][]int {
	const none = 1000
	d := make([][]int, g.Size)
	for x := range d {
		for y := range g.Size {
			d[x] = append(d[x], none)
			if x == y {
				d[x][y] = 0
			} else if nearIn(g, x, y) {
				d[x][y] = 1
			}
		}
	}
	for z := range d {
		for x := range d {
			for y := range d {
				d[x][y] = min(d[x][y], d[x][z]+d[z][y])
			}
		}
	}
	for _, row := range d {
		for y := range row {
			if row[y] >= none {
				row[y] = -1
			}
		}
	}
	return d
}

// waysOfLength returns all ways of a length from x to y, in lexicographic order.
func waysOfLength(g impl.Graph, x int, y int, length int) [][]int {
	if length == 0 {
		if x == y {
			return [][]int{{x}}
		}
		return nil
	}
	var ways [][]int
	for z := range g.Size {
		if nearIn(g, x, z) {
			for _, way := range waysOfLength(g, z, y, length-1) {
				ways = append(ways, append([]int{x}, way...))
			}
		}
	}
	return ways
}

func TestTheGreatestSize(t *testing.T) {
	if impl.MaxSize != 8 {
		t.Error(impl.MaxSize)
	}
}

func TestIsGraphOfValidOnes(t *testing.T) {
	for _, g := range sampleGraphs() {
		if !impl.IsGraph(g) || !impl.IsGraph(impl.Graph{Size: g.Size, Edges: append([][2]int{}, g.Edges...)}) {
			t.Error(g)
		}
	}
}

func TestIsGraphOfBrokenOnes(t *testing.T) {
	for name, g := range brokenGraphs() {
		if impl.IsGraph(g) {
			t.Error(name)
		}
	}
}

func TestIsGraphOfAllShortListsOfEdges(t *testing.T) {
	for size := -1; size <= 10; size++ {
		valid := size >= 0 && size <= 8
		if impl.IsGraph(impl.Graph{Size: size}) != valid {
			t.Error("no edges", size)
		}
		for a := -1; a <= size; a++ {
			for b := -1; b <= size; b++ {
				first := valid && 0 <= a && a < b && b < size
				if impl.IsGraph(graph(size, a, b)) != first {
					t.Error(size, a, b)
				}
				for c := -1; c <= size; c++ {
					for d := -1; d <= size; d++ {
						second := first && 0 <= c && c < d && d < size && (a < c || a == c && b < d)
						if impl.IsGraph(graph(size, a, b, c, d)) != second {
							t.Error(size, a, b, c, d)
						}
					}
				}
			}
		}
	}
}

// graphCalls are the functions of one Graph and nothing else that have a bool as the last of
// several results.
func graphCalls() map[string]any {
	return map[string]any{
		"DegreesOf": impl.DegreesOf, "DistancesOf": impl.DistancesOf, "PartsOf": impl.PartsOf,
		"IsConnected": impl.IsConnected, "RadiusOf": impl.RadiusOf, "ComplementOf": impl.ComplementOf,
		"GraphText": impl.GraphText,
	}
}

// pairCalls are the functions of two Graphs.
func pairCalls() map[string]any {
	return map[string]any{
		"PutBeside": impl.PutBeside, "CartesianProduct": impl.CartesianProduct,
		"StrongProduct": impl.StrongProduct, "FindIsomorphism": impl.FindIsomorphism,
	}
}

// mended returns the Graph with the edges of g that can be, in order: a valid one with the same
// neighbors, if the Size can be.
func mended(g impl.Graph) impl.Graph {
	if g.Size < 0 || g.Size > 8 {
		return impl.Graph{}
	}
	return graphBy(g.Size, func(x, y int) bool { return nearIn(g, x, y) })
}

func TestGraphsThatAreNotValidFail(t *testing.T) {
	for name, g := range brokenGraphs() {
		for call, function := range graphCalls() {
			checkFails(t, call+" of "+name, function, g)
		}
		for call, function := range pairCalls() {
			for _, h := range []impl.Graph{{}, graph(1), graph(2, 0, 1), {Size: g.Size}, mended(g), g} {
				checkFails(t, call+" of "+name, function, g, h)
				checkFails(t, call+" behind "+name, function, h, g)
			}
		}
		for _, x := range []int{-1, 0, 1, 2, g.Size, g.Size - 1} {
			checkFails(t, "NeighborsOf "+name, impl.NeighborsOf, g, x)
			checkFails(t, "BallOf "+name, impl.BallOf, g, x, 1)
			checkFails(t, "FirstWay of "+name, impl.FirstWay, g, x, x)
			checkFails(t, "RemoveNode of "+name, impl.RemoveNode, g, x)
			checkFails(t, "ToggleEdge of "+name, impl.ToggleEdge, g, x, x+1)
			checkFails(t, "InducedGraph of "+name, impl.InducedGraph, g, []int{x})
		}
		checkFails(t, "InducedGraph of "+name, impl.InducedGraph, g, []int{})
		for size := range 10 {
			order := []int{}
			for x := range size {
				order = append(order, x)
			}
			checkFails(t, "RenameNodes of "+name, impl.RenameNodes, g, order)
		}
	}
}

func TestNodesThatAreNotThereFail(t *testing.T) {
	for _, g := range fewGraphs() {
		for _, x := range farNumbers(g.Size) {
			checkFails(t, "NeighborsOf", impl.NeighborsOf, g, x)
			checkFails(t, "RemoveNode", impl.RemoveNode, g, x)
			checkFails(t, "FirstWay to itself", impl.FirstWay, g, x, x)
			checkFails(t, "ToggleEdge with itself", impl.ToggleEdge, g, x, x)
			checkFails(t, "InducedGraph", impl.InducedGraph, g, []int{x})
			for _, r := range []int{0, 1, 8, math.MaxInt} {
				checkFails(t, "BallOf", impl.BallOf, g, x, r)
			}
			for y := range g.Size {
				checkFails(t, "FirstWay from", impl.FirstWay, g, x, y)
				checkFails(t, "FirstWay to", impl.FirstWay, g, y, x)
				checkFails(t, "ToggleEdge", impl.ToggleEdge, g, x, y)
				checkFails(t, "ToggleEdge", impl.ToggleEdge, g, y, x)
			}
		}
	}
}

func TestNeighborsAndDegrees(t *testing.T) {
	for _, g := range sampleGraphs() {
		degrees, ok := impl.DegreesOf(g)
		if !ok || len(degrees) != g.Size {
			t.Fatal(g, degrees, ok)
		}
		for x := range g.Size {
			var want []int
			for y := range g.Size {
				if nearIn(g, x, y) {
					want = append(want, y)
				}
			}
			near, ok := impl.NeighborsOf(g, x)
			checkList(t, "neighbors in "+textOf(g), near, ok, want)
			if degrees[x] != len(want) {
				t.Error("degrees", g, degrees)
			}
		}
	}
}

func TestDistancesOfGraphs(t *testing.T) {
	for _, g := range sampleGraphs() {
		if got, ok := impl.DistancesOf(g); !ok || !sameLists(got, leastDistances(g)) {
			t.Error(g, got, ok)
		}
	}
	path := graph(8, 0, 1, 1, 2, 2, 3, 3, 4, 4, 5, 5, 6, 6, 7)
	if got, ok := impl.DistancesOf(path); !ok || !slices.Equal(got[0], []int{0, 1, 2, 3, 4, 5, 6, 7}) || !slices.Equal(got[5], []int{5, 4, 3, 2, 1, 0, 1, 2}) {
		t.Error(got, ok)
	}
	if got, ok := impl.DistancesOf(graph(4, 0, 2)); !ok || !sameLists(got, [][]int{{0, -1, 1, -1}, {-1, 0, -1, -1}, {1, -1, 0, -1}, {-1, -1, -1, 0}}) {
		t.Error(got, ok)
	}
}

func TestPartsOfGraphs(t *testing.T) {
	for _, c := range []struct {
		g    impl.Graph
		want [][]int
	}{
		{graph(0), nil},
		{graph(1), [][]int{{0}}},
		{graph(3), [][]int{{0}, {1}, {2}}},
		{graph(3, 0, 1), [][]int{{0, 1}, {2}}},
		{graph(3, 0, 2), [][]int{{0, 2}, {1}}},
		{graph(5, 0, 4, 1, 3), [][]int{{0, 4}, {1, 3}, {2}}},
		{graph(8), [][]int{{0}, {1}, {2}, {3}, {4}, {5}, {6}, {7}}},
		{graph(8, 0, 7, 1, 6, 2, 6, 3, 4), [][]int{{0, 7}, {1, 2, 6}, {3, 4}, {5}}},
		{graph(7, 0, 6, 1, 5, 2, 5, 2, 6, 3, 4), [][]int{{0, 1, 2, 5, 6}, {3, 4}}},
		{cube(), [][]int{{0, 1, 2, 3, 4, 5, 6, 7}}},
	} {
		if got, ok := impl.PartsOf(c.g); !ok || !sameLists(got, c.want) {
			t.Error(c.g, got, ok)
		}
	}
}

func TestPartsByDistances(t *testing.T) {
	for _, g := range sampleGraphs() {
		var want [][]int
		taken := map[int]bool{}
		for x, row := range leastDistances(g) {
			var part []int
			for y, d := range row {
				if d >= 0 && !taken[x] {
					part = append(part, y)
				}
			}
			for _, y := range part {
				taken[y] = true
			}
			if len(part) > 0 {
				want = append(want, part)
			}
		}
		if got, ok := impl.PartsOf(g); !ok || !sameLists(got, want) {
			t.Error(g, got, ok)
		}
		if got, ok := impl.IsConnected(g); !ok || got != (len(want) <= 1) {
			t.Error("connected", g, got, ok)
		}
	}
}

func TestBallsByDistances(t *testing.T) {
	for _, g := range sampleGraphs() {
		for x, row := range leastDistances(g) {
			for _, r := range []int{0, 1, 2, 3, 4, 5, 6, 7, 8, 9, 1 << 40, math.MaxInt} {
				var want []int
				for y, d := range row {
					if d >= 0 && d <= r {
						want = append(want, y)
					}
				}
				got, ok := impl.BallOf(g, x, r)
				checkList(t, "ball in "+textOf(g), got, ok, want)
			}
		}
	}
}

func TestBallsWithoutRadiusFail(t *testing.T) {
	for _, g := range fewGraphs() {
		for x := range g.Size {
			for _, r := range []int{-1, -2, -8, -1 << 40, math.MinInt} {
				checkFails(t, "BallOf", impl.BallOf, g, x, r)
			}
		}
	}
}

func TestFirstWaysInOrder(t *testing.T) {
	for _, g := range append(smallGraphs(5), greatGraphs()...) {
		d := leastDistances(g)
		for x := range g.Size {
			for y := range g.Size {
				if d[x][y] < 0 {
					checkFails(t, "FirstWay", impl.FirstWay, g, x, y)
					continue
				}
				got, ok := impl.FirstWay(g, x, y)
				checkList(t, "way in "+textOf(g), got, ok, waysOfLength(g, x, y, d[x][y])[0])
			}
		}
	}
	got, ok := impl.FirstWay(cube(), 7, 0)
	checkList(t, "down the cube", got, ok, []int{7, 3, 1, 0})
	got, ok = impl.FirstWay(graph(1), 0, 0)
	checkList(t, "to itself", got, ok, []int{0})
}

func TestRadiusOfGraphs(t *testing.T) {
	for _, c := range []struct {
		g    impl.Graph
		want int
	}{
		{graph(1), 0}, {graph(2, 0, 1), 1}, {graph(3, 0, 1, 1, 2), 1}, {graph(4, 0, 1, 1, 2, 2, 3), 2},
		{cube(), 3}, {ladder(), 2}, {graphOfBits(8, 1<<28-1), 1},
		{graph(8, 0, 1, 1, 2, 2, 3, 3, 4, 4, 5, 5, 6, 6, 7), 4},
		{graph(8, 0, 1, 0, 7, 1, 2, 2, 3, 3, 4, 4, 5, 5, 6, 6, 7), 4},
		{graph(7, 0, 6, 1, 6, 2, 6, 3, 6, 4, 6, 5, 6), 1},
	} {
		if got, ok := impl.RadiusOf(c.g); !ok || got != c.want {
			t.Error(c.g, got, ok)
		}
	}
}

func TestRadiusByDistances(t *testing.T) {
	for _, g := range sampleGraphs() {
		want := math.MaxInt
		for _, row := range leastDistances(g) {
			if !slices.Contains(row, -1) {
				want = min(want, slices.Max(row))
			}
		}
		if want == math.MaxInt {
			checkFails(t, "RadiusOf "+textOf(g), impl.RadiusOf, g)
		} else if got, ok := impl.RadiusOf(g); !ok || got != want {
			t.Error(g, got, ok)
		}
	}
}

func TestInducedGraphsOfAllSets(t *testing.T) {
	for _, g := range append(smallGraphs(4), greatGraphs()[:16]...) {
		for _, set := range subsetsOf(g.Size) {
			want := graphBy(len(set), func(x, y int) bool { return nearIn(g, set[x], set[y]) })
			got, ok := impl.InducedGraph(g, set)
			checkGraph(t, "part of "+textOf(g), got, ok, want)
		}
		got, ok := impl.InducedGraph(g, nil)
		checkGraph(t, "nothing", got, ok, graph(0))
	}
}

func TestInducedGraphsOfOtherListsFail(t *testing.T) {
	for _, g := range []impl.Graph{graph(4), graph(4, 0, 1, 1, 2, 2, 3), graphOfBits(4, 63)} {
		for a := -1; a <= 4; a++ {
			for b := -1; b <= 4; b++ {
				if a >= b || a < 0 || b > 3 {
					checkFails(t, "InducedGraph", impl.InducedGraph, g, []int{a, b})
				}
				for c := -1; c <= 4; c++ {
					if a >= b || b >= c || a < 0 || c > 3 {
						checkFails(t, "InducedGraph", impl.InducedGraph, g, []int{a, b, c})
					}
				}
			}
		}
		checkFails(t, "all and one more", impl.InducedGraph, g, []int{0, 1, 2, 3, 4})
		checkFails(t, "the last one twice", impl.InducedGraph, g, []int{0, 1, 2, 3, 3})
		checkFails(t, "a long list", impl.InducedGraph, g, make([]int, 100000))
	}
}

func TestRemovedNodesLeaveTheOthers(t *testing.T) {
	for _, g := range sampleGraphs() {
		for x := range g.Size {
			less := impl.Graph{Size: g.Size - 1}
			for _, e := range g.Edges {
				if e[0] == x || e[1] == x {
					continue
				}
				for i := range e {
					if e[i] > x {
						e[i]--
					}
				}
				less.Edges = append(less.Edges, e)
			}
			got, ok := impl.RemoveNode(g, x)
			checkGraph(t, "without one of "+textOf(g), got, ok, less)
		}
	}
}

func TestToggledEdges(t *testing.T) {
	for _, g := range sampleGraphs() {
		for x := range g.Size {
			checkFails(t, "ToggleEdge of one node", impl.ToggleEdge, g, x, x)
			for y := range g.Size {
				if x == y {
					continue
				}
				want := graphBy(g.Size, func(v, w int) bool {
					return nearIn(g, v, w) != (v == min(x, y) && w == max(x, y))
				})
				got, ok := impl.ToggleEdge(g, x, y)
				checkGraph(t, "toggled in "+textOf(g), got, ok, want)
				got, ok = impl.ToggleEdge(got, y, x)
				checkGraph(t, "toggled twice in "+textOf(g), got, ok, g)
			}
		}
	}
}

func TestComplementsOfGraphs(t *testing.T) {
	for _, g := range sampleGraphs() {
		want := graphBy(g.Size, func(x, y int) bool { return !nearIn(g, x, y) })
		got, ok := impl.ComplementOf(g)
		checkGraph(t, "complement of "+textOf(g), got, ok, want)
		got, ok = impl.ComplementOf(got)
		checkGraph(t, "complement twice of "+textOf(g), got, ok, g)
	}
	got, ok := impl.ComplementOf(graph(8))
	checkGraph(t, "complement of no edges", got, ok, graphOfBits(8, 1<<28-1))
}

// factors are Graphs of all Sizes, enough of them for each pair of Sizes.
func factors() []impl.Graph {
	return append(append(smallGraphs(4), allGraphs(5)[300:320]...), greatGraphs()...)
}

func TestGraphsBesideEachOther(t *testing.T) {
	for _, g := range factors() {
		for _, h := range factors() {
			if g.Size+h.Size > 8 {
				checkFails(t, "PutBeside", impl.PutBeside, g, h)
				continue
			}
			want := impl.Graph{Size: g.Size + h.Size, Edges: slices.Clone(g.Edges)}
			for _, e := range h.Edges {
				want.Edges = append(want.Edges, [2]int{e[0] + g.Size, e[1] + g.Size})
			}
			got, ok := impl.PutBeside(g, h)
			checkGraph(t, textOf(g)+" beside "+textOf(h), got, ok, want)
		}
	}
}

func TestProductsByTheirPairs(t *testing.T) {
	for _, g := range factors() {
		for _, h := range factors() {
			if g.Size*h.Size > 8 {
				checkFails(t, "CartesianProduct", impl.CartesianProduct, g, h)
				checkFails(t, "StrongProduct", impl.StrongProduct, g, h)
				continue
			}
			var cartesian, strong impl.Graph
			cartesian.Size, strong.Size = g.Size*h.Size, g.Size*h.Size
			for _, pair := range pairsOf(g.Size * h.Size) {
				v, w, x, y := pair[0]/h.Size, pair[0]%h.Size, pair[1]/h.Size, pair[1]%h.Size
				if v == x && nearIn(h, w, y) || nearIn(g, v, x) && w == y {
					cartesian.Edges = append(cartesian.Edges, pair)
				}
				if v == x && nearIn(h, w, y) || nearIn(g, v, x) && (w == y || nearIn(h, w, y)) {
					strong.Edges = append(strong.Edges, pair)
				}
			}
			got, ok := impl.CartesianProduct(g, h)
			checkGraph(t, "Cartesian product of "+textOf(g)+" and "+textOf(h), got, ok, cartesian)
			got, ok = impl.StrongProduct(g, h)
			checkGraph(t, "strong product of "+textOf(g)+" and "+textOf(h), got, ok, strong)
		}
	}
}

func TestProductsOfPaths(t *testing.T) {
	two, four, eight := graph(2, 0, 1), graph(4, 0, 1, 1, 2, 2, 3), cube()
	for _, c := range []struct {
		name     string
		function func(impl.Graph, impl.Graph) (impl.Graph, bool)
		g, h     impl.Graph
		want     string
	}{
		{"square", impl.CartesianProduct, two, two, "4 0-1 0-2 1-3 2-3"},
		{"full square", impl.StrongProduct, two, two, "4 0-1 0-2 0-3 1-2 1-3 2-3"},
		{"two rows", impl.CartesianProduct, two, four, "8 0-1 0-4 1-2 1-5 2-3 2-6 3-7 4-5 5-6 6-7"},
		{"two columns", impl.CartesianProduct, four, two, "8 0-1 0-2 1-3 2-3 2-4 3-5 4-5 4-6 5-7 6-7"},
		{"full rows", impl.StrongProduct, two, four, "8 0-1 0-4 0-5 1-2 1-4 1-5 1-6 2-3 2-5 2-6 2-7 3-6 3-7 4-5 5-6 6-7"},
		{"with one node", impl.CartesianProduct, graph(1), eight, textOf(eight)},
		{"of one node", impl.StrongProduct, eight, graph(1), textOf(eight)},
		{"with no nodes", impl.CartesianProduct, eight, graph(0), "0"},
		{"of no nodes", impl.StrongProduct, graph(0), eight, "0"},
		{"of no nodes twice", impl.CartesianProduct, graph(0), graph(0), "0"},
	} {
		if got, ok := c.function(c.g, c.h); !ok || textOf(got) != c.want {
			t.Error(c.name, textOf(got), ok)
		}
	}
}

func TestNamedGraphs(t *testing.T) {
	paths := []string{"0", "1", "2 0-1", "3 0-1 1-2", "4 0-1 1-2 2-3", "5 0-1 1-2 2-3 3-4", "6 0-1 1-2 2-3 3-4 4-5",
		"7 0-1 1-2 2-3 3-4 4-5 5-6", "8 0-1 1-2 2-3 3-4 4-5 5-6 6-7"}
	cycles := []string{"", "", "", "3 0-1 0-2 1-2", "4 0-1 0-3 1-2 2-3", "5 0-1 0-4 1-2 2-3 3-4", "6 0-1 0-5 1-2 2-3 3-4 4-5",
		"7 0-1 0-6 1-2 2-3 3-4 4-5 5-6", "8 0-1 0-7 1-2 2-3 3-4 4-5 5-6 6-7"}
	for n := range paths {
		if got, ok := impl.PathGraph(n); !ok || textOf(got) != paths[n] {
			t.Error("path", n, got, ok)
		}
		if got, ok := impl.CycleGraph(n); ok != (n >= 3) || ok && textOf(got) != cycles[n] {
			t.Error("cycle", n, got, ok)
		}
		got, ok := impl.CompleteGraph(n)
		checkGraph(t, "complete", got, ok, graphBy(n, func(x, y int) bool { return true }))
	}
	for _, n := range []int{-1, -2, -8, 9, 10, 16, 256, 1 << 32, math.MaxInt, math.MinInt} {
		checkFails(t, "PathGraph", impl.PathGraph, n)
		checkFails(t, "CycleGraph", impl.CycleGraph, n)
		checkFails(t, "CompleteGraph", impl.CompleteGraph, n)
	}
	for n := range 3 {
		checkFails(t, "CycleGraph", impl.CycleGraph, n)
	}
}

// renamed returns the Graph in which each node x has the number to[x].
func renamed(g impl.Graph, to []int) impl.Graph {
	return graphBy(g.Size, func(x, y int) bool {
		return slices.ContainsFunc(g.Edges, func(e [2]int) bool {
			return to[e[0]] == x && to[e[1]] == y || to[e[0]] == y && to[e[1]] == x
		})
	})
}

func TestRenamedNodes(t *testing.T) {
	for _, g := range smallGraphs(4) {
		for _, to := range ordersOf(g.Size) {
			got, ok := impl.RenameNodes(g, to)
			checkGraph(t, "renamed "+textOf(g), got, ok, renamed(g, to))
		}
	}
	got, ok := impl.RenameNodes(graph(3, 0, 1), []int{1, 2, 0})
	checkGraph(t, "turned", got, ok, graph(3, 1, 2))
	got, ok = impl.RenameNodes(graph(3, 0, 1), []int{2, 0, 1})
	checkGraph(t, "turned back", got, ok, graph(3, 0, 2))
	for i, g := range greatGraphs() {
		order := ordersOf(5)[i%120]
		to := append(slices.Clone(order), []int{7, 5, 6}...)
		if g.Size == 8 {
			got, ok := impl.RenameNodes(g, to)
			checkGraph(t, "renamed "+textOf(g), got, ok, renamed(g, to))
		}
	}
}

func TestListsThatAreNoRenamingFail(t *testing.T) {
	for _, g := range []impl.Graph{graph(3), graph(3, 0, 1, 1, 2), graphOfBits(3, 7)} {
		for a := -1; a <= 3; a++ {
			for b := -1; b <= 3; b++ {
				checkFails(t, "too short", impl.RenameNodes, g, []int{a, b})
				for c := -1; c <= 3; c++ {
					to := []int{a, b, c}
					if slices.Min(to) < 0 || slices.Max(to) > 2 || a == b || b == c || a == c {
						checkFails(t, "RenameNodes", impl.RenameNodes, g, to)
					}
					checkFails(t, "too long", impl.RenameNodes, g, append(to, 3))
					checkFails(t, "too long", impl.RenameNodes, g, append(to, 0))
				}
			}
		}
		checkFails(t, "nothing", impl.RenameNodes, g, []int{})
		checkFails(t, "long", impl.RenameNodes, g, make([]int, 100000))
	}
	checkFails(t, "a node too many", impl.RenameNodes, graph(0), []int{0})
	checkFails(t, "seven of eight", impl.RenameNodes, cube(), []int{0, 1, 2, 3, 4, 5, 6})
	checkFails(t, "one twice", impl.RenameNodes, cube(), []int{0, 1, 2, 3, 4, 5, 6, 0})
	checkFails(t, "one to nine", impl.RenameNodes, cube(), []int{1, 2, 3, 4, 5, 6, 7, 8})
}

func TestFirstIsomorphismsOfSmallGraphs(t *testing.T) {
	for size := range 5 {
		orders := ordersOf(size)
		for _, g := range allGraphs(size) {
			first := map[string][]int{}
			for _, to := range orders {
				text := textOf(renamed(g, to))
				if _, there := first[text]; !there {
					first[text] = to
				}
			}
			for _, h := range allGraphs(size) {
				want, there := first[textOf(h)]
				if !there {
					checkFails(t, "FindIsomorphism", impl.FindIsomorphism, g, h)
					continue
				}
				got, ok := impl.FindIsomorphism(g, h)
				checkList(t, textOf(g)+" like "+textOf(h), got, ok, want)
			}
		}
	}
}

func TestIsomorphismsOfGreatGraphs(t *testing.T) {
	orders := ordersOf(8)
	for i, g := range greatGraphs()[:12] {
		if g.Size != 8 {
			continue
		}
		h := renamed(g, orders[(i*7919+12345)%len(orders)])
		want := slices.IndexFunc(orders, func(to []int) bool { return renames(g, to, h) })
		got, ok := impl.FindIsomorphism(g, h)
		checkList(t, textOf(g)+" like "+textOf(h), got, ok, orders[want])
	}
	got, ok := impl.FindIsomorphism(graph(8), graph(8))
	checkList(t, "no edges", got, ok, orders[0])
	got, ok = impl.FindIsomorphism(graph(8, 0, 1), graph(8, 6, 7))
	checkList(t, "one edge", got, ok, []int{6, 7, 0, 1, 2, 3, 4, 5})
}

// renames reports whether all edges of g have the names of edges of h, which has no others.
func renames(g impl.Graph, to []int, h impl.Graph) bool {
	for _, e := range g.Edges {
		if !nearIn(h, to[e[0]], to[e[1]]) {
			return false
		}
	}
	return len(g.Edges) == len(h.Edges)
}

func TestGraphsThatAreNotLikeEachOther(t *testing.T) {
	ring, rings := graph(8, 0, 1, 0, 7, 1, 2, 2, 3, 3, 4, 4, 5, 5, 6, 6, 7), graph(8, 0, 1, 0, 3, 1, 2, 2, 3, 4, 5, 4, 7, 5, 6, 6, 7)
	for _, c := range [][2]impl.Graph{
		{graph(0), graph(1)}, {graph(1), graph(2)}, {graph(7), graph(8)}, {graph(8), graph(8, 0, 1)},
		{ring, rings}, {cube(), ladder()}, {graph(3, 0, 1), graph(4, 0, 1)},
		{graph(4, 0, 1, 0, 2, 0, 3), graph(4, 0, 1, 1, 2, 2, 3)},
		{graph(6, 0, 1, 0, 2, 1, 2, 3, 4, 3, 5, 4, 5), graph(6, 0, 1, 0, 5, 1, 2, 2, 3, 3, 4, 4, 5)},
	} {
		checkFails(t, "FindIsomorphism", impl.FindIsomorphism, c[0], c[1])
		checkFails(t, "FindIsomorphism", impl.FindIsomorphism, c[1], c[0])
	}
}

func TestTextsOfGraphs(t *testing.T) {
	for _, g := range sampleGraphs() {
		text, ok := impl.GraphText(g)
		checkText(t, "text", text, ok, textOf(g), true)
		again, ok := impl.ParseGraph(text)
		checkGraph(t, "read "+text, again, ok, g)
	}
	text, ok := impl.GraphText(graph(3, 0, 1, 1, 2))
	checkText(t, "the path of three nodes", text, ok, "3 0-1 1-2", true)
}

func TestTextsThatAreNotWrittenFail(t *testing.T) {
	full := textOf(graphOfBits(8, 1<<28-1))
	for _, s := range []string{
		"", " ", "-", "3 ", " 3", "3  0-1", "3 0-1 ", "3 0-1  1-2", "3\t0-1", "3 0-1\n", "\n3 0-1", "3 0-1\x00", "3\r\n",
		"03", "3 00-1", "3 0-01", "3 0-1 01-2", "+3", "3 +0-1", "3 0-+1", "-0", "3 -0-1", "3 0--1", "3 -1-0", "3 0-1-2", "0x3",
		"-1", "9", "10", "8 0-8", "9 0-1", "9 0-8", "08", "00", "000000", "1000000", "-9223372036854775808", "18446744073709551619",
		"3 1-0", "3 0-1 0-1", "3 1-2 0-1", "3 0-2 0-1", "3 0-0", "3 0-3", "3 3-4", "0 0-1", "1 0-1", "1 0-0", "2 0-1 1-0",
		"3 0", "3 01", "3 0-", "3 -1", "3 -", "3 0 1", "3 0 -1", "3 0- 1", "3 0-1,1-2", "3,0-1", "3-0-1", "3 0-11-2", "0-1", "0-1 3",
		"3 0\u20131", "\uff13", "\u0663", "3\u00a00-1", "3 a-b", "three", "3 0-1 x", "3 0-1 1-2#7", "3 0-1 3",
		full + " ", full + " 6-7", full + " 7-8", " " + full, full + full, "9" + full[1:], "7" + full[1:],
		strings.Repeat(" ", 4000), "3" + strings.Repeat(" 0-1", 5000), "8" + strings.Repeat(" ", 5000),
		strings.Repeat("0", 4001), strings.Repeat("3", 1<<20), strings.Repeat("\xff", 1<<20),
	} {
		if g, ok := impl.ParseGraph(s); ok || g.Size != 0 || len(g.Edges) != 0 {
			t.Errorf("%.60q: %v %v", s, g, ok)
		}
	}
}

func TestParseGraphOfAllShortStrings(t *testing.T) {
	graphs := map[string]impl.Graph{}
	for size := range 9 {
		for _, pair := range pairsOf(size) {
			g := graph(size, pair[0], pair[1])
			graphs[textOf(g)] = g
		}
		graphs[textOf(graph(size))] = graph(size)
	}
	for _, alphabet := range []string{"-01 3", "- 1289", "0123456789", "+-0 2"} {
		for _, s := range textsOver(alphabet, 5) {
			want, written := graphs[s]
			if g, ok := impl.ParseGraph(s); ok != written || !sameGraph(g, want) {
				t.Fatalf("%q: %v %v", s, g, ok)
			}
		}
	}
}

// changesOf returns a text with one byte more, less or another, of some bytes.
func changesOf(s string) []string {
	var all []string
	for i := range len(s) + 1 {
		for c := range 256 {
			all = append(all, s[:i]+string([]byte{byte(c)})+s[i:])
			if i < len(s) {
				all = append(all, s[:i]+string([]byte{byte(c)})+s[i+1:])
			}
		}
		if i < len(s) {
			all = append(all, s[:i]+s[i+1:])
		}
	}
	return all
}

func TestParseGraphReadsJustWhatIsWritten(t *testing.T) {
	texts := map[string]bool{}
	for _, g := range smallGraphs(5) {
		texts[textOf(g)] = true
	}
	for _, g := range append(smallGraphs(3), allGraphs(4)[40:]...) {
		for _, s := range changesOf(textOf(g)) {
			read, ok := impl.ParseGraph(s)
			if ok && textOf(read) != s || !ok && texts[s] {
				t.Fatalf("%q: %v %v", s, read, ok)
			}
		}
	}
}

func TestDistancesObeyTheTriangleInequality(t *testing.T) {
	for _, g := range sampleGraphs() {
		d, ok := impl.DistancesOf(g)
		if !ok || len(d) != g.Size {
			t.Fatal(g, d, ok)
		}
		for x := range d {
			for y := range d {
				for z := range d {
					if d[x][y] >= 0 && d[y][z] >= 0 && (d[x][z] < 0 || d[x][z] > d[x][y]+d[y][z]) {
						t.Error(g, x, y, z)
					}
				}
				if d[x][y] != d[y][x] || (d[x][y] == 0) != (x == y) || (d[x][y] == 1) != nearIn(g, x, y) {
					t.Error(g, x, y)
				}
			}
		}
	}
}

// checkProductDistances checks promise 2 for two Graphs whose products are valid.
func checkProductDistances(t *testing.T, g impl.Graph, h impl.Graph) {
	t.Helper()
	cartesian, one := impl.CartesianProduct(g, h)
	strong, two := impl.StrongProduct(g, h)
	sums, three := impl.DistancesOf(cartesian)
	greater, four := impl.DistancesOf(strong)
	inG, five := impl.DistancesOf(g)
	inH, six := impl.DistancesOf(h)
	if !one || !two || !three || !four || !five || !six || len(sums) != g.Size*h.Size || len(greater) != g.Size*h.Size {
		t.Fatal("no products", g, h)
	}
	for a := range g.Size * h.Size {
		for b := range g.Size * h.Size {
			first, second := inG[a/h.Size][b/h.Size], inH[a%h.Size][b%h.Size]
			sum, most := first+second, max(first, second)
			if first < 0 || second < 0 {
				sum, most = -1, -1
			}
			if sums[a][b] != sum || greater[a][b] != most {
				t.Fatal(g, h, a, b, sums[a][b], greater[a][b])
			}
		}
	}
}

func TestPromise2DistancesInProducts(t *testing.T) {
	met := map[string]bool{}
	graphs := append(smallGraphs(5), greatGraphs()...)
	for _, g := range graphs {
		for _, h := range graphs {
			if g.Size*h.Size <= 8 {
				checkProductDistances(t, g, h)
				met[strconv.Itoa(g.Size)+" times "+strconv.Itoa(h.Size)] = true
			}
		}
	}
	for _, sizes := range []string{"0 times 8", "8 times 0", "1 times 8", "8 times 1", "2 times 4", "4 times 2", "3 times 2", "0 times 0"} {
		if !met[sizes] {
			t.Error("not met:", sizes)
		}
	}
}

// checkGraphCalls makes the calls of one Graph, and of it and some numbers.
func checkGraphCalls(t *testing.T, g impl.Graph) {
	t.Helper()
	for name, function := range graphCalls() {
		checkCall(t, name, function, g)
	}
	for name, function := range pairCalls() {
		for _, h := range []impl.Graph{{}, graph(1), graph(2, 0, 1), graph(4, 0, 3, 1, 2), graph(9, 0, 1), g} {
			checkCall(t, name, function, g, h)
			checkCall(t, name, function, h, g)
		}
	}
	checkCall(t, "IsGraph", impl.IsGraph, g)
	for _, x := range []int{0, 1, 5, g.Size - 1, g.Size, -1, math.MaxInt, math.MinInt} {
		checkCall(t, "NeighborsOf", impl.NeighborsOf, g, x)
		checkCall(t, "RemoveNode", impl.RemoveNode, g, x)
		for _, y := range []int{0, 2, x, g.Size - 1, -1, math.MaxInt, math.MinInt} {
			checkCall(t, "BallOf", impl.BallOf, g, x, y)
			checkCall(t, "FirstWay", impl.FirstWay, g, x, y)
			checkCall(t, "ToggleEdge", impl.ToggleEdge, g, x, y)
			checkCall(t, "InducedGraph", impl.InducedGraph, g, []int{x, y})
		}
	}
	for _, list := range [][]int{nil, {}, {0}, {1, 0}, {2, 0, 1}, {1, 3, 0, 2}, {7, 6, 5, 4, 3, 2, 1, 0}, {0, 1, 2, 3, 4, 5, 6, 7}, {math.MinInt, math.MaxInt}} {
		checkCall(t, "RenameNodes", impl.RenameNodes, g, list)
		checkCall(t, "InducedGraph", impl.InducedGraph, g, list)
	}
}

func TestGraphsLeaveTheirArgumentsAlone(t *testing.T) {
	for _, g := range fewGraphs() {
		// The room behind the edges is what an append to them would write to.
		room := append(slices.Clone(g.Edges), [2]int{-7, 7}, [2]int{-8, 8})
		behind := room[len(g.Edges):]
		checkGraphCalls(t, impl.Graph{Size: g.Size, Edges: room[:len(g.Edges)]})
		if !slices.Equal(behind, [][2]int{{-7, 7}, {-8, 8}}) {
			t.Fatal("written behind the edges", g, behind)
		}
		checkCall(t, "ParseGraph", impl.ParseGraph, textOf(g))
	}
	for _, g := range brokenGraphs() {
		if len(g.Edges) < 100 {
			checkGraphCalls(t, g)
		}
	}
	for _, n := range append(farNumbers(8), 0, 1, 2, 3, 4, 7, 8) {
		checkCall(t, "PathGraph", impl.PathGraph, n)
		checkCall(t, "CycleGraph", impl.CycleGraph, n)
		checkCall(t, "CompleteGraph", impl.CompleteGraph, n)
	}
	for _, s := range append(textsOver("0-1 ", 4), "3 0-1 1-2", strings.Repeat("8 ", 5000)) {
		checkCall(t, "ParseGraph", impl.ParseGraph, s)
	}
}
