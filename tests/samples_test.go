package tests

import (
	"math"
	"slices"
	"strconv"
	"testing"

	"loop.example/g01109/impl"
)

// graph returns a Graph with the nodes of its edges written one after the other.
func graph(size int, ends ...int) impl.Graph {
	g := impl.Graph{Size: size}
	for i := 0; i < len(ends); i += 2 {
		g.Edges = append(g.Edges, [2]int{ends[i], ends[i+1]})
	}
	return g
}

// pairsOf returns all pairs of size nodes, the less one first, in order.
func pairsOf(size int) [][2]int {
	var pairs [][2]int
	for x := range size {
		for y := x + 1; y < size; y++ {
			pairs = append(pairs, [2]int{x, y})
		}
	}
	return pairs
}

// graphOfBits returns the Graph whose edges are told by the bits, one for each pair of nodes.
func graphOfBits(size int, bits int) impl.Graph {
	g := impl.Graph{Size: size}
	for i, pair := range pairsOf(size) {
		if bits>>i&1 == 1 {
			g.Edges = append(g.Edges, pair)
		}
	}
	return g
}

// allGraphs returns all Graphs of a Size.
func allGraphs(size int) []impl.Graph {
	var all []impl.Graph
	for bits := range 1 << len(pairsOf(size)) {
		all = append(all, graphOfBits(size, bits))
	}
	return all
}

// smallGraphs returns all Graphs of at most the given number of nodes.
func smallGraphs(most int) []impl.Graph {
	var all []impl.Graph
	for size := range most + 1 {
		all = append(all, allGraphs(size)...)
	}
	return all
}

// cube returns the Graph of the corners of a cube, three edges at each.
func cube() impl.Graph {
	return graph(8, 0, 1, 0, 2, 0, 4, 1, 3, 1, 5, 2, 3, 2, 6, 3, 7, 4, 5, 4, 6, 5, 7, 6, 7)
}

// ladder returns the cycle of eight nodes with the edges between opposite ones.
func ladder() impl.Graph {
	return graph(8, 0, 1, 0, 4, 0, 7, 1, 2, 1, 5, 2, 3, 2, 6, 3, 4, 3, 7, 4, 5, 5, 6, 6, 7)
}

// greatGraphs returns Graphs of six to MaxSize nodes: named ones, and some without a pattern.
func greatGraphs() []impl.Graph {
	all := []impl.Graph{
		graph(8), cube(), ladder(), graphOfBits(8, 1<<28-1),
		graph(6, 0, 1, 0, 2, 0, 3, 0, 4, 0, 5),
		graph(7, 0, 6, 1, 6, 2, 6, 3, 6, 4, 6, 5, 6),
		graph(8, 0, 1, 1, 2, 2, 3, 3, 4, 4, 5, 5, 6, 6, 7),
		graph(8, 0, 7, 1, 6, 1, 7, 2, 5, 2, 6, 3, 4, 3, 5),
		graph(8, 0, 1, 0, 7, 1, 2, 2, 3, 3, 4, 4, 5, 5, 6, 6, 7),
		graph(8, 0, 1, 0, 3, 1, 2, 2, 3, 4, 5, 4, 7, 5, 6, 6, 7),
		graph(8, 0, 4, 0, 5, 0, 6, 0, 7, 1, 4, 1, 5, 1, 6, 1, 7),
		graph(8, 0, 2, 1, 7, 3, 5),
		graph(7, 0, 3, 0, 6, 2, 4, 2, 5, 4, 5),
	}
	bits := 1
	for range 40 {
		bits = bits * 48271 % 2147483647
		all = append(all, graphOfBits(8, bits&(1<<28-1)), graphOfBits(8, bits&(bits>>7)), graphOfBits(6+bits%2, bits&(bits>>3)))
	}
	return all
}

// halvedGraphs returns Graphs of six to MaxSize nodes with two complete parts, and with all edges
// between two halves.
func halvedGraphs() []impl.Graph {
	var all []impl.Graph
	for x := range impl.MaxSize + 1 {
		for size := 6; size <= impl.MaxSize; size++ {
			all = append(all, graphBy(size, func(v, w int) bool { return (v < x) == (w < x) }))
			all = append(all, graphBy(size, func(v, w int) bool { return (v < x) != (w < x) }))
		}
	}
	return all
}

// sampleGraphs returns Graphs of all Sizes: all those of at most five nodes, and greater ones.
func sampleGraphs() []impl.Graph {
	return append(smallGraphs(5), greatGraphs()...)
}

// fewGraphs returns some Graphs of each Size.
func fewGraphs() []impl.Graph {
	return append(smallGraphs(3), append(allGraphs(4)[20:40], greatGraphs()[:20]...)...)
}

// brokenGraphs returns Graphs that are not valid, by what is wrong with them.
func brokenGraphs() map[string]impl.Graph {
	full := graphOfBits(8, 1<<28-1)
	long := impl.Graph{Size: 8}
	for range 10000 {
		long.Edges = append(long.Edges, full.Edges...)
	}
	return map[string]impl.Graph{
		"a Size of -1":                       graph(-1),
		"a Size of -1 and an edge":           graph(-1, 0, 1),
		"the least Size":                     graph(math.MinInt),
		"one node too many":                  graph(9),
		"one node too many and an edge":      graph(9, 0, 1),
		"the greatest Size":                  graph(math.MaxInt, 0, 1),
		"an edge without nodes":              graph(0, 0, 1),
		"an edge of one node":                graph(1, 0, 1),
		"a loop of one node":                 graph(1, 0, 0),
		"the greater node first":             graph(3, 1, 0),
		"the greater node first, later":      graph(3, 0, 1, 2, 1),
		"a node with itself":                 graph(3, 1, 1),
		"the last node with itself":          graph(3, 0, 1, 2, 2),
		"a node that is not there":           graph(3, 0, 3),
		"two nodes that are not there":       graph(3, 3, 4),
		"a node less than 0":                 graph(3, -1, 0),
		"two nodes less than 0":              graph(3, -2, -1),
		"a node far away":                    graph(3, 0, math.MaxInt),
		"a node far below":                   graph(3, math.MinInt, 1),
		"first nodes not ascending":          graph(3, 1, 2, 0, 1),
		"second nodes not ascending":         graph(3, 0, 2, 0, 1),
		"first nodes descending, others not": graph(4, 1, 2, 0, 3),
		"an edge twice":                      graph(3, 0, 1, 0, 1),
		"the last edge twice":                graph(8, 0, 1, 6, 7, 6, 7),
		"a ninth node":                       graph(8, 0, 1, 0, 8),
		"all edges and one more":             graph(8, append(endsOf(full), 6, 7)...),
		"all edges and a descent":            graph(8, append(endsOf(full), 0, 1)...),
		"edges without end":                  long,
	}
}

// endsOf returns the nodes of all edges, one after the other.
func endsOf(g impl.Graph) []int {
	var ends []int
	for _, e := range g.Edges {
		ends = append(ends, e[0], e[1])
	}
	return ends
}

// sameGraph compares two Graphs, no edges being like no list of edges.
func sameGraph(g impl.Graph, h impl.Graph) bool {
	return g.Size == h.Size && slices.Equal(g.Edges, h.Edges)
}

// sameLists compares two lists of lists, empty lists being like nil ones.
func sameLists(a [][]int, b [][]int) bool {
	return slices.EqualFunc(a, b, func(x, y []int) bool { return slices.Equal(x, y) })
}

// nearIn tells by the list of edges whether two nodes are neighbors.
func nearIn(g impl.Graph, x int, y int) bool {
	return slices.Contains(g.Edges, [2]int{x, y}) || slices.Contains(g.Edges, [2]int{y, x})
}

// textOf writes a Graph by the description of GraphText.
func textOf(g impl.Graph) string {
	s := strconv.Itoa(g.Size)
	for _, e := range g.Edges {
		s += " " + strconv.Itoa(e[0]) + "-" + strconv.Itoa(e[1])
	}
	return s
}

// subsetsOf returns all sets of size nodes.
func subsetsOf(size int) [][]int {
	var all [][]int
	for bits := range 1 << size {
		set := []int{}
		for x := range size {
			if bits>>x&1 == 1 {
				set = append(set, x)
			}
		}
		all = append(all, set)
	}
	return all
}

// ordersOf returns all lists of each of size nodes once, in lexicographic order.
func ordersOf(size int) [][]int {
	orders := [][]int{{}}
	for range size {
		var longer [][]int
		for _, order := range orders {
			for x := range size {
				if !slices.Contains(order, x) {
					longer = append(longer, append(slices.Clone(order), x))
				}
			}
		}
		orders = longer
	}
	return orders
}

// farNumbers returns numbers that are no nodes of a Graph of a Size.
func farNumbers(size int) []int {
	return []int{-1, -2, -size - 1, size, size + 1, size + 8, 255, 256, 1 << 32, math.MaxInt, math.MinInt}
}

// noSets returns lists that are no sets of a Graph of a Size.
func noSets(size int) [][]int {
	lists := [][]int{{0, 0}, {1, 0}, append(nodesOf(size), size), append([]int{-1}, nodesOf(size)...), make([]int, 1<<16), nodesOf(1 << 16)}
	for _, x := range farNumbers(size) {
		lists = append(lists, []int{x}, []int{0, x}, []int{x, 0})
	}
	for x := range size {
		lists = append(lists, append(nodesOf(size), x))
	}
	return lists
}

func TestSamplesAreWhatTheyAreTaken(t *testing.T) {
	sizes := map[int]int{}
	for _, g := range sampleGraphs() {
		sizes[g.Size]++
		for i, e := range g.Edges {
			if e[0] < 0 || e[0] >= e[1] || e[1] >= g.Size || i > 0 && slices.Compare(g.Edges[i-1][:], e[:]) >= 0 {
				t.Error("not valid", g)
			}
		}
	}
	for size := range impl.MaxSize + 1 {
		if sizes[size] == 0 {
			t.Error("no Graph of", size)
		}
	}
}
