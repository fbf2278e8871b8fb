package tests

import (
	"math"
	"slices"
	"testing"

	"loop.example/g01109/impl"
)

// bandwidthBy returns the greatest difference of the places of two neighbors.
func bandwidthBy(g impl.Graph, order []int) int {
	greatest := 0
	for _, e := range g.Edges {
		apart := slices.Index(order, e[0]) - slices.Index(order, e[1])
		greatest = max(greatest, apart, -apart)
	}
	return greatest
}

// cutsBy counts for each place the edges that go from a node up to it to one behind it.
func cutsBy(g impl.Graph, order []int) []int {
	cuts := []int{}
	for place := range order {
		cut := 0
		for _, e := range g.Edges {
			if (slices.Index(order, e[0]) <= place) != (slices.Index(order, e[1]) <= place) {
				cut++
			}
		}
		cuts = append(cuts, cut)
	}
	return cuts
}

// cutwidthBy returns the greatest cut of a layout.
func cutwidthBy(g impl.Graph, order []int) int {
	return slices.Max(append(cutsBy(g, order), 0))
}

// leastBy returns the first one of some layouts with the least number, and this number.
func leastBy(g impl.Graph, orders [][]int, number func(g impl.Graph, order []int) int) ([]int, int) {
	least := math.MaxInt
	var best []int
	for _, order := range orders {
		if n := number(g, order); n < least {
			best, least = order, n
		}
	}
	return best, least
}

// bandwidthBoundBy returns the greatest one, over all balls, of the least numbers that 2r times are
// at least the number of nodes less 1.
func bandwidthBoundBy(g impl.Graph) int {
	bound := 0
	for _, row := range leastDistances(g) {
		for r := 1; r <= g.Size; r++ {
			nodes, number := 0, 0
			for _, distance := range row {
				if distance >= 0 && distance <= r {
					nodes++
				}
			}
			for 2*r*number < nodes-1 {
				number++
			}
			bound = max(bound, number)
		}
	}
	return bound
}

// climbBy returns a node and the list of parents that leads up from it to a root, nil if it leads to
// none.
func climbBy(parents []int, x int) []int {
	list := []int{x}
	for parents[x] != -1 {
		x = parents[x]
		if x < 0 || x >= len(parents) || slices.Contains(list, x) {
			return nil
		}
		list = append(list, x)
	}
	return list
}

// forestBy tells by the description whether a list is a forest, and its depth.
func forestBy(g impl.Graph, parents []int) (int, bool) {
	if len(parents) != g.Size {
		return 0, false
	}
	depth := 0
	var lists [][]int
	for x := range g.Size {
		list := climbBy(parents, x)
		if list == nil {
			return 0, false
		}
		lists, depth = append(lists, list), max(depth, len(list))
	}
	for _, e := range g.Edges {
		if !slices.Contains(lists[e[0]], e[1]) && !slices.Contains(lists[e[1]], e[0]) {
			return 0, false
		}
	}
	return depth, true
}

// depthsByForests returns for each Graph of a Size, in the order of allGraphs, the least depth of all
// its forests.
func depthsByForests(size int) []int {
	// Forests in which the same nodes are above others are forests of the same Graphs.
	known := map[int]int{}
	for _, parents := range listsOver(size, -1, size-1) {
		depth, is := forestBy(graph(size), parents)
		if !is {
			continue
		}
		pairs := 0
		for i, pair := range pairsOf(size) {
			if slices.Contains(climbBy(parents, pair[0]), pair[1]) || slices.Contains(climbBy(parents, pair[1]), pair[0]) {
				pairs |= 1 << i
			}
		}
		if least, met := known[pairs]; !met || depth < least {
			known[pairs] = depth
		}
	}
	depths := slices.Repeat([]int{math.MaxInt}, 1<<len(pairsOf(size)))
	for pairs, depth := range known {
		for bits := range depths {
			if bits&^pairs == 0 {
				depths[bits] = min(depths[bits], depth)
			}
		}
	}
	return depths
}

// treedepths has the treedepths of the Graphs of some sets of nodes, which are told by their bits.
type treedepths struct {
	g     impl.Graph
	known map[int]int
}

func treedepthsBy(g impl.Graph) treedepths {
	return treedepths{g, map[int]int{}}
}

// partsOf returns the parts of a set by their least nodes.
func (d treedepths) partsOf(set int) [][]int {
	return partsBy(d.g, slices.DeleteFunc(nodesOf(d.g.Size), func(x int) bool { return set>>x&1 == 1 }))
}

// of returns the treedepth of a set: that of its deepest part, and one more than that of the rest
// without one of its nodes if it has no other part.
func (d treedepths) of(set int) int {
	if depth, met := d.known[set]; met {
		return depth
	}
	parts, depth := d.partsOf(set), 0
	for _, part := range parts {
		if len(parts) > 1 {
			depth = max(depth, d.of(bitsBy(part)))
			continue
		}
		_, least := d.rootBy(part)
		depth = least + 1
	}
	d.known[set] = depth
	return depth
}

// rootBy returns the least one of those nodes of a part without which the treedepth of the rest is
// least, and this treedepth.
func (d treedepths) rootBy(part []int) (int, int) {
	root, least := -1, math.MaxInt
	for _, x := range part {
		if depth := d.of(bitsBy(part) &^ (1 << x)); depth < least {
			root, least = x, depth
		}
	}
	return root, least
}

// whole returns the treedepth of the Graph itself.
func (d treedepths) whole() int {
	return d.of(bitsBy(nodesOf(d.g.Size)))
}

// bitsBy returns the bits of a set.
func bitsBy(set []int) int {
	bits := 0
	for _, x := range set {
		bits |= 1 << x
	}
	return bits
}

// plantBy finds the parents of the nodes of a set part by part, where the roots have one above them.
func (d treedepths) plantBy(parents []int, set int, above int) {
	for _, part := range d.partsOf(set) {
		root, _ := d.rootBy(part)
		parents[root] = above
		d.plantBy(parents, bitsBy(part)&^(1<<root), root)
	}
}

// bestForestBy returns the forest that is made part by part.
func (d treedepths) bestForestBy() []int {
	parents := make([]int, d.g.Size)
	d.plantBy(parents, bitsBy(nodesOf(d.g.Size)), -1)
	return parents
}

// rankBy returns one more than the greatest number of the nodes that have a node as their parent.
func rankBy(parents []int, x int) int {
	greatest := 0
	for y, parent := range parents {
		if parent == x {
			greatest = max(greatest, rankBy(parents, y))
		}
	}
	return greatest + 1
}

// ranksBy returns the numbers of all nodes of a forest.
func ranksBy(parents []int) []int {
	ranks := []int{}
	for x := range parents {
		ranks = append(ranks, rankBy(parents, x))
	}
	return ranks
}

// waysBy returns all ways of different nodes, by their numbers of nodes and then lexicographically.
func waysBy(g impl.Graph) [][][]int {
	closed := closedIn(g)
	layers := [][][]int{{{}}}
	for {
		var longer [][]int
		for _, way := range layers[len(layers)-1] {
			for x := range g.Size {
				if !slices.Contains(way, x) && (len(way) == 0 || closed[way[len(way)-1]][x]) {
					longer = append(longer, append(slices.Clone(way), x))
				}
			}
		}
		if longer == nil {
			return layers
		}
		layers = append(layers, longer)
	}
}

// longestBy returns the first one of the longest ways.
func longestBy(g impl.Graph) []int {
	layers := waysBy(g)
	return layers[len(layers)-1][0]
}

// isRankingBy tells by the description whether a list is a ranking, by all ways of different nodes:
// each other way has the nodes of one of them between the same ends.
func isRankingBy(g impl.Graph, layers [][][]int, ranks []int) bool {
	if len(ranks) != g.Size || slices.ContainsFunc(ranks, func(rank int) bool { return rank < 1 }) {
		return false
	}
	for _, ways := range layers[min(len(layers), 2):] {
		for _, way := range ways {
			rank := ranks[way[0]]
			if rank == ranks[way[len(way)-1]] && !slices.ContainsFunc(way, func(x int) bool { return ranks[x] > rank }) {
				return false
			}
		}
	}
	return true
}

// stayers has the numbers of cops that are still needed, for the bits of the nodes where cops are and
// the node of the robber.
type stayers struct {
	closed closedTable
	size   int
	known  map[[2]int]int
}

// needed returns the least number of cops that still have to land to catch the robber at a node.
func (game stayers) needed(cops int, robber int) int {
	at := [2]int{cops, robber}
	if number, met := game.known[at]; met {
		return number
	}
	reached := reachBy(game.closed, robber, cops)
	least := math.MaxInt
	for x := range game.size {
		if cops>>x&1 == 1 {
			continue
		}
		// The robber goes where it is best for it, but not to the node where the cop lands.
		greatest := 0
		for y := range game.size {
			if y != x && reached>>y&1 == 1 {
				greatest = max(greatest, game.needed(cops|1<<x, y))
			}
		}
		least = min(least, greatest+1)
	}
	game.known[at] = least
	return least
}

// stayersBy returns how many cops that stay catch each robber.
func stayersBy(g impl.Graph) int {
	game, number := stayers{closedIn(g), g.Size, map[[2]int]int{}}, 0
	for robber := range g.Size {
		number = max(number, game.needed(0, robber))
	}
	return number
}

// entry returns an entry of a proof of depth.
func entry(depth int, set []int, next ...int) impl.DepthEntry {
	return impl.DepthEntry{Set: set, Depth: depth, Next: next}
}

// isDepthProofBy tells by the description whether entries are a proof of depth.
func isDepthProofBy(g impl.Graph, proof []impl.DepthEntry) bool {
	if len(proof) < 1 || len(proof) > 200 {
		return false
	}
	for i, e := range proof {
		if e.Depth < 1 || !isSetBy(g.Size, e.Set) || !joinedBy(g.Edges, e.Set) {
			return false
		}
		if e.Depth == 1 && len(e.Next) > 0 || e.Depth > 1 && len(e.Next) != len(e.Set) {
			return false
		}
		for j, next := range e.Next {
			if next <= i || next >= len(proof) || proof[next].Depth != e.Depth-1 {
				return false
			}
			for _, x := range proof[next].Set {
				if x == e.Set[j] || !slices.Contains(e.Set, x) {
					return false
				}
			}
		}
	}
	return true
}

// sameProof compares proofs of depth, empty lists being like nil ones.
func sameProof(a []impl.DepthEntry, b []impl.DepthEntry) bool {
	return slices.EqualFunc(a, b, func(x, y impl.DepthEntry) bool {
		return x.Depth == y.Depth && slices.Equal(x.Set, y.Set) && slices.Equal(x.Next, y.Next)
	})
}

// findProofBy returns the proof of depth by the description, of any number of entries.
func (d treedepths) findProofBy() []impl.DepthEntry {
	first := func(set int, depth int) impl.DepthEntry {
		for _, part := range d.partsOf(set) {
			if d.of(bitsBy(part)) >= depth {
				return entry(depth, part)
			}
		}
		panic("no part")
	}
	proof := []impl.DepthEntry{first(bitsBy(nodesOf(d.g.Size)), d.whole())}
	for i := 0; i < len(proof); i++ {
		for _, x := range proof[i].Set {
			if proof[i].Depth == 1 {
				break
			}
			later := first(bitsBy(proof[i].Set)&^(1<<x), proof[i].Depth-1)
			index := slices.IndexFunc(proof, func(e impl.DepthEntry) bool {
				return e.Depth == later.Depth && slices.Equal(e.Set, later.Set)
			})
			if index < 0 {
				index, proof = len(proof), append(proof, later)
			}
			proof[i].Next = append(proof[i].Next, index)
		}
	}
	return proof
}

// sides returns the Graph of two sides of four nodes, with all edges between them.
func sides() impl.Graph {
	return graphBy(8, func(x, y int) bool { return x < 4 && y >= 4 })
}

func TestLimitOfLayouts(t *testing.T) {
	if impl.MaxEntries != 200 {
		t.Error(impl.MaxEntries)
	}
}

// laidOut is what is told of the layouts and depths of a Graph.
type laidOut struct {
	name      string
	g         impl.Graph
	narrow    []int // the first layout with the least bandwidth
	bandwidth int
	bound     int
	thin      []int // the first layout with the least cutwidth
	cutwidth  int
	parents   []int
	ranks     []int
	depth     int
	longest   []int
}

func laidOutByHand() []laidOut {
	none, up := []int{-1, -1, -1, -1, -1, -1, -1, -1}, []int{-1, 0, 1, 2, 3, 4, 5, 6}
	ones := []int{1, 1, 1, 1, 1, 1, 1, 1}
	around := []int{0, 1, 7, 2, 6, 3, 5, 4}
	return []laidOut{
		{"no nodes", graph(0), nil, 0, 0, nil, 0, nil, nil, 0, nil},
		{"one node", graph(1), nodesOf(1), 0, 0, nodesOf(1), 0, none[:1], ones[:1], 1, nodesOf(1)},
		{"two nodes apart", graph(2), nodesOf(2), 0, 0, nodesOf(2), 0, none[:2], ones[:2], 1, nodesOf(1)},
		{"eight nodes apart", graph(8), nodesOf(8), 0, 0, nodesOf(8), 0, none, ones, 1, nodesOf(1)},
		{"two neighbors", inRow(2), nodesOf(2), 1, 1, nodesOf(2), 1, up[:2], []int{2, 1}, 2, nodesOf(2)},
		{"three in a row", inRow(3), nodesOf(3), 1, 1, nodesOf(3), 1, []int{1, -1, 1}, []int{1, 2, 1}, 2, nodesOf(3)},
		{"three in a row, the middle last", graph(3, 0, 2, 1, 2), []int{0, 2, 1}, 1, 1, []int{0, 2, 1}, 1, []int{2, 2, -1}, []int{1, 1, 2}, 2, []int{0, 2, 1}},
		{"four in a row", inRow(4), nodesOf(4), 1, 1, nodesOf(4), 1, []int{-1, 2, 0, 2}, []int{3, 1, 2, 1}, 3, nodesOf(4)},
		{"seven in a row", inRow(7), nodesOf(7), 1, 1, nodesOf(7), 1, []int{1, 3, 1, -1, 5, 3, 5}, []int{1, 2, 1, 3, 1, 2, 1}, 3, nodesOf(7)},
		{"eight in a row", inRow(8), nodesOf(8), 1, 1, nodesOf(8), 1, []int{-1, 2, 4, 2, 0, 6, 4, 6}, []int{4, 1, 2, 1, 3, 1, 2, 1}, 4, nodesOf(8)},
		{"a node and three in a row", graph(4, 1, 2, 2, 3), nodesOf(4), 1, 1, nodesOf(4), 1, []int{-1, 2, -1, 2}, []int{1, 1, 2, 1}, 2, []int{1, 2, 3}},
		{"a star", graph(5, 0, 1, 0, 2, 0, 3, 0, 4), []int{1, 2, 0, 3, 4}, 2, 2, []int{1, 2, 0, 3, 4}, 2, []int{-1, 0, 0, 0, 0}, []int{2, 1, 1, 1, 1}, 2, []int{1, 0, 2}},
		{"a star, its middle last", graph(6, 0, 5, 1, 5, 2, 5, 3, 5, 4, 5), []int{0, 1, 2, 5, 3, 4}, 3, 3, []int{0, 1, 2, 5, 3, 4}, 3, []int{5, 5, 5, 5, 5, -1}, []int{1, 1, 1, 1, 1, 2}, 2, []int{0, 5, 1}},
		{"a tree of three rows", spider(), []int{1, 2, 0, 3, 5, 4, 6}, 2, 2, []int{1, 2, 0, 3, 4, 5, 6}, 2, []int{-1, 0, 1, 0, 3, 0, 5}, []int{3, 2, 1, 2, 1, 2, 1}, 3, []int{2, 1, 0, 3, 4}},
		{"a cycle of three", cycle(3, 3), nodesOf(3), 2, 1, nodesOf(3), 2, up[:3], []int{3, 2, 1}, 3, nodesOf(3)},
		{"a cycle of four", cycle(4, 4), []int{0, 1, 3, 2}, 2, 1, nodesOf(4), 2, []int{-1, 2, 0, 2}, []int{3, 1, 2, 1}, 3, nodesOf(4)},
		{"a cycle of eight", cycle(8, 8), around, 2, 1, nodesOf(8), 2, []int{-1, 2, 4, 2, 0, 6, 4, 6}, []int{4, 1, 2, 1, 3, 1, 2, 1}, 4, nodesOf(8)},
		{"a cycle of four and a node", cycle(5, 4), []int{0, 1, 3, 2, 4}, 2, 1, nodesOf(5), 2, []int{-1, 2, 0, 2, -1}, []int{3, 1, 2, 1, 1}, 3, nodesOf(4)},
		{"four nodes with all edges", complete(4), nodesOf(4), 3, 2, nodesOf(4), 4, up[:4], []int{4, 3, 2, 1}, 4, nodesOf(4)},
		{"a complete Graph", complete(8), nodesOf(8), 7, 4, nodesOf(8), 16, up, []int{8, 7, 6, 5, 4, 3, 2, 1}, 8, nodesOf(8)},
		{"two edges and a node", graph(5, 0, 1, 2, 3), nodesOf(5), 1, 1, nodesOf(5), 1, []int{-1, 0, -1, 2, -1}, []int{2, 1, 2, 1, 1}, 2, []int{0, 1}},
		{"two edges, one between the other's nodes", graph(4, 0, 2, 1, 3), []int{0, 2, 1, 3}, 1, 1, []int{0, 2, 1, 3}, 1, []int{-1, -1, 0, 1}, []int{2, 2, 1, 1}, 2, []int{0, 2}},
		{"an edge and three in a row", graph(5, 0, 1, 2, 3, 3, 4), nodesOf(5), 1, 1, nodesOf(5), 1, []int{-1, 0, 3, -1, 3}, []int{2, 1, 1, 2, 1}, 2, []int{2, 3, 4}},
		{"two cycles of three", graph(6, 0, 2, 0, 4, 1, 3, 1, 5, 2, 4, 3, 5), []int{0, 2, 4, 1, 3, 5}, 2, 1, []int{0, 2, 4, 1, 3, 5}, 2, []int{-1, -1, 0, 1, 2, 3}, []int{3, 3, 2, 2, 1, 1}, 3, []int{0, 2, 4}},
	}
}

// checkLaidOut compares all that is told of the least layouts and the depths of a Graph.
func checkLaidOut(t *testing.T, c laidOut) {
	t.Helper()
	order, bandwidth, ok := impl.LeastBandwidth(c.g)
	checkList(t, "least bandwidth of "+c.name, order, ok, c.narrow)
	checkNumber(t, "least bandwidth of "+c.name, bandwidth, ok, c.bandwidth)
	bound, ok := impl.BandwidthBound(c.g)
	checkNumber(t, "bound of "+c.name, bound, ok, c.bound)
	order, cutwidth, ok := impl.LeastCutwidth(c.g)
	checkList(t, "least cutwidth of "+c.name, order, ok, c.thin)
	checkNumber(t, "least cutwidth of "+c.name, cutwidth, ok, c.cutwidth)
	checkDepths(t, c)
}

// checkDepths compares what is told of the depths and the longest way of a Graph.
func checkDepths(t *testing.T, c laidOut) {
	t.Helper()
	depth, ok := impl.TreedepthOf(c.g)
	checkNumber(t, "treedepth of "+c.name, depth, ok, c.depth)
	parents, ok := impl.BestForest(c.g)
	checkList(t, "best forest of "+c.name, parents, ok, c.parents)
	ranks, ok := impl.RankingOf(c.g)
	checkList(t, "ranking of "+c.name, ranks, ok, c.ranks)
	longest, ok := impl.LongestPath(c.g)
	checkList(t, "longest path of "+c.name, longest, ok, c.longest)
}

func TestLeastLayoutsAndDepthsByHand(t *testing.T) {
	for _, c := range laidOutByHand() {
		checkLaidOut(t, c)
	}
	for _, c := range []struct {
		g                          impl.Graph
		bandwidth, cutwidth, depth int
	}{
		{cube(), 4, 5, 5},
		{sides(), 5, 8, 5},
	} {
		_, bandwidth, ok := impl.LeastBandwidth(c.g)
		checkNumber(t, "bandwidth of "+textOf(c.g), bandwidth, ok, c.bandwidth)
		_, cutwidth, ok := impl.LeastCutwidth(c.g)
		checkNumber(t, "cutwidth of "+textOf(c.g), cutwidth, ok, c.cutwidth)
		depth, ok := impl.TreedepthOf(c.g)
		checkNumber(t, "treedepth of "+textOf(c.g), depth, ok, c.depth)
	}
}

func TestBandwidthsAndCutsByHand(t *testing.T) {
	for _, c := range []struct {
		name      string
		g         impl.Graph
		order     []int
		bandwidth int
		cuts      []int
	}{
		{"no nodes", graph(0), nil, 0, nil},
		{"one node", graph(1), []int{0}, 0, []int{0}},
		{"eight nodes apart", graph(8), []int{7, 6, 5, 4, 3, 2, 1, 0}, 0, make([]int, 8)},
		{"two neighbors", inRow(2), []int{1, 0}, 1, []int{1, 0}},
		{"a row", inRow(3), []int{0, 1, 2}, 1, []int{1, 1, 0}},
		{"a row, its middle first", inRow(3), []int{1, 0, 2}, 2, []int{2, 1, 0}},
		{"a row, its middle last", inRow(3), []int{0, 2, 1}, 2, []int{1, 2, 0}},
		{"eight in a row, both ends first", inRow(8), []int{0, 7, 1, 2, 3, 4, 5, 6}, 6, []int{1, 2, 2, 2, 2, 2, 2, 0}},
		{"an edge from the first to the last place", graph(8, 2, 5), []int{5, 0, 1, 3, 4, 6, 7, 2}, 7, []int{1, 1, 1, 1, 1, 1, 1, 0}},
		{"a cycle of three", cycle(3, 3), []int{2, 0, 1}, 2, []int{2, 2, 0}},
		{"a cycle of four", cycle(4, 4), []int{0, 1, 2, 3}, 3, []int{2, 2, 2, 0}},
		{"a cycle of four, opposite nodes first", cycle(4, 4), []int{0, 2, 1, 3}, 3, []int{2, 4, 2, 0}},
		{"a star", graph(5, 0, 1, 0, 2, 0, 3, 0, 4), []int{0, 1, 2, 3, 4}, 4, []int{4, 3, 2, 1, 0}},
		{"a star, its middle last", graph(5, 0, 1, 0, 2, 0, 3, 0, 4), []int{4, 3, 2, 1, 0}, 4, []int{1, 2, 3, 4, 0}},
		{"two parts in turn", graph(4, 0, 1, 2, 3), []int{0, 2, 1, 3}, 2, []int{1, 2, 1, 0}},
		{"two parts", graph(4, 0, 1, 2, 3), []int{3, 2, 0, 1}, 1, []int{1, 0, 1, 0}},
		{"a node without neighbors between others", graph(3, 0, 2), []int{0, 1, 2}, 2, []int{1, 1, 0}},
		{"a complete Graph", complete(8), []int{3, 1, 4, 0, 5, 2, 6, 7}, 7, []int{7, 12, 15, 16, 15, 12, 7, 0}},
	} {
		bandwidth, ok := impl.BandwidthOf(c.g, c.order)
		checkNumber(t, "bandwidth of "+c.name, bandwidth, ok, c.bandwidth)
		cuts, ok := impl.CutsOf(c.g, c.order)
		checkList(t, "cuts of "+c.name, cuts, ok, c.cuts)
		cutwidth, ok := impl.CutwidthOf(c.g, c.order)
		checkNumber(t, "cutwidth of "+c.name, cutwidth, ok, slices.Max(append(c.cuts, 0)))
	}
}

// checkPlaces compares what is told of a layout.
func checkPlaces(t *testing.T, g impl.Graph, order []int) {
	t.Helper()
	bandwidth, ok := impl.BandwidthOf(g, order)
	checkNumber(t, "bandwidth in "+textOf(g), bandwidth, ok, bandwidthBy(g, order))
	cuts, ok := impl.CutsOf(g, order)
	checkList(t, "cuts in "+textOf(g), cuts, ok, cutsBy(g, order))
	cutwidth, ok := impl.CutwidthOf(g, order)
	checkNumber(t, "cutwidth in "+textOf(g), cutwidth, ok, cutwidthBy(g, order))
}

func TestBandwidthsAndCutsOfAllLayouts(t *testing.T) {
	t.Parallel()
	for _, g := range append(smallGraphs(4), eachOf(allGraphs(5), 7)...) {
		for _, order := range ordersOf(g.Size) {
			checkPlaces(t, g, order)
		}
	}
}

func TestBandwidthsAndCutsOfGreatGraphs(t *testing.T) {
	t.Parallel()
	orders := ordersBySize(30)
	for _, g := range append(greatGraphs(), treeGraphs()...) {
		for _, order := range orders[g.Size] {
			checkPlaces(t, g, order)
		}
	}
}

// orderedCalls are the functions of one Graph and a layout.
func orderedCalls() map[string]any {
	return map[string]any{"BandwidthOf": impl.BandwidthOf, "CutsOf": impl.CutsOf, "CutwidthOf": impl.CutwidthOf}
}

func TestListsWithoutBandwidthAndCutsFail(t *testing.T) {
	for _, g := range fewGraphs() {
		for _, list := range noOrders(g.Size) {
			for name, function := range orderedCalls() {
				checkFails(t, name, function, g, list)
			}
		}
	}
}

// checkLeastLayouts compares the least bandwidth and cutwidth with those of all layouts.
func checkLeastLayouts(t *testing.T, g impl.Graph, orders [][]int) {
	t.Helper()
	name := textOf(g)
	want, least := leastBy(g, orders, bandwidthBy)
	order, bandwidth, ok := impl.LeastBandwidth(g)
	checkList(t, "least bandwidth of "+name, order, ok, want)
	checkNumber(t, "least bandwidth of "+name, bandwidth, ok, least)
	bound, ok := impl.BandwidthBound(g)
	checkNumber(t, "bound of "+name, bound, ok, bandwidthBoundBy(g))
	if bound > least {
		t.Error("a bound that is too great", g, bound, least)
	}
	want, least = leastBy(g, orders, cutwidthBy)
	order, cutwidth, ok := impl.LeastCutwidth(g)
	checkList(t, "least cutwidth of "+name, order, ok, want)
	checkNumber(t, "least cutwidth of "+name, cutwidth, ok, least)
}

func TestLeastOfAllLayouts(t *testing.T) {
	t.Parallel()
	for size := range 6 {
		orders := ordersOf(size)
		for _, g := range allGraphs(size) {
			checkLeastLayouts(t, g, orders)
		}
	}
}

func TestLeastOfAllLayoutsOfGreatGraphs(t *testing.T) {
	t.Parallel()
	graphs := append(eachOf(allGraphs(6), 301), eachOf(treeGraphs(), 20)...)
	graphs = append(graphs, greatGraphs()[:22]...)
	for size := 6; size <= impl.MaxSize; size++ {
		orders := ordersOf(size)
		for _, g := range append(graphs, graph(size), inRow(size), complete(size), cycle(size, size)) {
			if g.Size == size {
				checkLeastLayouts(t, g, orders)
			}
		}
	}
}

func TestBoundsOfBandwidths(t *testing.T) {
	t.Parallel()
	less := 0
	for _, g := range append(sampleGraphs(), treeGraphs()...) {
		bound, one := impl.BandwidthBound(g)
		_, bandwidth, two := impl.LeastBandwidth(g)
		if !one || !two || bound != bandwidthBoundBy(g) || bound > bandwidth {
			t.Error("bound", g, bound, bandwidth)
		}
		if bound < bandwidth {
			less++
		}
	}
	if less < 100 {
		t.Error("few bounds that are not met:", less)
	}
}

// checkForest compares what is told of a list of parents, and returns whether it is a forest.
func checkForest(t *testing.T, name string, g impl.Graph, parents []int) bool {
	t.Helper()
	depth, want := forestBy(g, parents)
	is, ok := impl.IsForest(g, parents)
	if !ok || is != want {
		t.Errorf("%s: parents %.300v in %v: got %v, %v, want %v", name, parents, g, is, ok, want)
	}
	if !want {
		checkFails(t, "ForestDepth of "+name, impl.ForestDepth, g, parents)
		return false
	}
	got, ok := impl.ForestDepth(g, parents)
	checkNumber(t, "depth of "+name, got, ok, depth)
	return true
}

func TestForestsByHand(t *testing.T) {
	path, ring, star := inRow(3), cycle(4, 4), graph(4, 0, 1, 0, 2, 0, 3)
	chain := []int{-1, 0, 1, 2, 3, 4, 5, 6}
	for _, c := range []struct {
		name    string
		g       impl.Graph
		parents []int
		depth   int // -1 if the list is no forest
	}{
		{"no nodes", graph(0), nil, 0},
		{"no nodes and a root", graph(0), []int{-1}, -1},
		{"no nodes and a parent", graph(0), []int{0}, -1},
		{"one node", graph(1), []int{-1}, 1},
		{"one node without a list", graph(1), nil, -1},
		{"one node as its own parent", graph(1), []int{0}, -1},
		{"two roots", graph(2), []int{-1, -1}, 1},
		{"two roots that are neighbors", inRow(2), []int{-1, -1}, -1},
		{"two neighbors", inRow(2), []int{1, -1}, 2},
		{"a parent that is no neighbor", graph(2), []int{-1, 0}, 2},
		{"eight roots", graph(8), slices.Repeat([]int{-1}, 8), 1},
		{"a depth of MaxSize without edges", graph(8), chain, 8},
		{"a depth of MaxSize", complete(8), chain, 8},
		{"a depth of MaxSize, backwards", complete(8), []int{1, 2, 3, 4, 5, 6, 7, -1}, 8},
		{"a row from its middle", path, []int{1, -1, 1}, 2},
		{"a row from its end", path, []int{-1, 0, 1}, 3},
		{"a row, its middle below both ends", path, []int{-1, 2, 0}, 3},
		{"a row, a parent that is no neighbor", path, []int{-1, 0, 0}, -1},
		{"an edge between different branches", cycle(3, 3), []int{1, -1, 1}, -1},
		{"an edge between branches of different depths", ring, []int{-1, 0, 1, 0}, -1},
		{"an edge over two parents", ring, []int{-1, 0, 1, 2}, 4},
		{"an edge to the root over one parent", cycle(3, 3), []int{-1, 0, 1}, 3},
		{"an edge between roots below others", graph(4, 0, 1, 2, 3), []int{-1, 0, -1, 1}, -1},
		{"two parts", graph(4, 0, 1, 2, 3), []int{1, -1, -1, 2}, 2},
		{"two parts in one tree", graph(4, 0, 1, 2, 3), []int{1, -1, 1, 2}, 3},
		{"an edge from one tree to another", graph(4, 0, 1, 1, 2, 2, 3), []int{1, -1, -1, 2}, -1},
		{"a star", star, []int{-1, 0, 0, 0}, 2},
		{"a star below a leaf", star, []int{1, -1, 0, 0}, 3},
		{"a star, leaves in a row above its middle", star, []int{3, -1, 1, 2}, 4},
		{"too few parents", path, []int{1, -1}, -1},
		{"too many parents", path, []int{1, -1, 1, -1}, -1},
		{"no parents", path, nil, -1},
		{"many parents", path, slices.Repeat([]int{-1}, 1<<20), -1},
		{"a ninth parent", complete(8), append(slices.Clone(chain), 7), -1},
		{"a parent less than -1", path, []int{1, -2, 1}, -1},
		{"a parent less than -1 beside a root", graph(2), []int{-1, -2}, -1},
		{"a parent that is not there", path, []int{1, -1, 3}, -1},
		{"a parent of a root that is not there", path, []int{1, 3, 1}, -1},
		{"a ninth node as parent", complete(8), []int{8, 0, 1, 2, 3, 4, 5, 6}, -1},
		{"a parent far away", path, []int{1, math.MaxInt, 1}, -1},
		{"a parent far below", path, []int{1, math.MinInt, 1}, -1},
		{"a node as its own parent", path, []int{1, 1, 1}, -1},
		{"a node as its own parent beside a root", graph(3), []int{-1, 1, 0}, -1},
		{"the last node as its own parent", graph(3), []int{-1, 0, 2}, -1},
		{"a cycle of two parents", graph(2), []int{1, 0}, -1},
		{"a cycle of two parents with a node below", path, []int{1, 0, 1}, -1},
		{"a cycle of two parents beside a root", graph(3), []int{1, 0, -1}, -1},
		{"a cycle of two parents behind a root", graph(3), []int{-1, 2, 1}, -1},
		{"a cycle of three parents", graph(3), []int{1, 2, 0}, -1},
		{"a cycle of three parents beside a root", graph(4), []int{-1, 2, 3, 1}, -1},
		{"a cycle of three parents with a node below", graph(5), []int{1, 2, 3, 1, -1}, -1},
		{"a cycle of eight parents", complete(8), []int{7, 0, 1, 2, 3, 4, 5, 6}, -1},
		{"a cycle of seven parents beside a root", graph(8), []int{-1, 7, 1, 2, 3, 4, 5, 6}, -1},
	} {
		if checkForest(t, c.name, c.g, c.parents) != (c.depth >= 0) {
			t.Error("by hand:", c.name)
		}
		if c.depth >= 0 {
			depth, ok := impl.ForestDepth(c.g, c.parents)
			checkNumber(t, c.name, depth, ok, c.depth)
		}
	}
}

// checkBoth checks that there are some of both kinds among what was checked.
func checkBoth(t *testing.T, told map[bool]int, most int) {
	t.Helper()
	if told[true] < most || told[false] < most {
		t.Error("few of a kind:", told)
	}
}

func TestForestsOfAllLists(t *testing.T) {
	t.Parallel()
	told := map[bool]int{}
	for _, g := range smallGraphs(3) {
		for length := range 5 {
			for _, parents := range listsOver(length, -2, g.Size) {
				told[checkForest(t, "some parents", g, parents)]++
			}
		}
	}
	for _, g := range append(eachOf(allGraphs(4), 3), eachOf(allGraphs(5), 101)...) {
		for _, parents := range listsOver(g.Size, -1, g.Size-1) {
			told[checkForest(t, "parents", g, parents)]++
		}
	}
	checkBoth(t, told, 1000)
}

func TestForestsWithOneThingChanged(t *testing.T) {
	t.Parallel()
	told := map[bool]int{}
	for _, g := range append(greatGraphs(), treeGraphs()...) {
		parents := treedepthsBy(g).bestForestBy()
		told[checkForest(t, "a forest", g, parents)]++
		told[checkForest(t, "a parent less", g, parents[1:])]++
		told[checkForest(t, "a parent more", g, append(parents, -1))]++
		for x := range parents {
			for _, other := range append(farNumbers(g.Size), nodesOf(g.Size)...) {
				changed := slices.Clone(parents)
				changed[x] = other
				told[checkForest(t, "a changed forest", g, changed)]++
			}
		}
	}
	checkBoth(t, told, 1000)
}

func TestTreedepthsOfAllForests(t *testing.T) {
	t.Parallel()
	for size := range 7 {
		depths := depthsByForests(size)
		for bits, g := range allGraphs(size) {
			depth, ok := impl.TreedepthOf(g)
			checkNumber(t, "treedepth of "+textOf(g), depth, ok, depths[bits])
		}
	}
}

// checkForestsOf compares the treedepth, the best forest and the ranking with those that the test
// finds.
func checkForestsOf(t *testing.T, g impl.Graph) {
	t.Helper()
	found := treedepthsBy(g)
	depth, ok := impl.TreedepthOf(g)
	checkNumber(t, "treedepth of "+textOf(g), depth, ok, found.whole())
	want := found.bestForestBy()
	parents, ok := impl.BestForest(g)
	checkList(t, "best forest of "+textOf(g), parents, ok, want)
	ranks, ok := impl.RankingOf(g)
	checkList(t, "ranking of "+textOf(g), ranks, ok, ranksBy(want))
}

func TestBestForestsPartByPart(t *testing.T) {
	t.Parallel()
	for _, g := range append(sampleGraphs(), append(treeGraphs(), eachOf(allGraphs(6), 17)...)...) {
		checkForestsOf(t, g)
	}
}

// checkRanking compares what is told of a list of numbers, and returns whether it is a ranking.
func checkRanking(t *testing.T, name string, g impl.Graph, layers [][][]int, ranks []int) bool {
	t.Helper()
	want := isRankingBy(g, layers, ranks)
	is, ok := impl.IsRanking(g, ranks)
	if !ok || is != want {
		t.Errorf("%s: numbers %.300v in %v: got %v, %v, want %v", name, ranks, g, is, ok, want)
	}
	return want
}

func TestRankingsByHand(t *testing.T) {
	path, ring, parts := inRow(3), cycle(4, 4), graph(4, 0, 1, 2, 3)
	for _, c := range []struct {
		name  string
		g     impl.Graph
		ranks []int
		want  bool
	}{
		{"no nodes", graph(0), nil, true},
		{"no nodes and a number", graph(0), []int{1}, false},
		{"one node", graph(1), []int{1}, true},
		{"one node with another number", graph(1), []int{7}, true},
		{"one node with the greatest number", graph(1), []int{math.MaxInt}, true},
		{"one node with 0", graph(1), []int{0}, false},
		{"one node with -1", graph(1), []int{-1}, false},
		{"one node with the least number", graph(1), []int{math.MinInt}, false},
		{"the same number apart", graph(8), slices.Repeat([]int{1}, 8), true},
		{"the greatest number apart", graph(8), slices.Repeat([]int{math.MaxInt}, 8), true},
		{"0 apart", graph(8), []int{1, 1, 1, 1, 0, 1, 1, 1}, false},
		{"a number less than 0 apart", graph(2), []int{1, -1}, false},
		{"the same number on neighbors", inRow(2), []int{1, 1}, false},
		{"the greatest number on neighbors", inRow(2), []int{math.MaxInt, math.MaxInt}, false},
		{"the greatest number and one less", inRow(2), []int{math.MaxInt, math.MaxInt - 1}, true},
		{"a row", path, []int{1, 2, 1}, true},
		{"a row, a less number between", path, []int{2, 1, 2}, false},
		{"a row, the same number between", path, []int{1, 1, 1}, false},
		{"a row, the same number on the first neighbors", path, []int{1, 1, 2}, false},
		{"a row, the same number on the last neighbors", path, []int{2, 1, 1}, false},
		{"a row with different numbers", path, []int{2, 1, 3}, true},
		{"a row with numbers far apart", path, []int{5, math.MaxInt, 5}, true},
		{"a row with 0", path, []int{0, 2, 1}, false},
		{"a row with 0 at its end", path, []int{1, 2, 0}, false},
		{"a row with a negative number", path, []int{1, -2, 3}, false},
		{"a row with the least number", path, []int{1, math.MinInt, 3}, false},
		{"a row with the least number twice", path, []int{math.MinInt, 1, math.MinInt}, false},
		{"four in a row", inRow(4), []int{1, 2, 1, 3}, true},
		{"four in a row, less numbers between", inRow(4), []int{3, 1, 2, 3}, false},
		{"four in a row, one greater number between", inRow(4), []int{2, 1, 3, 2}, true},
		{"a greater number on one of two ways", ring, []int{1, 2, 1, 1}, false},
		{"greater numbers on one of two ways, a less one on the other", ring, []int{2, 3, 2, 1}, false},
		{"greater numbers on both ways", ring, []int{1, 2, 1, 3}, true},
		{"the same greater number on both ways", ring, []int{1, 2, 1, 2}, false},
		{"different parts", parts, []int{1, 2, 1, 2}, true},
		{"different parts, neighbors with the same number", parts, []int{1, 2, 2, 2}, false},
		{"no numbers", path, nil, false},
		{"too few numbers", path, []int{1, 2}, false},
		{"too many numbers", path, []int{1, 2, 1, 3}, false},
		{"many numbers", path, slices.Repeat([]int{1}, 1<<20), false},
		{"a complete Graph", complete(8), []int{8, 1, 7, 2, 6, 3, 5, 4}, true},
		{"a complete Graph, a number twice", complete(8), []int{8, 1, 7, 2, 6, 3, 5, 3}, false},
		{"a ninth number", complete(8), []int{1, 2, 3, 4, 5, 6, 7, 8, 9}, false},
	} {
		is, ok := impl.IsRanking(c.g, c.ranks)
		checkTold(t, c.name, is, ok, c.want)
		if c.g.Size < 6 && isRankingBy(c.g, waysBy(c.g), c.ranks) != c.want {
			t.Error("by hand:", c.name)
		}
	}
}

func TestRankingsOfAllLists(t *testing.T) {
	t.Parallel()
	told := map[bool]int{}
	for _, g := range smallGraphs(3) {
		layers := waysBy(g)
		for length := range 5 {
			for _, ranks := range listsOver(length, -1, 4) {
				told[checkRanking(t, "some numbers", g, layers, ranks)]++
			}
		}
	}
	for _, g := range append(allGraphs(4), eachOf(allGraphs(5), 31)...) {
		layers := waysBy(g)
		for _, ranks := range listsOver(g.Size, 1, 4) {
			told[checkRanking(t, "numbers", g, layers, ranks)]++
		}
	}
	checkBoth(t, told, 1000)
}

func TestRankingsWithOneThingChanged(t *testing.T) {
	t.Parallel()
	told := map[bool]int{}
	for _, g := range append(greatGraphs(), eachOf(treeGraphs(), 5)...) {
		if len(g.Edges) > 14 {
			continue
		}
		layers := waysBy(g)
		ranks := ranksBy(treedepthsBy(g).bestForestBy())
		told[checkRanking(t, "a ranking", g, layers, ranks)]++
		told[checkRanking(t, "a number less", g, layers, ranks[1:])]++
		told[checkRanking(t, "a number more", g, layers, append(ranks, 1))]++
		for x := range ranks {
			for _, other := range append(farNumbers(g.Size), nodesOf(g.Size)...) {
				changed := slices.Clone(ranks)
				changed[x] = other
				told[checkRanking(t, "a changed ranking", g, layers, changed)]++
			}
		}
	}
	checkBoth(t, told, 1000)
}

func TestPromise7GreatestNumbersOfAllRankings(t *testing.T) {
	t.Parallel()
	for _, g := range append(smallGraphs(4), differentGraphs(5)...) {
		layers, least := waysBy(g), math.MaxInt
		for _, ranks := range listsOver(g.Size, 1, g.Size) {
			if isRankingBy(g, layers, ranks) {
				least = min(least, slices.Max(append(ranks, 0)))
			}
		}
		depth, ok := impl.TreedepthOf(g)
		checkNumber(t, "treedepth of "+textOf(g), depth, ok, least)
	}
}

func TestStayersByHand(t *testing.T) {
	for _, c := range laidOutByHand() {
		for k := range impl.MaxSize + 1 {
			wins, ok := impl.StayersWin(c.g, k)
			checkTold(t, "stayers on "+c.name, wins, ok, k >= c.depth)
		}
	}
	for _, g := range append(fewGraphs(), complete(8), graph(8), inRow(8)) {
		for _, k := range []int{-1, -2, impl.MaxSize + 1, 10, 64, 1 << 32, math.MaxInt, math.MinInt} {
			checkFails(t, "StayersWin", impl.StayersWin, g, k)
		}
		wins, ok := impl.StayersWin(g, 0)
		checkTold(t, "no stayers", wins, ok, g.Size == 0)
		wins, ok = impl.StayersWin(g, impl.MaxSize)
		checkTold(t, "MaxSize stayers", wins, ok, true)
	}
}

func TestStayersPlayedOut(t *testing.T) {
	t.Parallel()
	graphs := append(smallGraphs(5), eachOf(allGraphs(6), 97)...)
	graphs = append(graphs, greatGraphs()...)
	for _, g := range append(graphs, eachOf(treeGraphs(), 3)...) {
		number := stayersBy(g)
		for k := range impl.MaxSize + 1 {
			wins, ok := impl.StayersWin(g, k)
			checkTold(t, "stayers on "+textOf(g), wins, ok, k >= number)
		}
	}
}

func TestLongestOfAllWays(t *testing.T) {
	t.Parallel()
	graphs := append(smallGraphs(5), eachOf(allGraphs(6), 31)...)
	for _, g := range append(append(graphs, greatGraphs()...), eachOf(treeGraphs(), 4)...) {
		longest, ok := impl.LongestPath(g)
		checkList(t, "longest path of "+textOf(g), longest, ok, longestBy(g))
	}
}

func TestLongestPathsByHand(t *testing.T) {
	for _, c := range []struct {
		name string
		g    impl.Graph
		want []int
	}{
		{"a part with more nodes behind", graph(5, 0, 1, 2, 3, 2, 4), []int{3, 2, 4}},
		{"parts of the same length", graph(6, 0, 5, 1, 2, 3, 4), []int{0, 5}},
		{"a node without neighbors first", graph(3, 1, 2), []int{1, 2}},
		{"a way that leaves nodes out", graph(5, 0, 1, 0, 2, 0, 3, 3, 4), []int{1, 0, 3, 4}},
		{"the less end first", graph(4, 0, 3, 1, 2, 1, 3), []int{0, 3, 1, 2}},
		{"a greater node in the middle", graph(4, 0, 2, 0, 3, 1, 2, 1, 3), []int{0, 2, 1, 3}},
		{"not from node 0", graph(4, 0, 1, 0, 2, 2, 3), []int{1, 0, 2, 3}},
		{"two sides", sides(), []int{0, 4, 1, 5, 2, 6, 3, 7}},
		{"a cube", cube(), []int{0, 1, 3, 2, 6, 4, 5, 7}},
	} {
		longest, ok := impl.LongestPath(c.g)
		checkList(t, c.name, longest, ok, c.want)
	}
}

// checkProof compares what is told of entries, and returns whether they are a proof of depth, which
// must not be of more than the treedepth.
func checkProof(t *testing.T, name string, g impl.Graph, depth int, proof []impl.DepthEntry) bool {
	t.Helper()
	want := isDepthProofBy(g, proof)
	is, ok := impl.IsDepthProof(g, proof)
	if !ok || is != want {
		t.Errorf("%s: entries %.300v of %v: got %v, %v, want %v", name, proof, g, is, ok, want)
	}
	if is && proof[0].Depth > depth {
		t.Error("more than the treedepth", g, proof, depth)
	}
	return want
}

func TestDepthProofsByHand(t *testing.T) {
	path, full, ends := inRow(3), complete(3), []impl.DepthEntry{entry(1, []int{0}), entry(1, []int{1}), entry(1, []int{2})}
	// with puts entries ahead of one for each of three nodes alone: behind one entry, these are 1, 2 and 3.
	with := func(first ...impl.DepthEntry) []impl.DepthEntry { return append(first, ends...) }
	one := []impl.DepthEntry{entry(1, []int{0})}
	last := append(slices.Repeat(one, 199), entry(1, []int{1}))
	last[0] = entry(2, []int{0, 1}, 199, 198)
	for _, c := range []struct {
		name  string
		g     impl.Graph
		proof []impl.DepthEntry
		want  bool
	}{
		{"no entry", path, nil, false},
		{"no entry of no nodes", graph(0), nil, false},
		{"a Set without nodes of no nodes", graph(0), []impl.DepthEntry{entry(1, nil)}, false},
		{"a node of no nodes", graph(0), one, false},
		{"one node", graph(1), one, true},
		{"MaxEntries entries", graph(1), slices.Repeat(one, 200), true},
		{"one entry more than MaxEntries", graph(1), slices.Repeat(one, 201), false},
		{"many entries", graph(1), slices.Repeat(one, 1<<18), false},
		{"the last of MaxEntries entries in Next", inRow(2), last, true},
		{"the last of one entry more in Next", inRow(2), append([]impl.DepthEntry{entry(2, []int{0, 1}, 200, 199)}, last[1:]...), false},
		{"one entry more behind MaxEntries", inRow(2), append(slices.Clone(last), one[0]), false},
		{"two neighbors", path, with(entry(2, []int{0, 1}, 2, 1)), true},
		{"more nodes", path, with(entry(2, []int{0, 1, 2}, 2, 1, 1)), true},
		{"the same entry twice in Next", path, with(entry(2, []int{0, 1, 2}, 2, 3, 2)), true},
		{"the same entry in all of Next", path, with(entry(2, []int{0, 1, 2}, 2, 2, 2)), false},
		{"one node of many", path, with(entry(1, []int{0, 1, 2})), true},
		{"three nodes with all edges", full, []impl.DepthEntry{
			entry(3, []int{0, 1, 2}, 1, 2, 3), entry(2, []int{1, 2}, 5, 4), entry(2, []int{0, 2}, 5, 6), entry(2, []int{0, 1}, 4, 6),
			entry(1, []int{1}), entry(1, []int{2}), entry(1, []int{0}),
		}, true},
		{"three in a row as three with all edges", path, []impl.DepthEntry{
			entry(3, []int{0, 1, 2}, 1, 2, 3), entry(2, []int{1, 2}, 5, 4), entry(2, []int{0, 2}, 5, 6), entry(2, []int{0, 1}, 4, 6),
			entry(1, []int{1}), entry(1, []int{2}), entry(1, []int{0}),
		}, false},
		{"less than a part of the rest", inRow(4), append([]impl.DepthEntry{entry(2, nodesOf(4), 2, 1, 1, 3)}, ends...), true},
		{"an entry that no other one names", path, append([]impl.DepthEntry{entry(1, []int{0})}, ends...), true},
		{"an entry that no other one names, and that is wrong", path, append(slices.Clone(ends), entry(1, []int{0, 2})), false},
		{"a deeper entry behind the first one", path, append([]impl.DepthEntry{entry(1, []int{2})}, entry(2, []int{0, 1}, 3, 2), ends[0], ends[1]), true},
		{"a Set without nodes", path, []impl.DepthEntry{entry(1, nil)}, false},
		{"a Set without nodes and a Depth of 2", path, []impl.DepthEntry{entry(2, nil)}, false},
		{"a Set without nodes in the last entry", path, append(slices.Clone(ends), entry(1, nil)), false},
		{"a node twice", path, []impl.DepthEntry{entry(1, []int{1, 1})}, false},
		{"falling order", path, []impl.DepthEntry{entry(1, []int{1, 0})}, false},
		{"falling order in the last entry", path, append(slices.Clone(ends), entry(1, []int{2, 1})), false},
		{"falling order with a Depth of 2", path, with(entry(2, []int{1, 0}, 1, 2)), false},
		{"a node that is not there", path, []impl.DepthEntry{entry(1, []int{3})}, false},
		{"a ninth node", complete(8), []impl.DepthEntry{entry(1, nodesOf(9))}, false},
		{"a node less than 0", path, []impl.DepthEntry{entry(1, []int{-1, 0})}, false},
		{"a node far away", path, []impl.DepthEntry{entry(1, []int{0, math.MaxInt})}, false},
		{"a node far below", path, []impl.DepthEntry{entry(1, []int{math.MinInt})}, false},
		{"a node that is not there in a later entry", path, append(slices.Clone(ends), entry(1, []int{3})), false},
		{"a node that is not there in a named entry", path, []impl.DepthEntry{entry(2, []int{0, 1}, 1, 2), entry(1, []int{-1}), entry(1, []int{0})}, false},
		{"a long Set", path, []impl.DepthEntry{entry(1, make([]int, 1<<20))}, false},
		{"nodes that are not connected", path, []impl.DepthEntry{entry(1, []int{0, 2})}, false},
		{"nodes that are connected by others only", inRow(8), []impl.DepthEntry{entry(1, []int{0, 1, 2, 4, 5})}, false},
		{"nodes of two parts", graph(2), []impl.DepthEntry{entry(1, []int{0, 1})}, false},
		{"nodes that are not connected in a later entry", path, append(with(entry(2, []int{0, 1}, 2, 1)), entry(1, []int{0, 2})), false},
		{"a Depth of 0", path, []impl.DepthEntry{entry(0, []int{0})}, false},
		{"a Depth of 0 in Next", path, []impl.DepthEntry{entry(1, []int{0}, 1), entry(0, []int{1})}, false},
		{"a Depth of -1", path, []impl.DepthEntry{entry(-1, []int{0})}, false},
		{"the least Depth", path, []impl.DepthEntry{entry(math.MinInt, []int{0})}, false},
		{"the greatest Depth", path, []impl.DepthEntry{entry(math.MaxInt, []int{0}, 1), entry(math.MinInt, []int{0})}, false},
		{"a Depth too great by one", path, with(entry(3, []int{0, 1}, 2, 1)), false},
		{"a Depth of 2 with one node", path, with(entry(2, []int{0}, 1)), false},
		{"a Depth of 2 with one node and no Next", path, []impl.DepthEntry{entry(2, []int{0})}, false},
		{"a Depth of 1 with an entry in Next", path, with(entry(1, []int{0}, 2)), false},
		{"a Depth of 1 with an entry in Next for each node", path, with(entry(1, []int{0, 1}, 2, 1)), false},
		{"a Depth of 1 with a Next of -1", path, []impl.DepthEntry{entry(1, []int{0}, -1)}, false},
		{"a Depth of 1 with an entry in Next, later", path, append([]impl.DepthEntry{ends[0]}, entry(1, []int{0}, 2), ends[1]), false},
		{"a Next that is too short", path, with(entry(2, []int{0, 1}, 2)), false},
		{"a Next that is empty", path, with(entry(2, []int{0, 1})), false},
		{"a Next that is too long", path, with(entry(2, []int{0, 1}, 2, 1, 3)), false},
		{"a long Next", path, with(entry(2, []int{0, 1}, slices.Repeat([]int{1}, 1<<20)...)), false},
		{"an earlier entry in Next", path, append(slices.Clone(ends), entry(2, []int{0, 1}, 1, 0)), false},
		{"one earlier entry in Next", path, []impl.DepthEntry{ends[0], entry(2, []int{0, 1}, 2, 0), ends[1]}, false},
		{"the entry itself in Next", path, with(entry(2, []int{0, 1}, 0, 1)), false},
		{"a Next that is not there", path, with(entry(2, []int{0, 1}, 2, 4)), false},
		{"a Next of -1", path, with(entry(2, []int{0, 1}, -1, 1)), false},
		{"a Next far away", path, with(entry(2, []int{0, 1}, math.MaxInt, 1)), false},
		{"a Next far below", path, with(entry(2, []int{0, 1}, 2, math.MinInt)), false},
		{"a later entry whose Depth is too little", full, with(entry(3, []int{0, 1, 2}, 2, 3, 1)), false},
		{"a later entry whose Depth is the same", full, with(entry(2, []int{0, 1, 2}, 1, 2, 2), entry(2, []int{1, 2}, 4, 3)), false},
		{"a later entry whose Depth is greater", complete(4), []impl.DepthEntry{
			entry(2, nodesOf(4), 1, 5, 5, 5), entry(3, []int{1, 2, 3}, 2, 3, 4), entry(2, []int{2, 3}, 8, 7),
			entry(2, []int{1, 3}, 8, 6), entry(2, []int{1, 2}, 7, 6), entry(1, []int{0}), entry(1, []int{1}), entry(1, []int{2}), entry(1, []int{3})}, false},
		{"a later entry whose Set has the node", path, with(entry(2, []int{0, 1}, 1, 2)), false},
		{"a later entry whose Set has the last node", path, with(entry(2, []int{0, 1}, 2, 2)), false},
		{"a later entry whose Set has the node and others", path, append(with(entry(2, []int{0, 1}, 4, 1)), entry(1, []int{0, 1})), false},
		{"a later entry whose Set is no part of this one", path, with(entry(2, []int{0, 1}, 3, 1)), false},
		{"a later entry whose Set has a node more", path, append(with(entry(2, []int{0, 1}, 4, 1)), entry(1, []int{1, 2})), false},
	} {
		if checkProof(t, c.name, c.g, treedepthsBy(c.g).whole(), c.proof) != c.want {
			t.Error("by hand:", c.name)
		}
	}
}

func TestFindDepthProofByHand(t *testing.T) {
	for _, c := range []struct {
		name string
		g    impl.Graph
		want []impl.DepthEntry
	}{
		{"one node", graph(1), []impl.DepthEntry{entry(1, []int{0})}},
		{"eight nodes apart", graph(8), []impl.DepthEntry{entry(1, []int{0})}},
		{"two neighbors", inRow(2), []impl.DepthEntry{entry(2, []int{0, 1}, 1, 2), entry(1, []int{1}), entry(1, []int{0})}},
		{"three in a row", inRow(3), []impl.DepthEntry{
			entry(2, []int{0, 1, 2}, 1, 2, 3), entry(1, []int{1, 2}), entry(1, []int{0}), entry(1, []int{0, 1}),
		}},
		{"four in a row", inRow(4), []impl.DepthEntry{
			entry(3, []int{0, 1, 2, 3}, 1, 2, 3, 4), entry(2, []int{1, 2, 3}, 5, 6, 7), entry(2, []int{2, 3}, 8, 9),
			entry(2, []int{0, 1}, 6, 10), entry(2, []int{0, 1, 2}, 7, 10, 11), entry(1, []int{2, 3}), entry(1, []int{1}),
			entry(1, []int{1, 2}), entry(1, []int{3}), entry(1, []int{2}), entry(1, []int{0}), entry(1, []int{0, 1}),
		}},
		{"a cycle of three", cycle(3, 3), []impl.DepthEntry{
			entry(3, []int{0, 1, 2}, 1, 2, 3), entry(2, []int{1, 2}, 4, 5), entry(2, []int{0, 2}, 4, 6), entry(2, []int{0, 1}, 5, 6),
			entry(1, []int{2}), entry(1, []int{1}), entry(1, []int{0}),
		}},
		{"the first part is not the deepest", graph(3, 1, 2), []impl.DepthEntry{entry(2, []int{1, 2}, 1, 2), entry(1, []int{2}), entry(1, []int{1})}},
		{"two parts of the same depth", graph(4, 0, 2, 1, 3), []impl.DepthEntry{entry(2, []int{0, 2}, 1, 2), entry(1, []int{2}), entry(1, []int{0})}},
		{"a star", graph(4, 0, 3, 1, 3, 2, 3), []impl.DepthEntry{
			entry(2, []int{0, 1, 2, 3}, 1, 2, 3, 4), entry(1, []int{1, 2, 3}), entry(1, []int{0, 2, 3}), entry(1, []int{0, 1, 3}), entry(1, []int{0}),
		}},
	} {
		proof, ok := impl.FindDepthProof(c.g)
		if !ok || !sameProof(proof, c.want) {
			t.Errorf("%s: got %v, %v, want %v", c.name, proof, ok, c.want)
		}
	}
	// Of five in a row without the second one, the first part, of one node, is not deep enough.
	proof, ok := impl.FindDepthProof(inRow(5))
	if !ok || len(proof) < 3 || !slices.Equal(proof[2].Set, []int{2, 3, 4}) || proof[2].Depth != 2 {
		t.Error("five in a row", proof, ok)
	}
	checkFails(t, "FindDepthProof of no nodes", impl.FindDepthProof, graph(0))
}

func TestFindDepthProofWithManyEntries(t *testing.T) {
	// No Graph has from 198 to 201 entries, so these are nearest to MaxEntries.
	near := graph(8, 0, 1, 0, 2, 0, 3, 0, 6, 0, 7, 1, 2, 1, 3, 1, 6, 1, 7, 2, 4, 2, 5, 2, 6, 2, 7, 3, 6, 3, 7, 4, 5, 6, 7)
	over := graph(8, 0, 3, 0, 4, 0, 5, 1, 2, 1, 6, 1, 7, 2, 3, 2, 5, 2, 6, 2, 7, 3, 4, 3, 5, 3, 6, 4, 5, 5, 6, 6, 7)
	for _, c := range []struct {
		g       impl.Graph
		entries int
	}{{complete(7), 127}, {near, 197}, {over, 202}, {complete(8), 255}} {
		want := treedepthsBy(c.g).findProofBy()
		if len(want) != c.entries {
			t.Error("entries by hand", c.g, len(want), c.entries)
		}
		checkFoundProof(t, c.g)
	}
}

// checkFoundProof compares the proof that is found with that of the test, and returns whether there
// is one.
func checkFoundProof(t *testing.T, g impl.Graph) bool {
	t.Helper()
	found := treedepthsBy(g)
	want := found.findProofBy()
	if len(want) > 200 {
		checkFails(t, "FindDepthProof of "+textOf(g), impl.FindDepthProof, g)
		return false
	}
	proof, ok := impl.FindDepthProof(g)
	if !ok || !sameProof(proof, want) {
		t.Errorf("proof for %v: got %v, %v, want %v", g, proof, ok, want)
	}
	if !checkProof(t, "the proof found", g, found.whole(), proof) {
		t.Error("no proof", g, proof)
	}
	return true
}

func TestFindDepthProofEntryByEntry(t *testing.T) {
	t.Parallel()
	told := map[bool]int{}
	graphs := append(sampleGraphs()[1:], eachOf(allGraphs(6), 41)...)
	for _, g := range append(graphs, treeGraphs()...) {
		told[checkFoundProof(t, g)]++
	}
	checkBoth(t, told, 20)
}

func TestDepthProofsOfAllFewEntries(t *testing.T) {
	t.Parallel()
	var some []impl.DepthEntry
	for depth := range 4 {
		for _, set := range [][]int{{}, {0}, {1}, {0, 1}, {1, 0}} {
			for _, next := range [][]int{{}, {1}, {2}, {1, 2}, {2, 1}} {
				some = append(some, entry(depth, set, next...))
			}
		}
	}
	told := map[bool]int{}
	for _, g := range allGraphs(2) {
		depth := treedepthsBy(g).whole()
		for length := range 3 {
			for _, proof := range chosenFrom(length, some) {
				told[checkProof(t, "few entries", g, depth, proof)]++
			}
		}
		// Of three entries, those that end with two of a Depth of 1.
		for _, behind := range chosenFrom(2, some[25:50]) {
			for _, first := range some {
				told[checkProof(t, "three entries", g, depth, append([]impl.DepthEntry{first}, behind...))]++
			}
		}
	}
	checkBoth(t, told, 50)
}

// copyOf returns entries with memory of their own.
func copyOf(proof []impl.DepthEntry) []impl.DepthEntry {
	var other []impl.DepthEntry
	for _, e := range proof {
		other = append(other, entry(e.Depth, slices.Clone(e.Set), slices.Clone(e.Next)...))
	}
	return other
}

// changedEntries returns what differs from an entry in one thing.
func changedEntries(size int, entries int, e impl.DepthEntry) []impl.DepthEntry {
	var all []impl.DepthEntry
	for _, depth := range []int{e.Depth - 1, e.Depth + 1, 0, -1, math.MaxInt, math.MinInt} {
		all = append(all, entry(depth, e.Set, e.Next...))
	}
	sets := [][]int{nil, append(slices.Clone(e.Set), size), append([]int{-1}, e.Set...), append(slices.Clone(e.Set), e.Set...), slices.Sorted(slices.Values(e.Next))}
	for x := range size {
		other := without(e.Set, x)
		if len(other) == len(e.Set) {
			other = slices.Sorted(slices.Values(append(other, x)))
		}
		sets = append(sets, other)
	}
	for _, set := range sets {
		all = append(all, entry(e.Depth, set, e.Next...))
	}
	lists := [][]int{nil, append(slices.Clone(e.Next), entries-1)}
	for i, next := range e.Next {
		lists = append(lists, slices.Delete(slices.Clone(e.Next), i, i+1))
		for _, other := range []int{-1, 0, next - 1, next + 1, entries - 1, entries, math.MaxInt, math.MinInt} {
			list := slices.Clone(e.Next)
			list[i] = other
			lists = append(lists, list)
		}
	}
	for _, next := range lists {
		all = append(all, entry(e.Depth, e.Set, next...))
	}
	return all
}

func TestDepthProofsWithOneThingChanged(t *testing.T) {
	t.Parallel()
	told := map[bool]int{}
	graphs := append(smallGraphs(3)[1:], eachOf(allGraphs(4), 5)...)
	graphs = append(graphs, eachOf(allGraphs(5), 101)...)
	for _, g := range append(graphs, eachOf(treeGraphs(), 40)...) {
		found := treedepthsBy(g)
		proof, depth := found.findProofBy(), found.whole()
		told[checkProof(t, "one entry more", g, depth, append(copyOf(proof), proof[0]))]++
		told[checkProof(t, "no first entry", g, depth, proof[1:])]++
		told[checkProof(t, "no last entry", g, depth, proof[:len(proof)-1])]++
		for i, e := range proof {
			for _, other := range changedEntries(g.Size, len(proof), e) {
				changed := copyOf(proof)
				changed[i] = other
				told[checkProof(t, "a changed entry", g, depth, changed)]++
			}
			for j := range i {
				changed := copyOf(proof)
				changed[i], changed[j] = changed[j], changed[i]
				told[checkProof(t, "entries in another order", g, depth, changed)]++
			}
		}
	}
	checkBoth(t, told, 1000)
}

// checkPromise7 checks the guarantee of the chapter for a Graph with a treedepth.
func checkPromise7(t *testing.T, g impl.Graph, depth int) {
	t.Helper()
	name := textOf(g)
	got, ok := impl.TreedepthOf(g)
	checkNumber(t, "treedepth of "+name, got, ok, depth)
	ranks, ok := impl.RankingOf(g)
	checkNumber(t, "greatest number of "+name, slices.Max(append(ranks, 0)), ok, depth)
	is, ok := impl.IsRanking(g, ranks)
	checkTold(t, "ranking of "+name, is, ok, true)
	parents, ok := impl.BestForest(g)
	checkForest(t, "best forest of "+name, g, parents)
	got, deep := impl.ForestDepth(g, parents)
	checkNumber(t, "depth of the best forest of "+name, got, ok && deep, depth)
	if proof, ok := impl.FindDepthProof(g); ok {
		checkNumber(t, "depth of the proof of "+name, proof[0].Depth, ok, depth)
		is, ok = impl.IsDepthProof(g, proof)
		checkTold(t, "proof of "+name, is, ok, true)
	} else if g.Size > 0 && g.Size < 8 {
		t.Error("no proof", g)
	}
	for k := range impl.MaxSize + 1 {
		wins, ok := impl.StayersWin(g, k)
		checkTold(t, "stayers on "+name, wins, ok, k >= depth)
	}
	longest, ok := impl.LongestPath(g)
	if !ok || len(longest) < depth || len(longest) >= 1<<depth {
		t.Error("longest path and treedepth", g, longest, depth)
	}
}

func TestPromise7OfSmallGraphs(t *testing.T) {
	t.Parallel()
	for size := range 7 {
		depths := depthsByForests(size)
		for bits, g := range allGraphs(size) {
			checkPromise7(t, g, depths[bits])
		}
	}
}

func TestPromise7OfGreatGraphs(t *testing.T) {
	t.Parallel()
	for _, g := range append(greatGraphs(), treeGraphs()...) {
		checkPromise7(t, g, treedepthsBy(g).whole())
	}
}

// deepCalls are the functions of one Graph.
func deepCalls() map[string]any {
	return map[string]any{
		"LeastBandwidth": impl.LeastBandwidth, "BandwidthBound": impl.BandwidthBound, "LeastCutwidth": impl.LeastCutwidth,
		"TreedepthOf": impl.TreedepthOf, "BestForest": impl.BestForest, "RankingOf": impl.RankingOf,
		"LongestPath": impl.LongestPath, "FindDepthProof": impl.FindDepthProof,
	}
}

// listedCalls are the functions of one Graph and a list of numbers.
func listedCalls() map[string]any {
	calls := orderedCalls()
	calls["IsForest"], calls["ForestDepth"], calls["IsRanking"] = impl.IsForest, impl.ForestDepth, impl.IsRanking
	return calls
}

func TestLayoutsOfGraphsThatAreNotValid(t *testing.T) {
	for name, g := range brokenGraphs() {
		for call, function := range deepCalls() {
			checkFails(t, call+" of "+name, function, g)
		}
		size := min(max(g.Size, 0), 9)
		for call, function := range listedCalls() {
			for _, list := range [][]int{nil, {0}, {-1}, nodesOf(size), slices.Repeat([]int{-1}, size), slices.Repeat([]int{1}, size)} {
				checkFails(t, call+" of "+name, function, g, list)
			}
		}
		for _, proof := range [][]impl.DepthEntry{nil, {entry(1, []int{0})}, {entry(1, nodesOf(size))}, {entry(1, nil)}} {
			checkFails(t, "IsDepthProof of "+name, impl.IsDepthProof, g, proof)
		}
		for k := range impl.MaxSize + 2 {
			checkFails(t, "StayersWin of "+name, impl.StayersWin, g, k-1)
		}
	}
}

// checkLayoutCalls makes all calls of a Graph with some lists.
func checkLayoutCalls(t *testing.T, g impl.Graph) {
	t.Helper()
	for name, function := range deepCalls() {
		checkCall(t, name, function, g)
	}
	parents, _ := impl.BestForest(g)
	ranks, _ := impl.RankingOf(g)
	for _, list := range [][]int{parents, ranks, nil, {-1}, {0}, {1, 0}, {-1, 0, 1}, nodesOf(min(max(g.Size, 0), 9)), {0, 0, 3}, {7}} {
		// The room behind the list is what an append to it would write to.
		room := append(slices.Clone(list), -7, -8)
		for name, function := range listedCalls() {
			checkCall(t, name, function, g, room[:len(list)])
		}
		if room[len(list)] != -7 || room[len(list)+1] != -8 {
			t.Fatal("written behind a list", g, list)
		}
	}
	found, _ := impl.FindDepthProof(g)
	for _, proof := range [][]impl.DepthEntry{found, nil, {entry(1, []int{0})}, {entry(1, nil)}, {entry(2, []int{0, 1}, 2, 1), entry(1, []int{0}), entry(1, []int{1})}} {
		room := append(slices.Clone(proof), entry(-7, nil))
		for i, e := range proof {
			room[i].Set = append(slices.Clone(e.Set), -7)[:len(e.Set)]
			room[i].Next = append(slices.Clone(e.Next), -7)[:len(e.Next)]
		}
		checkCall(t, "IsDepthProof", impl.IsDepthProof, g, room[:len(proof)])
		for _, e := range room[:len(proof)] {
			if e.Set[:len(e.Set)+1][len(e.Set)] != -7 || e.Next[:len(e.Next)+1][len(e.Next)] != -7 {
				t.Fatal("written behind an entry", g, proof)
			}
		}
		if room[len(proof)].Depth != -7 {
			t.Fatal("written behind the entries", g, proof)
		}
	}
	for _, k := range []int{-1, 0, 1, 2, 8, 9} {
		checkCall(t, "StayersWin", impl.StayersWin, g, k)
	}
}

func TestLayoutsLeaveTheirArgumentsAlone(t *testing.T) {
	graphs := append(smallGraphs(3), allGraphs(4)[20:30]...)
	graphs = append(append(graphs, greatGraphs()[:6]...), treeGraphs()[:2]...)
	checkWithRoom(t, append(graphs, cycle(6, 6), complete(7)), checkLayoutCalls)
}

// callAllOfLayouts makes all calls of a Graph.
func callAllOfLayouts(g impl.Graph) {
	narrow, _, _ := impl.LeastBandwidth(g)
	thin, _, _ := impl.LeastCutwidth(g)
	parents, _ := impl.BestForest(g)
	ranks, _ := impl.RankingOf(g)
	for _, list := range [][]int{narrow, thin, parents, ranks} {
		impl.BandwidthOf(g, list)
		impl.CutsOf(g, list)
		impl.CutwidthOf(g, list)
		impl.IsForest(g, list)
		impl.ForestDepth(g, list)
		impl.IsRanking(g, list)
	}
	impl.BandwidthBound(g)
	impl.TreedepthOf(g)
	impl.LongestPath(g)
	proof, _ := impl.FindDepthProof(g)
	impl.IsDepthProof(g, proof)
	for k := range impl.MaxSize + 1 {
		impl.StayersWin(g, k)
	}
}

func TestLayoutsReturnInTime(t *testing.T) {
	graphs := append(append(greatGraphs(), treeGraphs()...), halvedGraphs()...)
	checkInTime(t, func() {
		for _, g := range graphs {
			callAllOfLayouts(g)
		}
		for _, g := range []impl.Graph{graph(8), complete(8)} {
			long := nodesOf(1 << 22)
			impl.BandwidthOf(g, long)
			impl.CutsOf(g, long)
			impl.CutwidthOf(g, long)
			impl.IsForest(g, long)
			impl.ForestDepth(g, long)
			impl.IsRanking(g, long)
			impl.IsDepthProof(g, make([]impl.DepthEntry, 1<<20))
			impl.IsDepthProof(g, slices.Repeat([]impl.DepthEntry{entry(1, long)}, 200))
			impl.IsDepthProof(g, slices.Repeat([]impl.DepthEntry{entry(1, []int{0}, long...)}, 200))
			impl.IsDepthProof(g, slices.Repeat([]impl.DepthEntry{entry(2, []int{0}, long...)}, 200))
		}
	})
}
