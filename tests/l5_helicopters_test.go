package tests

import (
	"cmp"
	"math"
	"reflect"
	"slices"
	"strconv"
	"testing"

	"loop.example/g01109/impl"
)

// eliminated eliminates the nodes of a list, one after the other, and returns the filling and the
// width.
func eliminated(g impl.Graph, order []int) (closedTable, int) {
	near := closedIn(g)
	for i, x := range order {
		for _, y := range order[i+1:] {
			for _, z := range order[i+1:] {
				near[y][z] = near[y][z] || near[x][y] && near[x][z]
			}
		}
	}
	width := -1
	for i, x := range order {
		behind := 0
		for _, y := range order[i+1:] {
			if near[x][y] {
				behind++
			}
		}
		width = max(width, behind)
	}
	return near, width
}

// graphOfTable returns the Graph of a table.
func graphOfTable(size int, near closedTable) impl.Graph {
	return graphBy(size, func(x, y int) bool { return near[x][y] })
}

// joinedBy tells whether a list has elements, and any two of them are connected by edges between
// elements.
func joinedBy(edges [][2]int, list []int) bool {
	var met []int
	for changed := len(list) > 0; changed; {
		changed = false
		for _, x := range list {
			near := len(met) == 0 || slices.ContainsFunc(met, func(y int) bool {
				return slices.Contains(edges, [2]int{x, y}) || slices.Contains(edges, [2]int{y, x})
			})
			if near && !slices.Contains(met, x) {
				met, changed = append(met, x), true
			}
		}
	}
	return len(met) > 0 && len(met) == len(list)
}

// isSetBy tells whether a list is strictly ascending and has nodes only.
func isSetBy(size int, list []int) bool {
	return copGame{g: graph(size)}.isSet(list)
}

// isTogetherBy tells whether two nodes are together in one of the bags.
func isTogetherBy(bags [][]int, e [2]int) bool {
	return slices.ContainsFunc(bags, func(bag []int) bool {
		return slices.Contains(bag, e[0]) && slices.Contains(bag, e[1])
	})
}

// isTreeBy tells whether pairs are what the description says of a Tree of so many Bags.
func isTreeBy(bags int, tree [][2]int) bool {
	if bags < 1 || bags > impl.MaxSize || len(tree) != bags-1 {
		return false
	}
	for i, e := range tree {
		if e[0] < 0 || e[0] >= e[1] || e[1] >= bags || i > 0 && slices.Compare(tree[i-1][:], e[:]) >= 0 {
			return false
		}
	}
	return joinedBy(tree, nodesOf(bags))
}

// isDecompositionBy tells by the description whether d is a Decomposition of g.
func isDecompositionBy(g impl.Graph, d impl.Decomposition) bool {
	if !isTreeBy(len(d.Bags), d.Tree) {
		return false
	}
	for _, bag := range d.Bags {
		if !isSetBy(g.Size, bag) {
			return false
		}
	}
	for x := range g.Size {
		holders := slices.DeleteFunc(nodesOf(len(d.Bags)), func(i int) bool { return !slices.Contains(d.Bags[i], x) })
		if !joinedBy(d.Tree, holders) {
			return false
		}
	}
	return !slices.ContainsFunc(g.Edges, func(e [2]int) bool { return !isTogetherBy(d.Bags, e) })
}

// decompositionBy returns the Decomposition that follows from an elimination.
func decompositionBy(g impl.Graph, order []int) impl.Decomposition {
	var d impl.Decomposition
	near, _ := eliminated(g, order)
	for i, x := range order {
		bag, next := []int{x}, 0
		for j := i + 1; j < len(order); j++ {
			if near[x][order[j]] && next == 0 {
				next = j
			}
			if near[x][order[j]] {
				bag = append(bag, order[j])
			}
		}
		if next == 0 {
			next = i + 1
		}
		if i < len(order)-1 {
			d.Tree = append(d.Tree, [2]int{i, next})
		}
		slices.Sort(bag)
		d.Bags = append(d.Bags, bag)
	}
	return d
}

// touchBy tells whether two sets touch.
func touchBy(closed closedTable, a []int, b []int) bool {
	return slices.ContainsFunc(a, func(x int) bool {
		return slices.ContainsFunc(b, func(y int) bool { return closed[x][y] })
	})
}

// isBrambleBy tells by the description whether lists are a bramble.
func isBrambleBy(g impl.Graph, sets [][]int) bool {
	closed := closedIn(g)
	for i, set := range sets {
		if !isSetBy(g.Size, set) || !joinedBy(g.Edges, set) {
			return false
		}
		for _, other := range sets[:i] {
			if !touchBy(closed, set, other) {
				return false
			}
		}
	}
	return len(sets) > 0
}

// coverBy returns the first one of the least covers of sets.
func coverBy(size int, sets [][]int) []int {
	for _, cover := range setsBy(size, size+1) {
		missed := slices.ContainsFunc(sets, func(set []int) bool {
			return !slices.ContainsFunc(set, func(x int) bool { return slices.Contains(cover, x) })
		})
		if !missed {
			return cover
		}
	}
	return nil
}

// setsBy returns all sets of fewer than k of size nodes, by their numbers of nodes and then
// lexicographically.
func setsBy(size int, k int) [][]int {
	sets := slices.DeleteFunc(subsetsOf(size), func(set []int) bool { return len(set) >= k })
	slices.SortFunc(sets, func(a, b []int) int { return cmp.Or(len(a)-len(b), slices.Compare(a, b)) })
	return sets
}

// reachBy returns the bits of all nodes to which ways from a node lead without some nodes, which
// are bits, too.
func reachBy(closed closedTable, from int, blocked int) int {
	met := 1 << from
	for changed := true; changed; {
		changed = false
		for x := range 8 {
			for y := range 8 {
				if met>>x&1 == 1 && closed[x][y] && blocked>>y&1 == 0 && met>>y&1 == 0 {
					met, changed = met|1<<y, true
				}
			}
		}
	}
	return met
}

// partsBy returns the parts of the Graph without a set, in lexicographic order.
func partsBy(g impl.Graph, gone []int) [][]int {
	blocked := 0
	for _, x := range gone {
		blocked |= 1 << x
	}
	var parts [][]int
	for x := range g.Size {
		met := reachBy(closedIn(g), x, blocked)
		part := slices.DeleteFunc(nodesOf(g.Size), func(y int) bool { return met>>y&1 == 0 })
		if !slices.Contains(gone, x) && part[0] == x {
			parts = append(parts, part)
		}
	}
	return parts
}

// isHavenBy tells by the description whether lists are a haven of order k.
func isHavenBy(g impl.Graph, k int, parts [][]int) bool {
	sets, closed := setsBy(g.Size, k), closedIn(g)
	if len(parts) != len(sets) {
		return false
	}
	for i, part := range parts {
		if !slices.ContainsFunc(partsBy(g, sets[i]), func(other []int) bool { return slices.Equal(part, other) }) {
			return false
		}
		for _, other := range parts[:i] {
			if !touchBy(closed, part, other) {
				return false
			}
		}
	}
	return true
}

// firstHavenBy returns the first haven of order k, nil if there is none, by trying the parts for
// one set after the other.
func firstHavenBy(g impl.Graph, k int) [][]int {
	var choices [][][]int
	for _, set := range setsBy(g.Size, k) {
		parts := partsBy(g, set)
		if len(parts) == 0 {
			return nil
		}
		choices = append(choices, parts)
	}
	return goOn(closedIn(g), choices, nil)
}

// goOn returns the first list that begins with some parts, and has one of each of the choices
// behind them, any two of which touch.
func goOn(closed closedTable, choices [][][]int, parts [][]int) [][]int {
	if len(parts) == len(choices) {
		return slices.Clone(parts)
	}
	for _, part := range choices[len(parts)] {
		if slices.ContainsFunc(parts, func(other []int) bool { return !touchBy(closed, part, other) }) {
			continue
		}
		if all := goOn(closed, choices, append(parts, part)); all != nil {
			return all
		}
	}
	return nil
}

// helicopters is the game of k cops with helicopters, with the robber at a node, by its
// description. Sets of cops are told by their bits.
type helicopters struct {
	size   int
	sets   []int
	reach  [][]int // for the cops that stay and a node of the robber
	caught []int   // for the cops, the bits of the nodes where the robber will be caught
}

func helicoptersBy(g impl.Graph, k int) helicopters {
	game := helicopters{size: g.Size, caught: make([]int, 1<<g.Size)}
	for bits, set := range subsetsOf(g.Size) {
		row := make([]int, g.Size)
		for x := range row {
			row[x] = reachBy(closedIn(g), x, bits)
		}
		game.reach = append(game.reach, row)
		if len(set) <= k {
			game.sets = append(game.sets, bits)
			game.caught[bits] = bits
		}
	}
	for changed := true; changed; {
		changed = false
		for _, cops := range game.sets {
			for robber := range g.Size {
				if game.caught[cops]>>robber&1 == 0 && game.catches(cops, robber) {
					game.caught[cops] |= 1 << robber
					changed = true
				}
			}
		}
	}
	return game
}

// catches tells whether some of the cops can fly so that the robber, wherever it goes before they
// land, is caught then or later.
func (game helicopters) catches(cops int, robber int) bool {
	return slices.ContainsFunc(game.sets, func(next int) bool {
		return game.reach[cops&next][robber]&^game.caught[next] == 0
	})
}

// won tells whether the cops have first nodes with which they catch each robber.
func (game helicopters) won() bool {
	return slices.ContainsFunc(game.sets, func(cops int) bool { return game.caught[cops] == 1<<game.size-1 })
}

// isCliqueBy tells whether all nodes of a set are neighbors of each other.
func isCliqueBy(closed closedTable, set []int) bool {
	return !slices.ContainsFunc(set, func(x int) bool {
		return slices.ContainsFunc(set, func(y int) bool { return !closed[x][y] })
	})
}

// allEliminations has what the eliminations of a Graph tell: the least width and the first one
// with it, and the first one that brings up no edges, nil if there is none.
type allEliminations struct {
	width   int
	best    []int
	perfect []int
}

func eliminationsBy(g impl.Graph, orders [][]int) allEliminations {
	all := allEliminations{width: math.MaxInt}
	closed := closedIn(g)
	for _, order := range orders {
		near, width := eliminated(g, order)
		if width < all.width {
			all.width, all.best = width, order
		}
		if near == closed && all.perfect == nil {
			all.perfect = order
		}
	}
	return all
}

// checkEliminations compares what is told of the eliminations of a Graph.
func checkEliminations(t *testing.T, name string, g impl.Graph, want allEliminations) {
	t.Helper()
	width, ok := impl.TreewidthOf(g)
	checkNumber(t, "treewidth of "+name, width, ok, want.width)
	best, ok := impl.BestElimination(g)
	checkList(t, "best elimination of "+name, best, ok, want.best)
	if want.perfect == nil {
		checkFails(t, "PerfectElimination of "+name, impl.PerfectElimination, g)
		return
	}
	perfect, ok := impl.PerfectElimination(g)
	checkList(t, "perfect elimination of "+name, perfect, ok, want.perfect)
}

func TestFillingsByHand(t *testing.T) {
	for _, c := range []struct {
		name  string
		g     impl.Graph
		order []int
		want  impl.Graph
		width int
	}{
		{"no nodes", graph(0), nil, graph(0), -1},
		{"one node", graph(1), []int{0}, graph(1), 0},
		{"two nodes apart", graph(2), []int{1, 0}, graph(2), 0},
		{"eight nodes apart", graph(8), []int{7, 0, 6, 1, 5, 2, 4, 3}, graph(8), 0},
		{"two neighbors", inRow(2), []int{1, 0}, inRow(2), 1},
		{"a row from its end", inRow(3), []int{0, 1, 2}, inRow(3), 1},
		{"a row from its middle", inRow(3), []int{1, 0, 2}, cycle(3, 3), 2},
		{"a cycle", cycle(4, 4), []int{0, 1, 2, 3}, graph(4, 0, 1, 0, 3, 1, 2, 1, 3, 2, 3), 2},
		{"a cycle from another node", cycle(4, 4), []int{1, 3, 0, 2}, graph(4, 0, 1, 0, 2, 0, 3, 1, 2, 2, 3), 2},
		{"a cycle of five", cycle(5, 5), []int{0, 1, 2, 3, 4}, graph(5, 0, 1, 0, 4, 1, 2, 1, 4, 2, 3, 2, 4, 3, 4), 2},
		{"a cycle of five, otherwise", cycle(5, 5), []int{0, 2, 1, 3, 4}, graph(5, 0, 1, 0, 4, 1, 2, 1, 3, 1, 4, 2, 3, 3, 4), 2},
		{"a star from its leaves", graph(4, 0, 1, 0, 2, 0, 3), []int{1, 2, 3, 0}, graph(4, 0, 1, 0, 2, 0, 3), 1},
		{"a star from its middle", graph(4, 0, 1, 0, 2, 0, 3), []int{0, 1, 2, 3}, complete(4), 3},
		{"a star, the middle third", graph(4, 0, 1, 0, 2, 0, 3), []int{1, 2, 0, 3}, graph(4, 0, 1, 0, 2, 0, 3), 1},
		{"edges that bring up others", inRow(4), []int{1, 2, 0, 3}, graph(4, 0, 1, 0, 2, 0, 3, 1, 2, 2, 3), 2},
		{"two parts", graph(5, 0, 1, 0, 2, 3, 4), []int{0, 3, 1, 2, 4}, graph(5, 0, 1, 0, 2, 1, 2, 3, 4), 2},
		{"a complete Graph", complete(8), []int{3, 7, 1, 0, 2, 6, 4, 5}, complete(8), 7},
	} {
		filling, ok := impl.FillingOf(c.g, c.order)
		checkGraph(t, c.name, filling, ok, c.want)
		width, ok := impl.EliminationWidth(c.g, c.order)
		checkNumber(t, c.name, width, ok, c.width)
	}
}

// checkOrder compares what is told of one elimination.
func checkOrder(t *testing.T, g impl.Graph, order []int) {
	t.Helper()
	near, least := eliminated(g, order)
	filling, ok := impl.FillingOf(g, order)
	checkGraph(t, "filling of "+textOf(g), filling, ok, graphOfTable(g.Size, near))
	width, ok := impl.EliminationWidth(g, order)
	checkNumber(t, "width of "+textOf(g), width, ok, least)
	if g.Size == 0 {
		checkFails(t, "DecompositionOf", impl.DecompositionOf, g, order)
		return
	}
	want := decompositionBy(g, order)
	d, ok := impl.DecompositionOf(g, order)
	if !ok || !sameLists(d.Bags, want.Bags) || !slices.Equal(d.Tree, want.Tree) || !isDecompositionBy(g, d) {
		t.Errorf("decomposition of %v, %v: got %v, want %v", g, order, d, want)
	}
	is, ok := impl.IsDecomposition(g, d)
	checkTold(t, "decomposition of "+textOf(g), is, ok, true)
	width, ok = impl.DecompositionWidth(g, d)
	checkNumber(t, "width of the decomposition of "+textOf(g), width, ok, least)
}

func TestAllEliminationsOfSmallGraphs(t *testing.T) {
	t.Parallel()
	for _, g := range append(smallGraphs(4), eachOf(allGraphs(5), 13)...) {
		for _, order := range ordersOf(g.Size) {
			checkOrder(t, g, order)
		}
	}
}

// ordersBySize returns some of the lists of all nodes, for each Size.
func ordersBySize(most int) [][][]int {
	var all [][][]int
	for size := range impl.MaxSize + 1 {
		orders := ordersOf(size)
		all = append(all, eachOf(orders, max(len(orders)/most, 1)))
	}
	return all
}

func TestEliminationsOfGreatGraphs(t *testing.T) {
	t.Parallel()
	orders := ordersBySize(30)
	for _, g := range append(greatGraphs(), treeGraphs()...) {
		for _, order := range orders[g.Size] {
			checkOrder(t, g, order)
		}
	}
}

func TestBestAndPerfectOfAllEliminations(t *testing.T) {
	t.Parallel()
	for size := range 6 {
		orders := ordersOf(size)
		for _, g := range allGraphs(size) {
			checkEliminations(t, textOf(g), g, eliminationsBy(g, orders))
		}
	}
	orders := ordersOf(6)
	for _, g := range eachOf(allGraphs(6), 97) {
		checkEliminations(t, textOf(g), g, eliminationsBy(g, orders))
	}
}

func TestBestAndPerfectOfGraphsOfMaxSize(t *testing.T) {
	t.Parallel()
	orders := ordersOf(impl.MaxSize)
	graphs := append(greatGraphs()[:13], eachOf(greatGraphs(), 9)...)
	for _, g := range append(graphs, eachOf(treeGraphs(), 7)...) {
		if g.Size == impl.MaxSize {
			checkEliminations(t, textOf(g), g, eliminationsBy(g, orders))
		}
	}
}

func TestWidthsByHand(t *testing.T) {
	sides := graphBy(8, func(x, y int) bool { return x < 4 && y >= 4 })
	pairs := graphBy(6, func(x, y int) bool { return x/2 != y/2 })
	for _, c := range []struct {
		name       string
		g          impl.Graph
		width      int
		best       []int
		perfect    []int
		clique     []int
		degeneracy int
	}{
		{"no nodes", graph(0), -1, []int{}, []int{}, []int{}, -1},
		{"one node", graph(1), 0, []int{0}, []int{0}, []int{0}, 0},
		{"two nodes apart", graph(2), 0, []int{0, 1}, []int{0, 1}, []int{0}, 0},
		{"eight nodes apart", graph(8), 0, nodesOf(8), nodesOf(8), []int{0}, 0},
		{"two neighbors", inRow(2), 1, []int{0, 1}, []int{0, 1}, []int{0, 1}, 1},
		{"the last two of four nodes", graph(4, 2, 3), 1, []int{0, 1, 2, 3}, []int{0, 1, 2, 3}, []int{2, 3}, 1},
		{"eight in a row", inRow(8), 1, nodesOf(8), nodesOf(8), []int{0, 1}, 1},
		{"a row, its middle first", graph(3, 0, 1, 0, 2), 1, []int{1, 0, 2}, []int{1, 0, 2}, []int{0, 1}, 1},
		{"a star", graph(6, 0, 1, 0, 2, 0, 3, 0, 4, 0, 5), 1, []int{1, 2, 3, 4, 0, 5}, []int{1, 2, 3, 4, 0, 5}, []int{0, 1}, 1},
		{"a cycle of three", cycle(3, 3), 2, []int{0, 1, 2}, []int{0, 1, 2}, []int{0, 1, 2}, 2},
		{"a cycle of four", cycle(4, 4), 2, []int{0, 1, 2, 3}, nil, []int{0, 1}, 2},
		{"a cycle of eight", cycle(8, 8), 2, nodesOf(8), nil, []int{0, 1}, 2},
		{"a cycle of four and a node", cycle(5, 4), 2, []int{0, 1, 2, 3, 4}, nil, []int{0, 1}, 2},
		{"two cycles of three with an edge", graph(4, 0, 1, 0, 2, 1, 2, 1, 3, 2, 3), 2, []int{0, 1, 2, 3}, []int{0, 1, 2, 3}, []int{0, 1, 2}, 2},
		{"two cycles of three apart", graph(6, 0, 2, 0, 4, 1, 3, 1, 5, 2, 4, 3, 5), 2, nodesOf(6), nodesOf(6), []int{0, 2, 4}, 2},
		{"a cycle of three behind a row", graph(5, 0, 1, 0, 2, 2, 3, 2, 4, 3, 4), 2, []int{0, 1, 2, 3, 4}, []int{1, 0, 2, 3, 4}, []int{2, 3, 4}, 2},
		{"four nodes with all edges, and a row", graph(6, 0, 1, 0, 2, 2, 3, 2, 4, 2, 5, 3, 4, 3, 5, 4, 5), 3, []int{0, 1, 2, 3, 4, 5}, []int{1, 0, 2, 3, 4, 5}, []int{2, 3, 4, 5}, 3},
		{"a complete Graph", complete(8), 7, nodesOf(8), nodesOf(8), nodesOf(8), 7},
		{"two sides", sides, 4, nodesOf(8), nil, []int{0, 4}, 4},
		{"three pairs", pairs, 4, nodesOf(6), nil, []int{0, 2, 4}, 4},
	} {
		checkEliminations(t, c.name, c.g, allEliminations{c.width, c.best, c.perfect})
		clique, ok := impl.CliqueOf(c.g)
		checkList(t, "clique of "+c.name, clique, ok, c.clique)
		degeneracy, ok := impl.DegeneracyOf(c.g)
		checkNumber(t, "degeneracy of "+c.name, degeneracy, ok, c.degeneracy)
	}
}

func TestTreewidthsOfGreatGraphs(t *testing.T) {
	for _, c := range []struct {
		name       string
		g          impl.Graph
		width      int
		degeneracy int
	}{
		{"a cube", cube(), 3, 3},
		{"a cycle with edges between opposite nodes", ladder(), 4, 3},
		{"all edges but one", graphOfBits(8, 1<<28-2), 6, 6},
		{"all edges but those of a row", graphBy(8, func(x, y int) bool { return y != x+1 }), 5, 5},
	} {
		width, ok := impl.TreewidthOf(c.g)
		checkNumber(t, "treewidth of "+c.name, width, ok, c.width)
		degeneracy, ok := impl.DegeneracyOf(c.g)
		checkNumber(t, "degeneracy of "+c.name, degeneracy, ok, c.degeneracy)
	}
}

func TestCliquesAndDegeneracyOfAllSets(t *testing.T) {
	t.Parallel()
	for _, g := range append(sampleGraphs(), treeGraphs()...) {
		closed := closedIn(g)
		clique, degeneracy := []int{}, -1
		for _, set := range setsBy(g.Size, g.Size+1)[1:] {
			if len(set) > len(clique) && isCliqueBy(closed, set) {
				clique = set
			}
			fewest := g.Size
			for _, x := range set {
				fewest = min(fewest, len(slices.DeleteFunc(slices.Clone(set), func(y int) bool { return !closed[x][y] }))-1)
			}
			degeneracy = max(degeneracy, fewest)
		}
		got, ok := impl.CliqueOf(g)
		checkList(t, "clique of "+textOf(g), got, ok, clique)
		number, ok := impl.DegeneracyOf(g)
		checkNumber(t, "degeneracy of "+textOf(g), number, ok, degeneracy)
		if width, ok := impl.TreewidthOf(g); !ok || width < degeneracy || width < len(clique)-1 {
			t.Error("a treewidth that is too small", g, width, degeneracy, clique)
		}
	}
}

// eliminationCalls are the functions of one Graph and an elimination.
func eliminationCalls() map[string]any {
	return map[string]any{
		"FillingOf": impl.FillingOf, "EliminationWidth": impl.EliminationWidth, "DecompositionOf": impl.DecompositionOf,
	}
}

// noOrders returns lists that do not have each of size nodes once.
func noOrders(size int) [][]int {
	lists := [][]int{append(nodesOf(size), size), append(nodesOf(size), 0), append([]int{-1}, nodesOf(size)...), make([]int, 9), make([]int, 1<<20)}
	if size > 0 {
		lists = append(lists, nil, nodesOf(size)[1:], nodesOf(size-1))
	}
	for x := range size {
		for _, other := range append(farNumbers(size), nodesOf(size)...) {
			if other != x {
				list := nodesOf(size)
				list[x] = other
				lists = append(lists, list)
			}
		}
	}
	// Of few nodes, all short lists.
	for length := range 5 {
		if size > 3 {
			break
		}
		lists = append(lists, slices.DeleteFunc(listsOver(length, -1, size), func(list []int) bool {
			return slices.Equal(slices.Sorted(slices.Values(list)), nodesOf(size))
		})...)
	}
	return lists
}

func TestListsThatAreNoEliminationFail(t *testing.T) {
	for _, g := range fewGraphs() {
		for _, list := range noOrders(g.Size) {
			for name, function := range eliminationCalls() {
				checkFails(t, name, function, g, list)
			}
		}
	}
	checkFails(t, "DecompositionOf no nodes", impl.DecompositionOf, graph(0), []int{})
}

func TestDecompositionsOfEliminationsByHand(t *testing.T) {
	for _, c := range []struct {
		name  string
		g     impl.Graph
		order []int
		bags  [][]int
		tree  [][2]int
	}{
		{"one node", graph(1), []int{0}, [][]int{{0}}, nil},
		{"two nodes apart", graph(2), []int{1, 0}, [][]int{{1}, {0}}, [][2]int{{0, 1}}},
		{"nodes apart", graph(4), []int{2, 0, 3, 1}, [][]int{{2}, {0}, {3}, {1}}, [][2]int{{0, 1}, {1, 2}, {2, 3}}},
		{"two neighbors", inRow(2), []int{1, 0}, [][]int{{0, 1}, {0}}, [][2]int{{0, 1}}},
		{"a row", inRow(3), []int{0, 1, 2}, [][]int{{0, 1}, {1, 2}, {2}}, [][2]int{{0, 1}, {1, 2}}},
		{"a row from both ends", inRow(3), []int{0, 2, 1}, [][]int{{0, 1}, {1, 2}, {1}}, [][2]int{{0, 2}, {1, 2}}},
		{"a row from its middle", inRow(3), []int{1, 2, 0}, [][]int{{0, 1, 2}, {0, 2}, {0}}, [][2]int{{0, 1}, {1, 2}}},
		{"a star", graph(4, 0, 1, 0, 2, 0, 3), []int{3, 2, 1, 0}, [][]int{{0, 3}, {0, 2}, {0, 1}, {0}}, [][2]int{{0, 3}, {1, 3}, {2, 3}}},
		{"a cycle", cycle(4, 4), []int{0, 2, 3, 1}, [][]int{{0, 1, 3}, {1, 2, 3}, {1, 3}, {1}}, [][2]int{{0, 2}, {1, 2}, {2, 3}}},
		{"two parts", graph(4, 0, 3, 1, 2), []int{0, 1, 3, 2}, [][]int{{0, 3}, {1, 2}, {3}, {2}}, [][2]int{{0, 2}, {1, 3}, {2, 3}}},
	} {
		d, ok := impl.DecompositionOf(c.g, c.order)
		if !ok || !sameLists(d.Bags, c.bags) || !slices.Equal(d.Tree, c.tree) {
			t.Errorf("%s: got %v, %v", c.name, d, ok)
		}
	}
}

// checkDecomposition compares what is told of a Decomposition, and returns whether it is one.
func checkDecomposition(t *testing.T, name string, g impl.Graph, d impl.Decomposition) bool {
	t.Helper()
	want := isDecompositionBy(g, d)
	got, ok := impl.IsDecomposition(g, d)
	if !ok || got != want {
		t.Errorf("%s: decomposition %.300v of %v: got %v, %v, want %v", name, d, g, got, ok, want)
	}
	if !want {
		checkFails(t, "DecompositionWidth of "+name, impl.DecompositionWidth, g, d)
		return false
	}
	most := 0
	for _, bag := range d.Bags {
		most = max(most, len(bag))
	}
	width, ok := impl.DecompositionWidth(g, d)
	checkNumber(t, "width of "+name, width, ok, most-1)
	return true
}

// pathOf returns the edges between each Bag and the next one.
func pathOf(bags int) [][2]int {
	var tree [][2]int
	for i := 1; i < bags; i++ {
		tree = append(tree, [2]int{i - 1, i})
	}
	return tree
}

func TestDecompositionsByHand(t *testing.T) {
	path, ring := inRow(3), cycle(4, 4)
	one := func(list ...int) [][]int { return slices.Collect(slices.Chunk(list, 1)) }
	for _, c := range []struct {
		name string
		g    impl.Graph
		bags [][]int
		tree [][2]int
		want bool
	}{
		{"two Bags", path, [][]int{{0, 1}, {1, 2}}, pathOf(2), true},
		{"one Bag", path, [][]int{{0, 1, 2}}, nil, true},
		{"no Bags", path, nil, nil, false},
		{"no Bags and an edge", path, nil, pathOf(2), false},
		{"no nodes and no Bags", graph(0), nil, nil, false},
		{"no nodes and a Bag", graph(0), [][]int{{}}, nil, true},
		{"no nodes and many Bags", graph(0), make([][]int, 8), pathOf(8), true},
		{"no nodes and too many Bags", graph(0), make([][]int, 9), pathOf(9), false},
		{"no nodes and a Bag with one", graph(0), [][]int{{0}}, nil, false},
		{"one node", graph(1), [][]int{{0}}, nil, true},
		{"one node in no Bag", graph(1), [][]int{{}}, nil, false},
		{"MaxSize Bags", graph(8), one(0, 1, 2, 3, 4, 5, 6, 7), pathOf(8), true},
		{"a Bag more", graph(8), append(one(0, 1, 2, 3, 4, 5, 6, 7), nil), pathOf(9), false},
		{"a Bag more, an edge fewer", graph(8), append(one(0, 1, 2, 3, 4, 5, 6, 7), nil), pathOf(8), false},
		{"a Bag of all nodes", complete(8), [][]int{nodesOf(8)}, nil, true},
		{"MaxSize Bags of all nodes", complete(8), slices.Repeat([][]int{nodesOf(8)}, 8), pathOf(8), true},
		{"a ninth node", complete(8), [][]int{nodesOf(9)}, nil, false},
		{"a Bag without nodes at the end", path, [][]int{{0, 1}, {1, 2}, {}}, pathOf(3), true},
		{"a Bag without nodes between others", graph(2), [][]int{{0}, {}, {1}}, pathOf(3), true},
		{"a Bag without nodes between those of a node", path, [][]int{{0, 1}, {}, {1, 2}}, pathOf(3), false},
		{"a Bag without nodes beside those of a node", path, [][]int{{0, 1}, {}, {1, 2}}, [][2]int{{0, 1}, {0, 2}}, true},
		{"the same Bag twice", path, [][]int{{0, 1}, {0, 1}, {1, 2}}, pathOf(3), true},
		{"the same Bag twice, apart", path, [][]int{{0, 1}, {1, 2}, {0, 1}}, pathOf(3), false},
		{"not ascending", path, [][]int{{1, 0}, {1, 2}}, pathOf(2), false},
		{"the last Bag not ascending", path, [][]int{{0, 1}, {2, 1}}, pathOf(2), false},
		{"a node twice", path, [][]int{{0, 1, 1}, {1, 2}}, pathOf(2), false},
		{"a node that is not there", path, [][]int{{0, 1}, {1, 2, 3}}, pathOf(2), false},
		{"a node less than 0", path, [][]int{{-1, 0, 1}, {1, 2}}, pathOf(2), false},
		{"a node far away", path, [][]int{{0, 1}, {1, 2, math.MaxInt}}, pathOf(2), false},
		{"a node far below", path, [][]int{{math.MinInt, 0, 1}, {1, 2}}, pathOf(2), false},
		{"a long Bag", path, [][]int{{0, 1, 2}, make([]int, 1<<20)}, pathOf(2), false},
		{"a node in no Bag", graph(3), [][]int{{0}, {1}}, pathOf(2), false},
		{"the first node in no Bag", graph(3), [][]int{{1}, {2}}, pathOf(2), false},
		{"an edge in no Bag", path, [][]int{{0, 1}, {2}}, pathOf(2), false},
		{"the first edge in no Bag", path, [][]int{{0}, {1, 2}}, pathOf(2), false},
		{"an edge of a cycle in no Bag", ring, [][]int{{0, 1}, {1, 2}, {2, 3}}, pathOf(3), false},
		{"all edges of a cycle, a node in Bags apart", ring, [][]int{{0, 1}, {1, 2}, {2, 3}, {0, 3}}, pathOf(4), false},
		{"a cycle", ring, [][]int{{0, 1, 3}, {1, 2, 3}}, pathOf(2), true},
		{"a cycle, a node in Bags apart", ring, [][]int{{0, 1, 3}, {0, 1}, {1, 2, 3}}, pathOf(3), false},
		{"a cycle, no node in Bags apart", ring, [][]int{{0, 1, 3}, {0, 1}, {1, 2, 3}}, [][2]int{{0, 1}, {0, 2}}, true},
		{"no Tree", path, [][]int{{0, 1}, {1, 2}}, nil, false},
		{"a Tree with an edge too few", path, [][]int{{0, 1}, {1}, {1, 2}}, [][2]int{{0, 1}}, false},
		{"a Tree with an edge too many", path, [][]int{{0, 1}, {1, 2}}, pathOf(3), false},
		{"one Bag and an edge", path, [][]int{{0, 1, 2}}, [][2]int{{0, 0}}, false},
		{"one Bag and an edge of none", path, [][]int{{0, 1, 2}}, [][2]int{{0, 1}}, false},
		{"a Tree with a cycle of three", path, [][]int{{0, 1}, {1}, {1, 2}}, [][2]int{{0, 1}, {0, 2}, {1, 2}}, false},
		{"a Tree with a cycle and a Bag apart", graph(2), [][]int{{0}, {0}, {0}, {1}}, [][2]int{{0, 1}, {0, 2}, {1, 2}}, false},
		{"a Tree that leaves out a Bag", path, [][]int{{0, 1}, {1, 2}, {}, {}}, [][2]int{{0, 1}, {0, 2}, {1, 2}}, false},
		{"the greater Bag first", path, [][]int{{0, 1}, {1, 2}}, [][2]int{{1, 0}}, false},
		{"a Bag with itself", path, [][]int{{0, 1, 2}, {0, 1, 2}}, [][2]int{{1, 1}}, false},
		{"a Bag that is not there", path, [][]int{{0, 1}, {1, 2}}, [][2]int{{0, 2}}, false},
		{"a Bag less than 0", path, [][]int{{0, 1}, {1, 2}}, [][2]int{{-1, 1}}, false},
		{"a Bag far away", path, [][]int{{0, 1}, {1, 2}}, [][2]int{{0, math.MaxInt}}, false},
		{"a Bag far below", path, [][]int{{0, 1}, {1, 2}}, [][2]int{{math.MinInt, 1}}, false},
		{"edges not ascending", path, [][]int{{0, 1}, {1}, {1, 2}}, [][2]int{{1, 2}, {0, 1}}, false},
		{"second Bags not ascending", path, [][]int{{1}, {0, 1}, {1, 2}}, [][2]int{{0, 2}, {0, 1}}, false},
		{"an edge twice", path, [][]int{{0, 1}, {1, 2}, {1, 2}}, [][2]int{{0, 1}, {0, 1}}, false},
		{"a long Tree", path, [][]int{{0, 1, 2}}, make([][2]int, 1<<20), false},
		{"many Bags", path, make([][]int, 1<<20), make([][2]int, 1<<20-1), false},
	} {
		if checkDecomposition(t, c.name, c.g, impl.Decomposition{Bags: c.bags, Tree: c.tree}) != c.want {
			t.Error("by hand:", c.name)
		}
	}
}

// chosenFrom returns all lists of a length of some elements.
func chosenFrom[T any](length int, some []T) [][]T {
	var all [][]T
	for _, places := range listsOver(length, 0, len(some)-1) {
		list := make([]T, length)
		for i, x := range places {
			list[i] = some[x]
		}
		all = append(all, list)
	}
	return all
}

func TestDecompositionsOfAllBagsAndTrees(t *testing.T) {
	t.Parallel()
	var trees [][][2]int
	ends := [][2]int{{0, 1}, {0, 2}, {1, 2}, {1, 0}, {2, 1}, {1, 1}, {0, 3}, {-1, 0}}
	for length := range 3 {
		trees = append(trees, chosenFrom(length, ends)...)
	}
	lists := append(subsetsOf(2), []int{1, 0}, []int{0, 0}, []int{2}, []int{-1, 0})
	told := map[bool]int{}
	for length := range 4 {
		for _, bags := range chosenFrom(length, lists) {
			for _, tree := range trees {
				for _, g := range smallGraphs(2) {
					told[checkDecomposition(t, "some Bags", g, impl.Decomposition{Bags: bags, Tree: tree})]++
				}
			}
		}
	}
	if told[true] < 100 || told[false] < 10000 {
		t.Error("few of a kind:", told)
	}
}

func TestDecompositionsOfAllSetsAndTrees(t *testing.T) {
	t.Parallel()
	told := map[bool]int{}
	for length := 1; length <= 4; length++ {
		var trees [][][2]int
		for _, places := range subsetsOf(len(pairsOf(length))) {
			var tree [][2]int
			for _, i := range places {
				tree = append(tree, pairsOf(length)[i])
			}
			// Trees of other lengths are there for fewer Bags.
			if length < 4 || len(tree) == 3 {
				trees = append(trees, tree)
			}
		}
		for i, bags := range chosenFrom(length, subsetsOf(3)) {
			for _, g := range allGraphs(3) {
				tree := trees[i%len(trees)]
				told[checkDecomposition(t, "some sets", g, impl.Decomposition{Bags: bags, Tree: tree})]++
			}
		}
	}
	if told[true] < 100 || told[false] < 10000 {
		t.Error("few of a kind:", told)
	}
}

// changedDecompositions returns what differs from a Decomposition in one thing.
func changedDecompositions(size int, d impl.Decomposition) []impl.Decomposition {
	var all []impl.Decomposition
	change := func(change func(d *impl.Decomposition)) {
		other := deepCopy(reflect.ValueOf(d)).Interface().(impl.Decomposition)
		change(&other)
		all = append(all, other)
	}
	for i, bag := range d.Bags {
		for x := range size {
			change(func(d *impl.Decomposition) {
				d.Bags[i] = without(bag, x)
				if len(d.Bags[i]) == len(bag) {
					d.Bags[i] = slices.Sorted(slices.Values(append(d.Bags[i], x)))
				}
			})
		}
		change(func(d *impl.Decomposition) { slices.Reverse(d.Bags[i]) })
		change(func(d *impl.Decomposition) { d.Bags[i] = append(d.Bags[i], size) })
		change(func(d *impl.Decomposition) { d.Bags = slices.Delete(d.Bags, i, i+1) })
	}
	for i, e := range d.Tree {
		for x := range d.Bags {
			change(func(d *impl.Decomposition) { d.Tree[i] = [2]int{e[0], x} })
			change(func(d *impl.Decomposition) { d.Tree[i] = [2]int{x, e[1]} })
		}
		change(func(d *impl.Decomposition) { d.Tree = slices.Delete(d.Tree, i, i+1) })
	}
	change(func(d *impl.Decomposition) { slices.Reverse(d.Bags) })
	change(func(d *impl.Decomposition) { slices.Reverse(d.Tree) })
	return all
}

func TestDecompositionsWithOneThingChanged(t *testing.T) {
	t.Parallel()
	told := map[bool]int{}
	graphs := append(eachOf(allGraphs(4), 5), eachOf(allGraphs(5), 61)...)
	graphs = append(graphs, greatGraphs()[:30]...)
	for _, g := range append(graphs, treeGraphs()[:20]...) {
		order := nodesOf(g.Size)
		for range 3 {
			order = append(order[1:], order[0])
			d := decompositionBy(g, order)
			for _, changed := range changedDecompositions(g.Size, d) {
				told[checkDecomposition(t, "a changed one", g, changed)]++
			}
		}
	}
	if told[true] < 1000 || told[false] < 1000 {
		t.Error("few of a kind:", told)
	}
}

// checkBramble compares what is told of lists of nodes, and returns whether they are a bramble.
func checkBramble(t *testing.T, name string, g impl.Graph, sets [][]int) bool {
	t.Helper()
	want := isBrambleBy(g, sets)
	got, ok := impl.IsBramble(g, sets)
	if !ok || got != want {
		t.Errorf("%s: bramble %.300v of %v: got %v, %v, want %v", name, sets, g, got, ok, want)
	}
	if !want {
		checkFails(t, "BrambleCover of "+name, impl.BrambleCover, g, sets)
		return false
	}
	cover, ok := impl.BrambleCover(g, sets)
	checkList(t, "cover of "+name, cover, ok, coverBy(g.Size, sets))
	return true
}

func TestBramblesByHand(t *testing.T) {
	path, ring, full := inRow(3), cycle(4, 4), complete(8)
	all := slices.Collect(slices.Chunk(nodesOf(8), 1))
	for _, c := range []struct {
		name  string
		g     impl.Graph
		sets  [][]int
		cover []int
	}{
		{"no set", path, nil, nil},
		{"no set of no nodes", graph(0), nil, nil},
		{"a set without nodes of no nodes", graph(0), [][]int{{}}, nil},
		{"one set", path, [][]int{{1}}, []int{1}},
		{"one node", graph(1), [][]int{{0}}, []int{0}},
		{"all nodes", path, [][]int{{0, 1, 2}}, []int{0}},
		{"a set without nodes", path, [][]int{{}}, nil},
		{"a set without nodes among others", path, [][]int{{0}, {}, {1}}, nil},
		{"a set without nodes at the end", path, [][]int{{1}, {1}, {}}, nil},
		{"a set that is not connected", path, [][]int{{0, 2}}, nil},
		{"the last set not connected", path, [][]int{{1}, {0, 2}}, nil},
		{"nodes of two parts", graph(4, 0, 1, 2, 3), [][]int{{0, 1, 2, 3}}, nil},
		{"two neighbors", path, [][]int{{0}, {1}}, []int{0, 1}},
		{"two nodes that do not touch", path, [][]int{{0}, {2}}, nil},
		{"a common node", path, [][]int{{0, 1}, {1, 2}}, []int{1}},
		{"sets of two parts", graph(4, 0, 1, 2, 3), [][]int{{0, 1}, {2, 3}}, nil},
		{"the last two do not touch", inRow(4), [][]int{{0, 1, 2, 3}, {0}, {2}}, nil},
		{"the first and the last do not touch", inRow(4), [][]int{{0}, {1}, {2}}, nil},
		{"edges of a row", inRow(4), [][]int{{0, 1}, {1, 2}, {2, 3}}, []int{0, 2}},
		{"edges of a row and a node", inRow(4), [][]int{{0, 1}, {1, 2}, {2, 3}, {1}}, []int{1, 2}},
		{"edges of a cycle", ring, [][]int{{0, 1}, {1, 2}, {2, 3}, {0, 3}}, []int{0, 2}},
		{"a cycle", ring, [][]int{{0}, {1}, {2, 3}}, []int{0, 1, 2}},
		{"another cover", ring, [][]int{{3}, {2}, {0, 1}}, []int{0, 2, 3}},
		{"two covers", path, [][]int{{0, 1}, {0, 1, 2}}, []int{0}},
		{"the second of two nodes", path, [][]int{{1, 2}, {0, 1}}, []int{1}},
		{"few covers", cycle(5, 5), [][]int{{0, 1}, {2, 3}, {3, 4}, {1, 2}, {0, 4}}, []int{0, 1, 3}},
		{"the same set twice", path, [][]int{{1, 2}, {1, 2}}, []int{1}},
		{"the same set without nodes twice", path, [][]int{{}, {}}, nil},
		{"the same sets often", path, slices.Repeat([][]int{{1, 2}, {0, 1}, {0}}, 1000), []int{0, 1}},
		{"other sets often", path, slices.Repeat([][]int{{1, 2}, {2}, {0}}, 1000), nil},
		{"not ascending", path, [][]int{{1, 0}}, nil},
		{"a node twice", path, [][]int{{0}, {1, 1}}, nil},
		{"a node that is not there", path, [][]int{{1, 2, 3}}, nil},
		{"a node less than 0", path, [][]int{{-1, 0}}, nil},
		{"a node far away", path, [][]int{{0, 1}, {1, math.MaxInt}}, nil},
		{"a node far below", path, [][]int{{math.MinInt, 0}}, nil},
		{"a ninth node", full, [][]int{nodesOf(9)}, nil},
		{"a long list", full, [][]int{{0}, make([]int, 1<<20)}, nil},
		{"each node", full, all, nodesOf(8)},
		{"each node and one without", full, append([][]int{{}}, all...), nil},
		{"each node but one", full, all[1:], nodesOf(8)[1:]},
		{"all sets", full, subsetsOf(8)[1:], nodesOf(8)},
	} {
		if is := checkBramble(t, c.name, c.g, c.sets); is != (c.cover != nil) {
			t.Error("by hand:", c.name, is)
		}
		if c.cover != nil {
			cover, ok := impl.BrambleCover(c.g, c.sets)
			checkList(t, c.name, cover, ok, c.cover)
		}
	}
}

func TestBramblesOfAllLists(t *testing.T) {
	t.Parallel()
	told := map[bool]int{}
	for _, g := range smallGraphs(3) {
		lists := append(subsetsOf(g.Size), []int{1, 0}, []int{0, 0}, []int{g.Size}, []int{-1, 0})
		for length := range 4 {
			for _, sets := range chosenFrom(length, lists) {
				told[checkBramble(t, "some lists", g, sets)]++
			}
		}
	}
	for _, g := range eachOf(allGraphs(4), 9) {
		for _, sets := range chosenFrom(3, subsetsOf(4)) {
			told[checkBramble(t, "some sets", g, sets)]++
		}
	}
	if told[true] < 1000 || told[false] < 1000 {
		t.Error("few of a kind:", told)
	}
}

// connectedSets returns all sets of at least one node that are connected by ways in them.
func connectedSets(g impl.Graph) [][]int {
	return slices.DeleteFunc(subsetsOf(g.Size), func(set []int) bool { return !joinedBy(g.Edges, set) })
}

// eachBramble calls a function for all brambles that begin with some sets, and have some of the
// others behind them.
func eachBramble(closed closedTable, others [][]int, sets [][]int, call func(sets [][]int)) {
	if len(sets) > 0 {
		call(sets)
	}
	for i, set := range others {
		if !slices.ContainsFunc(sets, func(other []int) bool { return !touchBy(closed, set, other) }) {
			eachBramble(closed, others[i+1:], append(sets, set), call)
		}
	}
}

func TestPromise5OrdersOfAllBrambles(t *testing.T) {
	t.Parallel()
	for _, g := range smallGraphs(4) {
		width := eliminationsBy(g, ordersOf(g.Size)).width
		greatest := 0
		eachBramble(closedIn(g), connectedSets(g), nil, func(sets [][]int) {
			is, one := impl.IsBramble(g, sets)
			cover, two := impl.BrambleCover(g, sets)
			if !is || !one || !two || len(cover) > width+1 {
				t.Fatal("a bramble", g, sets, is, cover, width)
			}
			greatest = max(greatest, len(cover))
		})
		if greatest != width+1 {
			t.Error("greatest order", g, greatest, width)
		}
	}
}

// brambleGraphs returns Graphs of all Sizes for which brambles and havens are looked for.
func brambleGraphs() []impl.Graph {
	graphs := append(smallGraphs(5), eachOf(allGraphs(6), 211)...)
	return append(append(graphs, greatGraphs()[:40]...), eachOf(treeGraphs(), 6)...)
}

// checkPromise5 checks the guarantee of the chapter for a Graph, between the functions alone.
func checkPromise5(t *testing.T, g impl.Graph) {
	t.Helper()
	width, ok := impl.TreewidthOf(g)
	if !ok {
		t.Fatal("no treewidth", g)
	}
	for k := range impl.MaxSize + 1 {
		wins, ok := impl.HelicoptersWin(g, k)
		checkTold(t, strconv.Itoa(k)+" helicopters on "+textOf(g), wins, ok, k > width)
		if k == 0 {
			continue
		}
		haven, ok := impl.FindHaven(g, k)
		fewer, _ := impl.HelicoptersWin(g, k-1)
		if ok == fewer {
			t.Error("haven of order", k, g, haven, ok)
		}
		if is, there := impl.IsHaven(g, k, haven); !there || is != ok {
			t.Error("not a haven", g, k, haven, is)
		}
	}
	sets, ok := impl.BrambleOf(g)
	is, _ := impl.IsBramble(g, sets)
	cover, _ := impl.BrambleCover(g, sets)
	if ok != (g.Size > 0) || is != ok || len(cover) != width+1 {
		t.Error("bramble of", g, sets, is, cover, width)
	}
	// What an elimination and a Decomposition tell is not less than the order of a bramble.
	best, _ := impl.BestElimination(g)
	least, ok := impl.EliminationWidth(g, best)
	checkNumber(t, "width of the best elimination of "+textOf(g), least, ok, width)
}

func TestPromise5BramblesAndTreewidth(t *testing.T) {
	t.Parallel()
	for _, g := range append(sampleGraphs(), treeGraphs()...) {
		checkPromise5(t, g)
	}
	for _, g := range eachOf(allGraphs(6), 37) {
		checkPromise5(t, g)
	}
}

func TestHelicoptersByTheGame(t *testing.T) {
	t.Parallel()
	for _, g := range brambleGraphs() {
		for k := range impl.MaxSize + 1 {
			want := helicoptersBy(g, k).won()
			got, ok := impl.HelicoptersWin(g, k)
			checkTold(t, strconv.Itoa(k)+" helicopters on "+textOf(g), got, ok, want)
		}
	}
}

func TestHelicoptersByHand(t *testing.T) {
	for _, c := range []struct {
		name string
		g    impl.Graph
		need int
	}{
		{"no nodes", graph(0), 0},
		{"one node", graph(1), 1},
		{"eight nodes apart", graph(8), 1},
		{"two neighbors", inRow(2), 2},
		{"an edge and six nodes", graph(8, 3, 6), 2},
		{"eight in a row", inRow(8), 2},
		{"a star", graph(7, 0, 6, 1, 6, 2, 6, 3, 6, 4, 6, 5, 6), 2},
		{"a cycle of three", cycle(3, 3), 3},
		{"a cycle of eight", cycle(8, 8), 3},
		{"two cycles of four", graph(8, 0, 1, 0, 3, 1, 2, 2, 3, 4, 5, 4, 7, 5, 6, 6, 7), 3},
		{"four nodes with all edges", complete(4), 4},
		{"a cube", cube(), 4},
		{"a cycle with edges between opposite nodes", ladder(), 5},
		{"a complete Graph", complete(8), 8},
	} {
		for k := range impl.MaxSize + 1 {
			wins, ok := impl.HelicoptersWin(c.g, k)
			checkTold(t, strconv.Itoa(k)+" on "+c.name, wins, ok, k >= c.need)
		}
	}
}

func TestHavensByHand(t *testing.T) {
	path, ring, apart := inRow(3), cycle(4, 4), graph(2)
	for _, c := range []struct {
		name  string
		g     impl.Graph
		k     int
		parts [][]int
		want  bool
	}{
		{"no nodes", graph(0), 1, nil, false},
		{"no nodes, one part", graph(0), 1, [][]int{{}}, false},
		{"no nodes, order 8", graph(0), 8, [][]int{{}}, false},
		{"one node", graph(1), 1, [][]int{{0}}, true},
		{"one node, order 2", graph(1), 2, [][]int{{0}, {}}, false},
		{"one node, order 2, again", graph(1), 2, [][]int{{0}, {0}}, false},
		{"one node, order 8", graph(1), 8, [][]int{{0}}, false},
		{"the first of two parts", apart, 1, [][]int{{0}}, true},
		{"the second of two parts", apart, 1, [][]int{{1}}, true},
		{"both parts", apart, 1, [][]int{{0, 1}}, false},
		{"two parts, order 2", apart, 2, [][]int{{0}, {1}, {0}}, false},
		{"two parts, order 2, staying", apart, 2, [][]int{{0}, {0}, {0}}, false},
		{"order 1", path, 1, [][]int{{0, 1, 2}}, true},
		{"order 1, not all of the part", path, 1, [][]int{{0, 1}}, false},
		{"order 1, no parts", path, 1, nil, false},
		{"order 1, a set without nodes", path, 1, [][]int{{}}, false},
		{"order 1, too many parts", path, 1, [][]int{{0, 1, 2}, {1, 2}}, false},
		{"order 1, not ascending", path, 1, [][]int{{0, 2, 1}}, false},
		{"order 1, a node twice", path, 1, [][]int{{0, 1, 2, 2}}, false},
		{"order 1, a node that is not there", path, 1, [][]int{{0, 1, 2, 3}}, false},
		{"order 1, a node less than 0", path, 1, [][]int{{-1, 0, 1, 2}}, false},
		{"order 1, a node far away", path, 1, [][]int{{0, 1, math.MaxInt}}, false},
		{"order 1, a node far below", path, 1, [][]int{{math.MinInt, 1, 2}}, false},
		{"order 1, a long list", path, 1, [][]int{make([]int, 1<<20)}, false},
		{"many parts", path, 1, make([][]int, 1<<20), false},
		{"order 2", path, 2, [][]int{{0, 1, 2}, {1, 2}, {0}, {0, 1}}, true},
		{"order 2, the other side", path, 2, [][]int{{0, 1, 2}, {1, 2}, {2}, {0, 1}}, true},
		{"order 2, too few parts", path, 2, [][]int{{0, 1, 2}, {1, 2}, {0}}, false},
		{"order 2, too many parts", path, 2, [][]int{{0, 1, 2}, {1, 2}, {0}, {0, 1}, {0, 1}}, false},
		{"order 2, as for order 1", path, 2, [][]int{{0, 1, 2}}, false},
		{"order 2, a node of the set left out", path, 2, [][]int{{0, 1, 2}, {0, 1, 2}, {0}, {0, 1}}, false},
		{"order 2, just the node left out", path, 2, [][]int{{0, 1, 2}, {1, 2}, {1}, {0, 1}}, false},
		{"order 2, two parts", path, 2, [][]int{{0, 1, 2}, {1, 2}, {0, 2}, {0, 1}}, false},
		{"order 2, not all of a part", path, 2, [][]int{{0, 1, 2}, {1}, {0}, {0, 1}}, false},
		{"order 2, without nodes", path, 2, [][]int{{0, 1, 2}, {1, 2}, {}, {0, 1}}, false},
		{"order 2, not ascending", path, 2, [][]int{{0, 1, 2}, {2, 1}, {0}, {0, 1}}, false},
		{"order 2, sets in another order", path, 2, [][]int{{0, 1, 2}, {0, 1}, {0}, {1, 2}}, false},
		{"order 2, parts that do not touch", inRow(4), 2, [][]int{{0, 1, 2, 3}, {1, 2, 3}, {0}, {3}, {0, 1, 2}}, false},
		{"order 2, parts that touch", inRow(4), 2, [][]int{{0, 1, 2, 3}, {1, 2, 3}, {2, 3}, {3}, {0, 1, 2}}, true},
		{"order 2, one side that touches just so", inRow(4), 2, [][]int{{0, 1, 2, 3}, {1, 2, 3}, {2, 3}, {0, 1}, {0, 1, 2}}, true},
		{"order 3", ring, 3, [][]int{{0, 1, 2, 3}, {1, 2, 3}, {0, 2, 3}, {0, 1, 3}, {0, 1, 2}, {2, 3}, {1}, {1, 2}, {0, 3}, {0}, {0, 1}}, true},
		{"order 3, another node", ring, 3, [][]int{{0, 1, 2, 3}, {1, 2, 3}, {0, 2, 3}, {0, 1, 3}, {0, 1, 2}, {2, 3}, {1}, {1, 2}, {0, 3}, {2}, {0, 1}}, true},
		{"order 3, a part of the other side", ring, 3, [][]int{{0, 1, 2, 3}, {1, 2, 3}, {0, 2, 3}, {0, 1, 3}, {0, 1, 2}, {2, 3}, {1}, {1, 2}, {0, 3}, {0, 2}, {0, 1}}, false},
	} {
		got, ok := impl.IsHaven(c.g, c.k, c.parts)
		checkTold(t, c.name, got, ok, c.want)
		if got != isHavenBy(c.g, c.k, c.parts) {
			t.Error("not by the description:", c.name)
		}
	}
}

func TestFirstHavensByHand(t *testing.T) {
	for _, c := range []struct {
		name string
		g    impl.Graph
		k    int
		want [][]int
	}{
		{"one node", graph(1), 1, [][]int{{0}}},
		{"eight nodes apart", graph(8), 1, [][]int{{0}}},
		{"a part behind another", graph(3, 1, 2), 1, [][]int{{0}}},
		{"the part with an edge", graph(3, 1, 2), 2, [][]int{{1, 2}, {1, 2}, {2}, {1}}},
		{"two neighbors", inRow(2), 2, [][]int{{0, 1}, {1}, {0}}},
		{"a row", inRow(3), 2, [][]int{{0, 1, 2}, {1, 2}, {0}, {0, 1}}},
		{"four in a row", inRow(4), 2, [][]int{{0, 1, 2, 3}, {1, 2, 3}, {0}, {0, 1}, {0, 1, 2}}},
		{"a cycle of three", cycle(3, 3), 3, [][]int{{0, 1, 2}, {1, 2}, {0, 2}, {0, 1}, {2}, {1}, {0}}},
		{"a cycle of four", cycle(4, 4), 3, [][]int{{0, 1, 2, 3}, {1, 2, 3}, {0, 2, 3}, {0, 1, 3}, {0, 1, 2}, {2, 3}, {1}, {1, 2}, {0, 3}, {0}, {0, 1}}},
		{"a row of order 3", inRow(3), 3, nil},
		{"no nodes", graph(0), 1, nil},
		{"one node of order 2", graph(1), 2, nil},
		{"two neighbors of order 8", inRow(2), 8, nil},
	} {
		if c.want == nil {
			checkFails(t, "FindHaven of "+c.name, impl.FindHaven, c.g, c.k)
			continue
		}
		got, ok := impl.FindHaven(c.g, c.k)
		checkTable(t, c.name, got, ok, c.want)
	}
}

func TestFirstHavensOfAllChoices(t *testing.T) {
	t.Parallel()
	for _, g := range brambleGraphs() {
		for k := 1; k <= impl.MaxSize; k++ {
			want := firstHavenBy(g, k)
			if want == nil {
				checkFails(t, "FindHaven of "+textOf(g), impl.FindHaven, g, k)
				continue
			}
			got, ok := impl.FindHaven(g, k)
			checkTable(t, "haven of "+textOf(g), got, ok, want)
		}
	}
}

func TestHavensWithOnePartChanged(t *testing.T) {
	t.Parallel()
	told := map[bool]int{}
	graphs := append(smallGraphs(3), eachOf(allGraphs(4), 5)...)
	graphs = append(graphs, eachOf(allGraphs(5), 101)...)
	for _, g := range append(graphs, greatGraphs()[1:7]...) {
		width, _ := impl.TreewidthOf(g)
		for k := 1; k <= min(width+1, 5); k++ {
			haven, ok := impl.FindHaven(g, k)
			if !ok {
				t.Error("no haven", g, k)
			}
			for i, part := range haven {
				// Of the many parts of greater Graphs, some only.
				if len(haven) > 30 && i%17 != 5 {
					continue
				}
				for _, other := range append(subsetsOf(min(g.Size, 6)), append(slices.Clone(part), g.Size), append([]int{-1}, part...)) {
					changed := slices.Clone(haven)
					changed[i] = other
					want := isHavenBy(g, k, changed)
					got, ok := impl.IsHaven(g, k, changed)
					checkTold(t, "changed parts of "+textOf(g), got, ok, want)
					told[want]++
				}
			}
		}
	}
	if told[true] < 100 || told[false] < 1000 {
		t.Error("few of a kind:", told)
	}
}

func TestHavensOfOtherOrders(t *testing.T) {
	for _, g := range fewGraphs() {
		for k := 1; k <= impl.MaxSize; k++ {
			haven, ok := impl.FindHaven(g, k)
			if !ok {
				continue
			}
			for other := 1; other <= impl.MaxSize; other++ {
				got, ok := impl.IsHaven(g, other, haven)
				checkTold(t, "another order for "+textOf(g), got, ok, isHavenBy(g, other, haven))
			}
			for _, parts := range [][][]int{haven[1:], haven[:len(haven)-1], append(slices.Clone(haven), haven[0])} {
				got, ok := impl.IsHaven(g, k, parts)
				checkTold(t, "too few or too many parts for "+textOf(g), got, ok, false)
			}
		}
	}
}

func TestBramblesOfHavensByHand(t *testing.T) {
	for _, c := range []struct {
		name string
		g    impl.Graph
		want [][]int
	}{
		{"one node", graph(1), [][]int{{0}}},
		{"eight nodes apart", graph(8), [][]int{{0}}},
		{"two neighbors", inRow(2), [][]int{{0}, {0, 1}, {1}}},
		{"a row", inRow(3), [][]int{{0}, {0, 1}, {0, 1, 2}, {1, 2}}},
		{"the part with an edge", graph(3, 1, 2), [][]int{{1}, {1, 2}, {2}}},
		{"a cycle of three", cycle(3, 3), [][]int{{0}, {0, 1}, {0, 1, 2}, {0, 2}, {1}, {1, 2}, {2}}},
		{"a cycle of four", cycle(4, 4), [][]int{{0}, {0, 1}, {0, 1, 2}, {0, 1, 2, 3}, {0, 1, 3}, {0, 2, 3}, {0, 3}, {1}, {1, 2}, {1, 2, 3}, {2, 3}}},
	} {
		got, ok := impl.BrambleOf(c.g)
		checkTable(t, "bramble of "+c.name, got, ok, c.want)
	}
	checkFails(t, "BrambleOf no nodes", impl.BrambleOf, graph(0))
	all, ok := impl.BrambleOf(complete(8))
	want := slices.SortedFunc(slices.Values(subsetsOf(8)[1:]), slices.Compare)
	checkTable(t, "bramble of a complete Graph", all, ok, want)
}

func TestBramblesOfFirstHavens(t *testing.T) {
	t.Parallel()
	for _, g := range brambleGraphs()[1:] {
		width, _ := impl.TreewidthOf(g)
		want := firstHavenBy(g, width+1)
		slices.SortFunc(want, slices.Compare)
		want = slices.CompactFunc(want, slices.Equal)
		got, ok := impl.BrambleOf(g)
		checkTable(t, "bramble of "+textOf(g), got, ok, want)
		if !isBrambleBy(g, want) || len(coverBy(g.Size, want)) != width+1 {
			t.Error("no bramble of the order", g, want)
		}
	}
}

// widthCalls are the functions of one Graph.
func widthCalls() map[string]any {
	return map[string]any{
		"TreewidthOf": impl.TreewidthOf, "BestElimination": impl.BestElimination, "PerfectElimination": impl.PerfectElimination,
		"CliqueOf": impl.CliqueOf, "DegeneracyOf": impl.DegeneracyOf, "BrambleOf": impl.BrambleOf,
	}
}

// setsCalls are the functions of one Graph and lists.
func setsCalls() map[string]any {
	return map[string]any{"IsBramble": impl.IsBramble, "BrambleCover": impl.BrambleCover}
}

// decompositionCalls are the functions of one Graph and a Decomposition.
func decompositionCalls() map[string]any {
	return map[string]any{"IsDecomposition": impl.IsDecomposition, "DecompositionWidth": impl.DecompositionWidth}
}

// orderCalls are the functions of one Graph and a number.
func orderCalls() map[string]any {
	return map[string]any{"HelicoptersWin": impl.HelicoptersWin, "FindHaven": impl.FindHaven}
}

// checkOrderFails checks that the functions fail for a Graph with a number.
func checkOrderFails(t *testing.T, name string, g impl.Graph, k int) {
	t.Helper()
	for call, function := range orderCalls() {
		checkFails(t, call+" of "+name, function, g, k)
	}
	for _, parts := range [][][]int{nil, {}, {{}}, {{0}}, {nodesOf(max(g.Size, 0) % 9)}} {
		checkFails(t, "IsHaven of "+name, impl.IsHaven, g, k, parts)
	}
}

func TestWidthsOfGraphsThatAreNotValid(t *testing.T) {
	for name, g := range brokenGraphs() {
		for call, function := range widthCalls() {
			checkFails(t, call+" of "+name, function, g)
		}
		list := nodesOf(min(max(g.Size, 0), 9))
		for call, function := range eliminationCalls() {
			for _, order := range [][]int{nil, {0}, list} {
				checkFails(t, call+" of "+name, function, g, order)
			}
		}
		for call, function := range setsCalls() {
			for _, sets := range [][][]int{nil, {{}}, {{0}}, {list}} {
				checkFails(t, call+" of "+name, function, g, sets)
			}
		}
		for call, function := range decompositionCalls() {
			for _, d := range []impl.Decomposition{{}, {Bags: [][]int{{}}}, {Bags: [][]int{list}}, {Bags: [][]int{list, list}, Tree: pathOf(2)}} {
				checkFails(t, call+" of "+name, function, g, d)
			}
		}
		for k := range impl.MaxSize + 2 {
			checkOrderFails(t, name, g, k-1)
		}
	}
}

func TestOtherOrdersFail(t *testing.T) {
	for _, g := range append(fewGraphs(), complete(8)) {
		for _, k := range []int{-1, -2, impl.MaxSize + 1, impl.MaxSize + 2, 64, 1 << 32, math.MaxInt, math.MinInt} {
			checkOrderFails(t, "order "+strconv.Itoa(k), g, k)
		}
		checkFails(t, "IsHaven of order 0", impl.IsHaven, g, 0, [][]int{})
		checkFails(t, "FindHaven of order 0", impl.FindHaven, g, 0)
		if _, ok := impl.HelicoptersWin(g, 0); !ok {
			t.Error("no helicopters", g)
		}
		if _, ok := impl.HelicoptersWin(g, impl.MaxSize); !ok {
			t.Error("eight helicopters", g)
		}
		if is, ok := impl.IsHaven(g, impl.MaxSize, nil); !ok || is {
			t.Error("no parts for order 8", g)
		}
	}
}

// checkWidthCalls makes all calls of a Graph with some lists.
func checkWidthCalls(t *testing.T, g impl.Graph) {
	t.Helper()
	for name, function := range widthCalls() {
		checkCall(t, name, function, g)
	}
	best, _ := impl.BestElimination(g)
	d, _ := impl.DecompositionOf(g, best)
	bramble, _ := impl.BrambleOf(g)
	for _, order := range [][]int{best, nil, {0}, {1, 0}, nodesOf(min(max(g.Size, 0), 9)), {0, 0, 3}, {7}, {-1}} {
		// The room behind the list is what an append to it would write to.
		room := append(slices.Clone(order), -7, -8)
		for name, function := range eliminationCalls() {
			checkCall(t, name, function, g, room[:len(order)])
		}
		sets := append(slices.Clone(bramble), room[:len(order)], []int{-9})
		for name, function := range setsCalls() {
			checkCall(t, name, function, g, sets[:len(sets)-1])
			checkCall(t, name, function, g, sets[:len(sets)-2])
		}
		tree := append(slices.Clone(d.Tree), [2]int{-7, 7})
		bags := append(slices.Clone(d.Bags), room[:len(order)])
		for name, function := range decompositionCalls() {
			checkCall(t, name, function, g, impl.Decomposition{Bags: bags, Tree: tree})
			checkCall(t, name, function, g, impl.Decomposition{Bags: bags[:len(d.Bags)], Tree: tree[:len(d.Tree)]})
		}
		if room[len(order)] != -7 || room[len(order)+1] != -8 || sets[len(sets)-1][0] != -9 || tree[len(d.Tree)] != [2]int{-7, 7} {
			t.Fatal("written behind a list", g, order, sets, tree)
		}
	}
	for _, k := range []int{-1, 0, 1, 2, 3, 4, 8, 9} {
		for name, function := range orderCalls() {
			checkCall(t, name, function, g, k)
		}
		haven, _ := impl.FindHaven(g, k)
		for _, parts := range [][][]int{haven, nil, {{0}}, {{1, 0}}} {
			checkCall(t, "IsHaven", impl.IsHaven, g, k, parts)
		}
	}
}

func TestWidthsLeaveTheirArgumentsAlone(t *testing.T) {
	graphs := append(smallGraphs(3), allGraphs(4)[20:30]...)
	graphs = append(append(graphs, greatGraphs()[:6]...), treeGraphs()[:2]...)
	checkWithRoom(t, append(graphs, complete(8)), checkWidthCalls)
}

// callAllOfWidths makes all calls of a Graph.
func callAllOfWidths(g impl.Graph) {
	best, _ := impl.BestElimination(g)
	for _, order := range [][]int{best, nodesOf(g.Size)} {
		impl.FillingOf(g, order)
		impl.EliminationWidth(g, order)
		d, _ := impl.DecompositionOf(g, order)
		impl.IsDecomposition(g, d)
		impl.DecompositionWidth(g, d)
	}
	impl.PerfectElimination(g)
	impl.TreewidthOf(g)
	impl.CliqueOf(g)
	impl.DegeneracyOf(g)
	bramble, _ := impl.BrambleOf(g)
	impl.IsBramble(g, bramble)
	impl.BrambleCover(g, bramble)
	for k := range impl.MaxSize + 1 {
		impl.HelicoptersWin(g, k)
		haven, _ := impl.FindHaven(g, k)
		impl.IsHaven(g, k, haven)
	}
}

func TestWidthsReturnInTime(t *testing.T) {
	graphs := append(greatGraphs(), treeGraphs()...)
	for x := range impl.MaxSize + 1 {
		// Two complete parts, and two with all edges between them.
		graphs = append(graphs, graphBy(8, func(v, w int) bool { return (v < x) == (w < x) }))
		graphs = append(graphs, graphBy(8, func(v, w int) bool { return (v < x) != (w < x) }))
	}
	long := slices.Repeat(connectedSets(complete(8)), 4000)
	checkInTime(t, func() {
		for _, g := range graphs {
			callAllOfWidths(g)
		}
		impl.IsBramble(complete(8), long)
		impl.BrambleCover(complete(8), long)
		impl.IsBramble(inRow(8), long)
		impl.IsHaven(complete(8), 8, long)
		impl.IsDecomposition(complete(8), impl.Decomposition{Bags: long, Tree: make([][2]int, len(long)-1)})
	})
}
