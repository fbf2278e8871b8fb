package tests

import (
	"math"
	"slices"
	"strconv"
	"testing"

	"loop.example/g01109/impl"
)

// isDominatingBy tells whether each node that is not in a set has a neighbor in it.
func isDominatingBy(g impl.Graph, set []int) bool {
	return !slices.ContainsFunc(nodesOf(g.Size), func(x int) bool {
		return !slices.Contains(set, x) && !slices.ContainsFunc(set, func(y int) bool { return nearIn(g, x, y) })
	})
}

// isIndependentBy tells whether no two nodes of a set are neighbors.
func isIndependentBy(g impl.Graph, set []int) bool {
	return !slices.ContainsFunc(set, func(x int) bool {
		return slices.ContainsFunc(set, func(y int) bool { return nearIn(g, x, y) })
	})
}

// fewestBy returns the first one of the dominating sets with the fewest nodes.
func fewestBy(g impl.Graph) []int {
	fewest := nodesOf(g.Size)
	for _, set := range subsetsOf(g.Size) {
		if compareSets(set, fewest) < 0 && isDominatingBy(g, set) {
			fewest = set
		}
	}
	return fewest
}

// mostBy returns the first one of the independent sets with the most nodes.
func mostBy(g impl.Graph) []int {
	most := []int{}
	for _, set := range subsetsOf(g.Size) {
		more := len(set) > len(most) || len(set) == len(most) && slices.Compare(set, most) < 0
		if more && isIndependentBy(g, set) {
			most = set
		}
	}
	return most
}

// isCliqueCoverBy tells whether lists are cliques with nodes, and each node is in exactly one of them.
func isCliqueCoverBy(g impl.Graph, lists [][]int) bool {
	closed := closedIn(g)
	for _, list := range lists {
		if len(list) == 0 || !isSetBy(g.Size, list) || !isCliqueBy(closed, list) {
			return false
		}
	}
	return !slices.ContainsFunc(nodesOf(g.Size), func(x int) bool { return timesIn(lists, x) != 1 })
}

// timesIn tells in how many lists a node is.
func timesIn(lists [][]int, x int) int {
	times := 0
	for _, list := range lists {
		if slices.Contains(list, x) {
			times++
		}
	}
	return times
}

// indicesOf returns all ways to give some nodes lists that are ordered by their least nodes, as the
// index of the list of each node, in lexicographic order.
func indicesOf(size int) [][]int {
	all := [][]int{{}}
	for range size {
		var longer [][]int
		for _, indices := range all {
			next := 0
			for _, index := range indices {
				next = max(next, index+1)
			}
			for index := range next + 1 {
				longer = append(longer, append(slices.Clone(indices), index))
			}
		}
		all = longer
	}
	return all
}

// listsBy returns the lists of the nodes with the same index.
func listsBy(indices []int) [][]int {
	var lists [][]int
	for x, index := range indices {
		if index == len(lists) {
			lists = append(lists, nil)
		}
		lists[index] = append(lists[index], x)
	}
	return lists
}

// leastCoverBy returns of all clique covers the first one with the fewest cliques.
func leastCoverBy(g impl.Graph, all [][]int) [][]int {
	var least [][]int
	found := false
	for _, indices := range all {
		if lists := listsBy(indices); (!found || len(lists) < len(least)) && isCliqueCoverBy(g, lists) {
			least, found = lists, true
		}
	}
	return least
}

// coverFamilyBy chooses a node of each list in all ways.
func coverFamilyBy(lists [][]int) [][]int {
	ways := [][]int{{}}
	for _, list := range lists {
		var longer [][]int
		for _, way := range ways {
			for _, x := range list {
				longer = append(longer, append(slices.Clone(way), x))
			}
		}
		ways = longer
	}
	return setsIn(ways)
}

// setsIn returns the sets of the nodes of lists, in order, each once.
func setsIn(lists [][]int) [][]int {
	sets := [][]int{}
	for _, list := range lists {
		sets = append(sets, slices.Sorted(slices.Values(list)))
	}
	slices.SortFunc(sets, slices.Compare)
	return slices.CompactFunc(sets, slices.Equal)
}

// guardMovesBy returns all sets to which guards can move. All at once, they go one after the other, each
// to a place where none has gone.
func guardMovesBy(closed closedTable, size int, from []int, all bool) [][]int {
	if !all {
		var sets [][]int
		for _, x := range from {
			for y := range size {
				if closed[x][y] && !slices.Contains(from, y) {
					sets = append(sets, append(without(from, x), y))
				}
			}
		}
		return setsIn(sets)
	}
	ways := [][]int{{}}
	for _, x := range from {
		var longer [][]int
		for _, way := range ways {
			for y := range size {
				if closed[x][y] && !slices.Contains(way, y) {
					longer = append(longer, append(slices.Clone(way), y))
				}
			}
		}
		// Which of the guards is where does not matter for those that go later.
		ways = setsIn(longer)
	}
	return ways
}

// guardGame is the game of k guards on a Graph by its description.
type guardGame struct {
	g     impl.Graph
	k     int
	all   bool
	name  string
	sets  [][]int
	moves map[int][][]int // by the bits of the sets
	known map[[2]int]bool // whether a set withstands so many attacks, by its bits and their number
}

func guardGameBy(g impl.Graph, k int, all bool) guardGame {
	game := guardGame{g: g, k: k, all: all, moves: map[int][][]int{}, known: map[[2]int]bool{}}
	game.name = strconv.Itoa(k) + " guards, all " + strconv.FormatBool(all) + ", on " + textOf(g)
	game.sets = setsIn(slices.DeleteFunc(subsetsOf(g.Size), func(set []int) bool { return len(set) != k }))
	for _, set := range game.sets {
		game.moves[bitsBy(set)] = guardMovesBy(closedIn(g), g.Size, set, all)
	}
	return game
}

// guardGamesBy returns the games of all numbers of guards that move in both ways.
func guardGamesBy(g impl.Graph) []guardGame {
	var games []guardGame
	for k := range g.Size + 1 {
		games = append(games, guardGameBy(g, k, true), guardGameBy(g, k, false))
	}
	return games
}

// attacksOn returns the nodes that are not in a set.
func (game guardGame) attacksOn(set []int) []int {
	return slices.DeleteFunc(nodesOf(game.g.Size), func(x int) bool { return slices.Contains(set, x) })
}

// answers returns the moves that answer an attack, in order.
func (game guardGame) answers(set []int, attack int) [][]int {
	return slices.DeleteFunc(slices.Clone(game.moves[bitsBy(set)]), func(to []int) bool { return !slices.Contains(to, attack) })
}

// withstands tells whether the guards of a set can answer any t attacks.
func (game guardGame) withstands(set []int, t int) bool {
	key := [2]int{bitsBy(set), t}
	if known, ok := game.known[key]; ok || t == 0 {
		return known || t == 0
	}
	game.known[key] = !slices.ContainsFunc(game.attacksOn(set), func(attack int) bool {
		return !slices.ContainsFunc(game.answers(set, attack), func(to []int) bool { return game.withstands(to, t-1) })
	})
	return game.known[key]
}

// resistance returns the resistance of a set. If as many attacks as there are sets can be answered, any
// number can: fewer sets withstand one attack more, or those that withstand more are the same ones.
func (game guardGame) resistance(set []int) int {
	for t := range len(game.sets) {
		if !game.withstands(set, t+1) {
			return t
		}
	}
	return -1
}

// strength is the resistance of a set, or the greatest number for -1.
func (game guardGame) strength(set []int) int {
	if resistance := game.resistance(set); resistance >= 0 {
		return resistance
	}
	return math.MaxInt
}

// best returns the first answer with the greatest resistance, and its strength, or -1 if there is none.
func (game guardGame) best(set []int, attack int) ([]int, int) {
	var best []int
	most := -1
	for _, to := range game.answers(set, attack) {
		if strength := game.strength(to); strength > most {
			best, most = to, strength
		}
	}
	return best, most
}

// worst returns the least attack with the least strength after the best answer.
func (game guardGame) worst(set []int) int {
	worst, least := -1, math.MaxInt
	for _, attack := range game.attacksOn(set) {
		if _, strength := game.best(set, attack); strength < least {
			worst, least = attack, strength
		}
	}
	return worst
}

// played returns the sets behind the attacks of a list that are answered.
func (game guardGame) played(set []int, attacks []int) [][]int {
	var played [][]int
	for _, attack := range attacks {
		if attack < 0 || attack >= game.g.Size {
			return played
		}
		if !slices.Contains(set, attack) {
			best, strength := game.best(set, attack)
			if strength < 0 {
				return played
			}
			set = best
		}
		played = append(played, set)
	}
	return played
}

// family returns the sets with the resistance -1.
func (game guardGame) family() [][]int {
	return slices.DeleteFunc(slices.Clone(game.sets), func(set []int) bool { return game.resistance(set) >= 0 })
}

// isEternalBy tells whether lists are sets with the same number of nodes, and each attack on each of
// them has an answer among them.
func isEternalBy(g impl.Graph, lists [][]int, all bool) bool {
	for _, list := range lists {
		if len(list) != len(lists[0]) || !isSetBy(g.Size, list) {
			return false
		}
	}
	among := func(to []int) bool {
		return slices.ContainsFunc(lists, func(list []int) bool { return slices.Equal(list, to) })
	}
	for _, list := range lists {
		moves := guardMovesBy(closedIn(g), g.Size, list, all)
		for x := range g.Size {
			answers := func(to []int) bool { return slices.Contains(to, x) && among(to) }
			if !slices.Contains(list, x) && !slices.ContainsFunc(moves, answers) {
				return false
			}
		}
	}
	return len(lists) > 0
}

// pendant is the cycle of four nodes 0, 2, 1 and 3, with a fifth node beside node 0.
func pendant() impl.Graph {
	return graph(5, 0, 2, 0, 3, 0, 4, 1, 2, 1, 3)
}

// renamedPendant is pendant with the numbers of the nodes turned round.
func renamedPendant() impl.Graph {
	return graph(5, 0, 4, 1, 3, 1, 4, 2, 3, 2, 4)
}

// guardGraphs returns some Graphs of six to MaxSize nodes.
func guardGraphs() []impl.Graph {
	graphs := append(eachOf(allGraphs(6), 3001), eachOf(greatGraphs(), 12)...)
	graphs = append(graphs, eachOf(treeGraphs(), 21)...)
	// The two last ones have sets of three guards with the resistances 3 and 4, if these move one at a time.
	return append(graphs, graph(8), inRow(8), cycle(8, 8), cycle(7, 7), complete(8), star(8, 7), spider(), cube(), ladder(), sides(),
		graph(8, 0, 1, 0, 3, 0, 6, 2, 4, 2, 5, 2, 7, 3, 6, 4, 6),
		graph(8, 0, 1, 0, 2, 0, 3, 0, 5, 0, 7, 1, 2, 1, 3, 1, 4, 1, 6, 2, 4, 2, 5, 3, 4, 4, 6, 4, 7, 5, 6),
		graph(8, 0, 1, 0, 3, 0, 6, 0, 7, 1, 2, 1, 5, 1, 7, 2, 3, 2, 4, 2, 7, 3, 4, 3, 5, 3, 7, 4, 6, 4, 7, 5, 6))
}

func TestLimitOfGuards(t *testing.T) {
	if impl.MaxAttacks != 30 {
		t.Error(impl.MaxAttacks)
	}
}

func TestDominatingByHand(t *testing.T) {
	for _, c := range []struct {
		g    impl.Graph
		set  []int
		want bool
	}{
		{graph(0), nil, true}, {graph(1), nil, false}, {graph(1), []int{0}, true}, {graph(8), nil, false}, {graph(8), nodesOf(8), true}, {graph(8), nodesOf(7), false},
		{graph(3), []int{0, 2}, false}, {inRow(2), []int{0}, true}, {inRow(2), []int{1}, true}, {inRow(3), []int{1}, true}, {inRow(3), []int{0}, false}, {inRow(3), []int{0, 2}, true},
		{inRow(4), []int{1}, false}, {inRow(4), []int{0, 1}, false}, {inRow(4), []int{0, 2}, true}, {inRow(4), []int{0, 3}, true}, {inRow(8), []int{1, 4, 6}, true},
		{inRow(8), []int{1, 4}, false}, {cycle(3, 3), []int{2}, true}, {cycle(4, 4), []int{0}, false}, {cycle(4, 4), []int{1, 2}, true}, {cycle(5, 5), []int{0, 1}, false},
		{cycle(5, 5), []int{1, 4}, true}, {cycle(5, 4), []int{0, 2}, false}, {cycle(5, 4), []int{0, 2, 4}, true}, {complete(8), []int{5}, true}, {complete(8), nil, false},
		{star(5, 3), []int{3}, true}, {star(5, 3), []int{0, 1, 2}, false}, {star(5, 3), []int{0, 1, 2, 4}, true}, {graph(4, 0, 1, 2, 3), []int{0, 1}, false},
		{graph(4, 0, 1, 2, 3), []int{1, 2}, true}, {cube(), []int{0, 7}, true}, {cube(), []int{0, 3}, false}, {spider(), []int{1, 3, 5}, true}, {spider(), []int{0, 1, 3}, false},
	} {
		is, ok := impl.IsDominating(c.g, c.set)
		checkTold(t, "dominating by hand in "+textOf(c.g), is, ok, c.want)
		checkTold(t, "dominating by hand, own search, in "+textOf(c.g), isDominatingBy(c.g, c.set), true, c.want)
	}
}

func TestLeastAndLargestSetsByHand(t *testing.T) {
	one := [][]int{{0}}
	for _, c := range []struct {
		g      impl.Graph
		few    []int
		many   []int
		cover  [][]int
		once   int
		single int
	}{
		{graph(0), nil, nil, nil, 0, 0}, {graph(1), []int{0}, []int{0}, one, 1, 1}, {graph(2), nodesOf(2), nodesOf(2), [][]int{{0}, {1}}, 2, 2},
		{graph(8), nodesOf(8), nodesOf(8), [][]int{{0}, {1}, {2}, {3}, {4}, {5}, {6}, {7}}, 8, 8}, {inRow(2), []int{0}, []int{0}, [][]int{{0, 1}}, 1, 1},
		{inRow(3), []int{1}, []int{0, 2}, [][]int{{0, 1}, {2}}, 2, 2}, {inRow(4), []int{0, 2}, []int{0, 2}, [][]int{{0, 1}, {2, 3}}, 2, 2},
		{inRow(5), []int{0, 3}, []int{0, 2, 4}, [][]int{{0, 1}, {2, 3}, {4}}, 3, 3}, {inRow(6), []int{1, 4}, []int{0, 2, 4}, [][]int{{0, 1}, {2, 3}, {4, 5}}, 3, 3},
		{inRow(8), []int{0, 3, 6}, []int{0, 2, 4, 6}, [][]int{{0, 1}, {2, 3}, {4, 5}, {6, 7}}, 4, 4},
		{cycle(3, 3), []int{0}, []int{0}, [][]int{{0, 1, 2}}, 1, 1}, {cycle(4, 4), []int{0, 1}, []int{0, 2}, [][]int{{0, 1}, {2, 3}}, 2, 2},
		{cycle(5, 5), []int{0, 2}, []int{0, 2}, [][]int{{0, 1}, {2, 3}, {4}}, 2, 3}, {cycle(6, 6), []int{0, 3}, []int{0, 2, 4}, [][]int{{0, 1}, {2, 3}, {4, 5}}, 2, 3},
		{cycle(7, 7), []int{0, 1, 4}, []int{0, 2, 4}, [][]int{{0, 1}, {2, 3}, {4, 5}, {6}}, 3, 4}, {cycle(8, 8), []int{0, 2, 5}, []int{0, 2, 4, 6}, [][]int{{0, 1}, {2, 3}, {4, 5}, {6, 7}}, 3, 4},
		{complete(4), []int{0}, []int{0}, [][]int{{0, 1, 2, 3}}, 1, 1}, {complete(8), []int{0}, []int{0}, [][]int{nodesOf(8)}, 1, 1},
		{star(4, 0), []int{0}, []int{1, 2, 3}, [][]int{{0, 1}, {2}, {3}}, 2, 3}, {star(4, 3), []int{3}, []int{0, 1, 2}, [][]int{{0, 3}, {1}, {2}}, 2, 3},
		{star(8, 7), []int{7}, nodesOf(7), [][]int{{0, 7}, {1}, {2}, {3}, {4}, {5}, {6}}, 2, 7},
		{graph(3, 0, 1), []int{0, 2}, []int{0, 2}, [][]int{{0, 1}, {2}}, 2, 2}, {graph(3, 1, 2), []int{0, 1}, []int{0, 1}, [][]int{{0}, {1, 2}}, 2, 2},
		{graph(4, 0, 3, 1, 2), []int{0, 1}, []int{0, 1}, [][]int{{0, 3}, {1, 2}}, 2, 2}, {graph(5, 0, 1, 0, 2, 1, 2, 3, 4), []int{0, 3}, []int{0, 3}, [][]int{{0, 1, 2}, {3, 4}}, 2, 2},
		// Node 0 with the next one would be one clique more.
		{graph(4, 0, 1, 0, 2, 1, 3), []int{0, 1}, []int{0, 3}, [][]int{{0, 2}, {1, 3}}, 2, 2}, {graph(4, 0, 1, 0, 2, 0, 3, 2, 3), []int{0}, []int{1, 2}, [][]int{{0, 1}, {2, 3}}, 2, 2},
		// The node of both triangles is in the first clique that it may be in.
		{graph(5, 0, 1, 0, 2, 1, 2, 2, 3, 2, 4, 3, 4), []int{2}, []int{0, 3}, [][]int{{0, 1, 2}, {3, 4}}, 2, 2},
		{graph(5, 0, 1, 0, 4, 1, 4, 2, 3, 2, 4, 3, 4), []int{4}, []int{0, 2}, [][]int{{0, 1, 4}, {2, 3}}, 2, 2},
		{pendant(), []int{0, 1}, []int{2, 3, 4}, [][]int{{0, 2}, {1, 3}, {4}}, 2, 3}, {spider(), []int{1, 3, 5}, []int{0, 2, 4, 6}, [][]int{{0, 1}, {2}, {3, 4}, {5, 6}}, 4, 4},
		{cube(), []int{0, 7}, []int{0, 3, 5, 6}, [][]int{{0, 1}, {2, 3}, {4, 5}, {6, 7}}, 2, 4}, {sides(), []int{0, 4}, nodesOf(4), [][]int{{0, 4}, {1, 5}, {2, 6}, {3, 7}}, 2, 4},
	} {
		name := "by hand of " + textOf(c.g)
		few, ok := impl.LeastDominating(c.g)
		checkList(t, "dominating "+name, few, ok, c.few)
		many, ok := impl.LargestIndependent(c.g)
		checkList(t, "independent "+name, many, ok, c.many)
		cover, ok := impl.LeastCliqueCover(c.g)
		checkTable(t, "clique cover "+name, cover, ok, c.cover)
		once, ok := impl.EternalNumber(c.g, true)
		checkNumber(t, "all at once "+name, once, ok, c.once)
		single, ok := impl.EternalNumber(c.g, false)
		checkNumber(t, "one at a time "+name, single, ok, c.single)
	}
}

// checkNumbersOfGuards compares the sets and the least cover of a Graph with the test's own.
func checkNumbersOfGuards(t *testing.T, g impl.Graph, indices [][]int) {
	t.Helper()
	for _, set := range subsetsOf(g.Size) {
		is, ok := impl.IsDominating(g, set)
		checkTold(t, "dominating in "+textOf(g), is, ok, isDominatingBy(g, set))
	}
	few, ok := impl.LeastDominating(g)
	checkList(t, "dominating in "+textOf(g), few, ok, fewestBy(g))
	many, ok := impl.LargestIndependent(g)
	checkList(t, "independent in "+textOf(g), many, ok, mostBy(g))
	cover, ok := impl.LeastCliqueCover(g)
	checkTable(t, "clique cover of "+textOf(g), cover, ok, leastCoverBy(g, indices))
}

func TestNumbersOfGuardsOfSmallGraphs(t *testing.T) {
	t.Parallel()
	for size := range 6 {
		indices := indicesOf(size)
		for _, g := range allGraphs(size) {
			checkNumbersOfGuards(t, g, indices)
		}
	}
	indices := indicesOf(6)
	for _, g := range append(eachOf(allGraphs(6), 101), differentGraphs(6)...) {
		checkNumbersOfGuards(t, g, indices)
	}
}

func TestNumbersOfGuardsOfGreatGraphs(t *testing.T) {
	t.Parallel()
	indices := [][][]int{6: indicesOf(6), 7: indicesOf(7), 8: indicesOf(8)}
	for _, g := range append(append(guardGraphs(), eachOf(halvedGraphs(), 5)...), eachOf(greatGraphs(), 5)...) {
		checkNumbersOfGuards(t, g, indices[g.Size])
	}
}

// checkCover compares what is told of lists with the test's own, and returns whether they are a cover.
func checkCover(t *testing.T, name string, g impl.Graph, lists [][]int) bool {
	t.Helper()
	is := isCliqueCoverBy(g, lists)
	got, ok := impl.IsCliqueCover(g, lists)
	checkTold(t, name+", cover of "+textOf(g), got, ok, is)
	if !is {
		checkFails(t, "CoverFamily: "+name, impl.CoverFamily, g, lists)
		return false
	}
	family, ok := impl.CoverFamily(g, lists)
	checkTable(t, name+", family of "+textOf(g), family, ok, coverFamilyBy(lists))
	eternal, ok := impl.IsEternalFamily(g, family, false)
	checkTold(t, name+", eternal family of "+textOf(g), eternal, ok, true)
	return true
}

func TestCliqueCoversByHand(t *testing.T) {
	row, square, none := inRow(3), cycle(4, 4), [][]int{{}}
	for _, c := range []struct {
		name   string
		g      impl.Graph
		lists  [][]int
		family [][]int
	}{
		{"no nodes", graph(0), nil, none}, {"one node", graph(1), [][]int{{0}}, [][]int{{0}}}, {"no edges", graph(3), [][]int{{0}, {1}, {2}}, [][]int{nodesOf(3)}},
		{"no edges, in another order", graph(3), [][]int{{2}, {0}, {1}}, [][]int{nodesOf(3)}}, {"a row", row, [][]int{{0, 1}, {2}}, [][]int{{0, 2}, {1, 2}}},
		{"a row, in another order", row, [][]int{{2}, {0, 1}}, [][]int{{0, 2}, {1, 2}}}, {"a row, its other end", row, [][]int{{0}, {1, 2}}, [][]int{{0, 1}, {0, 2}}},
		{"a row, each node", row, [][]int{{1}, {0}, {2}}, [][]int{nodesOf(3)}}, {"a cycle of three", cycle(3, 3), [][]int{{0, 1, 2}}, [][]int{{0}, {1}, {2}}},
		{"a cycle of three, two", cycle(3, 3), [][]int{{1}, {0, 2}}, [][]int{{0, 1}, {1, 2}}}, {"a square", square, [][]int{{2, 3}, {0, 1}}, [][]int{{0, 2}, {0, 3}, {1, 2}, {1, 3}}},
		{"a square, across", square, [][]int{{0, 3}, {1, 2}}, [][]int{{0, 1}, {0, 2}, {1, 3}, {2, 3}}}, {"complete", complete(8), [][]int{nodesOf(8)}, [][]int{{0}, {1}, {2}, {3}, {4}, {5}, {6}, {7}}},
		{"complete, without the last node", complete(4), [][]int{{3}, nodesOf(3)}, [][]int{{0, 3}, {1, 3}, {2, 3}}},
		{"parts", graph(4, 0, 3, 1, 2), [][]int{{1, 2}, {0, 3}}, [][]int{{0, 1}, {0, 2}, {1, 3}, {2, 3}}}, {"a star", star(4, 0), [][]int{{0, 2}, {1}, {3}}, [][]int{{0, 1, 3}, {1, 2, 3}}},
	} {
		is := checkCover(t, c.name, c.g, c.lists)
		family, ok := impl.CoverFamily(c.g, c.lists)
		checkTable(t, "by hand: "+c.name, family, ok && is, c.family)
	}
	for _, c := range []struct {
		name  string
		g     impl.Graph
		lists [][]int
	}{
		{"no cliques", graph(1), nil}, {"no cliques of many nodes", complete(8), nil}, {"an empty clique of no nodes", graph(0), none}, {"a clique of no nodes", graph(0), [][]int{{0}}},
		{"an empty clique alone", graph(1), none}, {"an empty clique first", row, [][]int{{}, {0, 1}, {2}}}, {"an empty clique in the middle", row, [][]int{{0, 1}, nil, {2}}}, {"an empty clique at the end", row, [][]int{{0, 1}, {2}, {}}},
		{"a node twice", row, [][]int{{0, 1}, {1, 2}}}, {"a node twice, alone", row, [][]int{{0, 1}, {2}, {1}}}, {"a clique twice", row, [][]int{{0, 1}, {2}, {0, 1}}}, {"a node twice in a clique", row, [][]int{{0, 0, 1}, {2}}},
		{"a node missing", row, [][]int{{0, 1}}}, {"the first node missing", row, [][]int{{1, 2}}}, {"a node twice and one missing", row, [][]int{{0, 1}, {1}}}, {"the last node missing", complete(8), [][]int{nodesOf(7)}},
		{"nodes that are no neighbors", row, [][]int{{0, 2}, {1}}}, {"all nodes of a row", row, [][]int{{0, 1, 2}}}, {"opposite nodes", square, [][]int{{0, 2}, {1, 3}}}, {"a square as a clique", square, [][]int{nodesOf(4)}},
		{"an edge missing", graph(4, 0, 1, 0, 2, 0, 3, 1, 2, 1, 3), [][]int{nodesOf(4)}}, {"a list that is not ascending", row, [][]int{{1, 0}, {2}}}, {"a list whose end is not ascending", complete(3), [][]int{{0, 2, 1}}},
		{"a node that is not there", row, [][]int{{0, 1}, {2}, {3}}}, {"a node that is not there, in a clique", row, [][]int{{0, 1}, {2, 3}}}, {"a negative node", row, [][]int{{-1}, {0, 1}, {2}}}, {"a negative node in a clique", row, [][]int{{-1, 0, 1}, {2}}},
		{"a node far away", row, [][]int{{0, 1}, {2, 64}}}, {"the greatest number", row, [][]int{{0, 1}, {2, math.MaxInt}}}, {"the least number", row, [][]int{{math.MinInt, 0, 1}, {2}}}, {"a ninth node", complete(8), [][]int{nodesOf(9)}},
		{"many empty cliques", row, make([][]int, 1<<20)}, {"many cliques", row, slices.Repeat([][]int{{0, 1}, {2}}, 1<<18)}, {"a long clique", row, [][]int{nodesOf(1 << 20)}},
	} {
		if checkCover(t, c.name, c.g, c.lists) {
			t.Error("by hand:", c.name)
		}
	}
}

// shortLists returns all lists of at most three nodes, and of the number that is no node any more.
func shortLists(size int) [][]int {
	var lists [][]int
	for length := range 4 {
		lists = append(lists, listsOver(length, 0, size)...)
	}
	return lists
}

func TestCliqueCoversOfAllLists(t *testing.T) {
	t.Parallel()
	told := map[bool]int{}
	for _, g := range smallGraphs(3) {
		for length := range 3 {
			for _, cover := range chosenFrom(length, shortLists(g.Size)) {
				told[checkCover(t, "some lists", g, cover)]++
			}
		}
	}
	for _, g := range append(smallGraphs(3), eachOf(allGraphs(4), 5)...) {
		for length := range 4 {
			for _, cover := range setsOver(length, g.Size) {
				told[checkCover(t, "some sets", g, cover)]++
			}
		}
	}
	checkBoth(t, told, 100)
}

func TestCliqueCoversOfGreatGraphs(t *testing.T) {
	t.Parallel()
	told := map[bool]int{}
	for size := 4; size <= 8; size++ {
		graphs := slices.DeleteFunc(append(guardGraphs(), eachOf(append(allGraphs(4), allGraphs(5)...), 21)...), func(g impl.Graph) bool { return g.Size != size })
		for i, indices := range indicesOf(size) {
			for _, g := range graphs {
				if lists := listsBy(indices); i%7 == 0 || isCliqueCoverBy(g, lists) {
					slices.Reverse(lists)
					told[checkCover(t, "lists of each node once", g, lists)]++
				}
			}
		}
		for _, g := range graphs {
			cover, _ := impl.LeastCliqueCover(g)
			for _, changed := range append(changedBags(g.Size, cover), changedSets(cover, g.Size)...) {
				told[checkCover(t, "a changed cover", g, changed)]++
			}
		}
	}
	checkBoth(t, told, 100)
}

func TestGuardSetsByHand(t *testing.T) {
	for _, c := range []struct {
		g    impl.Graph
		k    int
		sets [][]int
	}{
		{graph(0), 0, [][]int{{}}}, {graph(1), 0, [][]int{{}}}, {graph(1), 1, [][]int{{0}}}, {complete(3), 0, [][]int{{}}}, {graph(3), 1, [][]int{{0}, {1}, {2}}}, {inRow(3), 2, [][]int{{0, 1}, {0, 2}, {1, 2}}}, {complete(3), 3, [][]int{{0, 1, 2}}},
		{inRow(4), 2, [][]int{{0, 1}, {0, 2}, {0, 3}, {1, 2}, {1, 3}, {2, 3}}}, {star(4, 2), 3, [][]int{{0, 1, 2}, {0, 1, 3}, {0, 2, 3}, {1, 2, 3}}}, {cube(), 8, [][]int{nodesOf(8)}},
		{complete(8), 1, [][]int{{0}, {1}, {2}, {3}, {4}, {5}, {6}, {7}}},
	} {
		sets, ok := impl.GuardSets(c.g, c.k)
		checkTable(t, "sets by hand of "+textOf(c.g), sets, ok, c.sets)
	}
	sets, ok := impl.GuardSets(cube(), 4)
	if !ok || len(sets) != 70 || !slices.IsSortedFunc(sets, slices.Compare) || !slices.Equal(sets[0], nodesOf(4)) || !slices.Equal(sets[69], []int{4, 5, 6, 7}) {
		t.Error("sets of four", sets, ok)
	}
}

func TestMovesOfGuardsByHand(t *testing.T) {
	row, square, bridge := inRow(4), cycle(4, 4), graph(4, 0, 2, 0, 3, 1, 2)
	for _, c := range []struct {
		name   string
		g      impl.Graph
		from   []int
		to     []int
		once   bool
		single bool
	}{
		{"no guards of no nodes", graph(0), nil, nil, true, false}, {"no guards", row, nil, nil, true, false}, {"guards at all nodes", row, nodesOf(4), nodesOf(4), true, false},
		{"one guard stays", row, []int{1}, []int{1}, true, false}, {"one guard", row, []int{1}, []int{2}, true, true}, {"one guard, back", row, []int{1}, []int{0}, true, true}, {"one guard goes too far", row, []int{1}, []int{3}, false, false},
		{"one guard of no edges stays", graph(3), []int{1}, []int{1}, true, false}, {"one guard of no edges", graph(3), []int{1}, []int{2}, false, false}, {"to another part", graph(4, 0, 1, 2, 3), []int{0, 1}, []int{0, 2}, false, false},
		{"two guards stay", row, []int{0, 2}, []int{0, 2}, true, false}, {"one of two", row, []int{0, 2}, []int{0, 3}, true, true}, {"the other one of two", row, []int{0, 2}, []int{1, 2}, true, true},
		{"both of two", row, []int{0, 2}, []int{1, 3}, true, false}, {"one to the place of the other one", row, []int{0, 1}, []int{1, 2}, true, false}, {"one past the other one", row, []int{0, 1}, []int{1, 3}, false, false},
		{"one round the other one", complete(3), []int{0, 1}, []int{1, 2}, true, true}, {"three in a row", row, []int{0, 1, 2}, []int{1, 2, 3}, true, false}, {"three in a row, back", row, []int{1, 2, 3}, []int{0, 1, 2}, true, false},
		{"two of three in a row", row, []int{0, 1, 3}, []int{1, 2, 3}, true, false}, {"seven in a row", inRow(8), nodesOf(7), []int{1, 2, 3, 4, 5, 6, 7}, true, false}, {"seven in a row, one alone", inRow(8), nodesOf(7), []int{0, 1, 2, 3, 4, 5, 7}, true, true},
		{"two in a square", square, []int{0, 1}, []int{2, 3}, true, false}, {"opposite ones in a square", square, []int{0, 2}, []int{1, 3}, true, false}, {"three in a square", square, []int{0, 1, 2}, []int{0, 1, 3}, true, true}, {"three in a square turn", square, []int{0, 1, 2}, []int{1, 2, 3}, true, true},
		{"both to the same place", star(4, 0), []int{1, 2}, []int{0, 3}, false, false}, {"through the middle", star(4, 0), []int{0, 1}, []int{0, 2}, true, false}, {"from the middle", star(4, 0), []int{0, 1}, []int{1, 2}, true, true},
		{"the first guard gives way", bridge, []int{0, 1}, []int{2, 3}, true, false}, {"none gives way", bridge, []int{1, 3}, []int{0, 2}, true, false}, {"one cannot go", bridge, []int{1, 2}, []int{0, 3}, false, false},
		{"all of a complete Graph but one", complete(8), nodesOf(7), []int{1, 2, 3, 4, 5, 6, 7}, true, true}, {"two of a complete Graph", complete(8), []int{0, 1}, []int{6, 7}, true, false}, {"from side to side", sides(), nodesOf(4), []int{4, 5, 6, 7}, true, false},
		{"three of four from side to side", sides(), nodesOf(4), []int{3, 4, 5, 6}, true, false}, {"too many for one side", sides(), []int{0, 1, 2, 3, 4}, []int{0, 4, 5, 6, 7}, true, false},
		{"round a cube", cube(), []int{0, 1, 2, 3}, []int{4, 5, 6, 7}, true, false}, {"across a cube", cube(), []int{0, 3}, []int{5, 6}, false, false}, {"a guard stays far away", graph(5, 0, 1), []int{0, 4}, []int{1, 4}, true, true}, {"a guard cannot stay", graph(5, 0, 1), []int{0, 4}, []int{1, 3}, false, false},
	} {
		once, ok := impl.CanMoveGuards(c.g, c.from, c.to, true)
		checkTold(t, "all at once: "+c.name, once, ok, c.once)
		single, ok := impl.CanMoveGuards(c.g, c.from, c.to, false)
		checkTold(t, "one at a time: "+c.name, single, ok, c.single)
	}
}

func TestAnswersByHand(t *testing.T) {
	row, five := inRow(3), cycle(5, 5)
	for _, c := range []struct {
		name   string
		g      impl.Graph
		set    []int
		attack int
		once   [][]int
		single [][]int
	}{
		{"no guards", graph(1), nil, 0, nil, nil}, {"no guards in a row", row, nil, 1, nil, nil}, {"no edges", graph(3), []int{0, 2}, 1, nil, nil}, {"no guard reaches it", row, []int{0}, 2, nil, nil}, {"another part", graph(4, 0, 1, 2, 3), []int{0, 1}, 3, nil, nil},
		{"one guard", row, []int{1}, 2, [][]int{{2}}, [][]int{{2}}}, {"either guard", row, []int{0, 2}, 1, [][]int{{0, 1}, {1, 2}}, [][]int{{0, 1}, {1, 2}}}, {"one of two", row, []int{0, 1}, 2, [][]int{{0, 2}, {1, 2}}, [][]int{{0, 2}}},
		{"a cycle", five, []int{0, 2}, 1, [][]int{{0, 1}, {1, 2}, {1, 3}, {1, 4}}, [][]int{{0, 1}, {1, 2}}}, {"a cycle, beside both", five, []int{0, 1}, 3, nil, nil}, {"a cycle, beside one", five, []int{0, 1}, 2, [][]int{{0, 2}, {1, 2}, {2, 4}}, [][]int{{0, 2}}},
		{"a star", star(4, 0), []int{0, 1}, 2, [][]int{{0, 2}, {1, 2}}, [][]int{{1, 2}}}, {"a star, its middle", star(4, 0), []int{1, 3}, 0, [][]int{{0, 1}, {0, 3}}, [][]int{{0, 1}, {0, 3}}}, {"a complete Graph", complete(3), []int{0, 1}, 2, [][]int{{0, 2}, {1, 2}}, [][]int{{0, 2}, {1, 2}}},
		{"seven guards", inRow(8), nodesOf(7), 7, [][]int{{0, 1, 2, 3, 4, 5, 7}, {0, 1, 2, 3, 4, 6, 7}, {0, 1, 2, 3, 5, 6, 7}, {0, 1, 2, 4, 5, 6, 7}, {0, 1, 3, 4, 5, 6, 7}, {0, 2, 3, 4, 5, 6, 7}, {1, 2, 3, 4, 5, 6, 7}}, [][]int{{0, 1, 2, 3, 4, 5, 7}}},
	} {
		once, ok := impl.GuardAnswers(c.g, c.set, c.attack, true)
		checkTable(t, "all at once: "+c.name, once, ok, c.once)
		single, ok := impl.GuardAnswers(c.g, c.set, c.attack, false)
		checkTable(t, "one at a time: "+c.name, single, ok, c.single)
	}
}

func TestResistancesByHand(t *testing.T) {
	for _, c := range []struct {
		g      impl.Graph
		k      int
		once   []int
		single []int
	}{
		{graph(0), 0, []int{-1}, []int{-1}}, {graph(1), 0, []int{0}, []int{0}}, {graph(1), 1, []int{-1}, []int{-1}}, {complete(8), 0, []int{0}, []int{0}}, {graph(8), 8, []int{-1}, []int{-1}}, {graph(3), 1, []int{0, 0, 0}, []int{0, 0, 0}},
		{graph(3), 2, []int{0, 0, 0}, []int{0, 0, 0}}, {inRow(2), 1, []int{-1, -1}, []int{-1, -1}}, {inRow(3), 1, []int{0, 1, 0}, []int{0, 1, 0}}, {inRow(3), 2, []int{-1, -1, -1}, []int{-1, -1, -1}}, {inRow(4), 1, []int{0, 0, 0, 0}, []int{0, 0, 0, 0}},
		{inRow(4), 2, []int{0, -1, -1, -1, -1, 0}, []int{0, -1, -1, -1, -1, 0}}, {cycle(4, 4), 1, []int{0, 0, 0, 0}, []int{0, 0, 0, 0}}, {cycle(4, 4), 2, slices.Repeat([]int{-1}, 6), slices.Repeat([]int{-1}, 6)},
		{cycle(5, 5), 2, []int{0, -1, -1, 0, 0, -1, -1, 0, -1, 0}, []int{0, 1, 1, 0, 0, 1, 1, 0, 1, 0}}, {complete(5), 1, slices.Repeat([]int{-1}, 5), slices.Repeat([]int{-1}, 5)},
		{star(4, 0), 1, []int{1, 0, 0, 0}, []int{1, 0, 0, 0}}, {star(4, 0), 2, []int{-1, -1, -1, 0, 0, 0}, []int{1, 1, 1, 0, 0, 0}}, {star(4, 0), 3, slices.Repeat([]int{-1}, 4), slices.Repeat([]int{-1}, 4)}, {star(4, 3), 2, []int{0, 0, -1, 0, -1, -1}, []int{0, 0, 1, 0, 1, 1}},
		{graph(3, 0, 1), 1, []int{0, 0, 0}, []int{0, 0, 0}}, {graph(3, 0, 1), 2, []int{0, -1, -1}, []int{0, -1, -1}},
		// One after the other, the guards of 0 and 1 go to 0 and 2, to 2 and 3, and cannot go to 4 then.
		{pendant(), 2, nil, []int{2, 1, 1, 0, 0, 0, 1, 0, 0, 0}},
	} {
		once, ok := impl.Resistances(c.g, c.k, true)
		if c.once != nil {
			checkList(t, "all at once: "+textOf(c.g), once, ok, c.once)
		}
		single, ok := impl.Resistances(c.g, c.k, false)
		checkList(t, "one at a time: "+textOf(c.g), single, ok, c.single)
	}
}

func TestEternalFamiliesByHand(t *testing.T) {
	row, five, none := inRow(3), cycle(5, 5), [][]int{{}}
	for _, c := range []struct {
		g      impl.Graph
		k      int
		once   [][]int // nil if there is none
		single [][]int
	}{
		{graph(0), 0, none, none}, {graph(1), 0, nil, nil}, {graph(1), 1, [][]int{{0}}, [][]int{{0}}}, {row, 0, nil, nil}, {row, 1, nil, nil}, {row, 2, [][]int{{0, 1}, {0, 2}, {1, 2}}, [][]int{{0, 1}, {0, 2}, {1, 2}}}, {row, 3, [][]int{nodesOf(3)}, [][]int{nodesOf(3)}},
		{inRow(4), 2, [][]int{{0, 2}, {0, 3}, {1, 2}, {1, 3}}, [][]int{{0, 2}, {0, 3}, {1, 2}, {1, 3}}}, {five, 2, [][]int{{0, 2}, {0, 3}, {1, 3}, {1, 4}, {2, 4}}, nil}, {star(4, 0), 2, [][]int{{0, 1}, {0, 2}, {0, 3}}, nil}, {star(4, 0), 1, nil, nil},
		{complete(8), 1, [][]int{{0}, {1}, {2}, {3}, {4}, {5}, {6}, {7}}, [][]int{{0}, {1}, {2}, {3}, {4}, {5}, {6}, {7}}}, {graph(8), 7, nil, nil}, {graph(8), 8, [][]int{nodesOf(8)}, [][]int{nodesOf(8)}}, {graph(3, 0, 1), 2, [][]int{{0, 2}, {1, 2}}, [][]int{{0, 2}, {1, 2}}},
	} {
		for all, want := range map[bool][][]int{true: c.once, false: c.single} {
			if want == nil {
				checkFails(t, "EternalFamily", impl.EternalFamily, c.g, c.k, all)
				continue
			}
			family, ok := impl.EternalFamily(c.g, c.k, all)
			checkTable(t, "family by hand of "+textOf(c.g), family, ok, want)
			checkFamily(t, "by hand", c.g, family, all)
		}
	}
}

// checkFamily compares what is told of lists with the test's own, and returns whether they are a family.
func checkFamily(t *testing.T, name string, g impl.Graph, lists [][]int, all bool) bool {
	t.Helper()
	is := isEternalBy(g, lists, all)
	got, ok := impl.IsEternalFamily(g, lists, all)
	if !ok || got != is {
		t.Errorf("%s, family of %s, all %v, %v: got %v, %v, want %v", name, textOf(g), all, lists, got, ok, is)
	}
	return is
}

func TestListsAsFamiliesByHand(t *testing.T) {
	row, five, all := inRow(3), cycle(5, 5), [][]int{{0, 1}, {0, 2}, {1, 2}}
	for _, c := range []struct {
		name   string
		g      impl.Graph
		lists  [][]int
		once   bool
		single bool
	}{
		{"no sets", row, nil, false, false}, {"no sets of no nodes", graph(0), nil, false, false}, {"the set without nodes", row, [][]int{{}}, false, false}, {"the set without nodes of no nodes", graph(0), [][]int{{}}, true, true},
		{"the set without nodes of no nodes, twice", graph(0), [][]int{nil, {}}, true, true}, {"the set without nodes of one node", graph(1), [][]int{{}}, false, false}, {"one node", graph(1), [][]int{{0}}, true, true}, {"one set of all nodes", row, [][]int{nodesOf(3)}, true, true},
		{"one set of all nodes, twice", row, [][]int{nodesOf(3), nodesOf(3)}, true, true}, {"one set", row, [][]int{{0, 2}}, false, false}, {"one set that is dominating", row, [][]int{{1}}, false, false}, {"all sets", row, all, true, true}, {"all sets in another order", row, [][]int{{1, 2}, {0, 1}, {0, 2}}, true, true},
		{"two sets", row, [][]int{{0, 2}, {1, 2}}, true, true}, {"two other sets", row, [][]int{{0, 1}, {0, 2}}, true, true}, {"two sets in another order, one twice", row, [][]int{{1, 2}, {0, 2}, {1, 2}}, true, true},
		{"two sets that are answers of each other all at once", row, [][]int{{0, 1}, {1, 2}}, true, false}, {"different sizes", row, [][]int{{0, 2}, {1, 2}, {0, 1, 2}}, false, false}, {"different sizes, the set of all nodes first", row, [][]int{nodesOf(3), {0, 2}, {1, 2}}, false, false},
		{"different sizes, the set without nodes", row, [][]int{{0, 2}, {1, 2}, nil}, false, false}, {"different sizes, the set without nodes first", row, [][]int{nil, {0, 2}, {1, 2}}, false, false}, {"a list that is not ascending", row, [][]int{{0, 2}, {2, 1}}, false, false}, {"a list that is not ascending, too", row, [][]int{{0, 2}, {1, 2}, {2, 0}}, false, false},
		{"a node twice", row, [][]int{{0, 2}, {1, 2}, {1, 1}}, false, false}, {"a node that is not there", row, [][]int{{0, 2}, {1, 2}, {1, 3}}, false, false}, {"a negative node", row, [][]int{{-1, 0}, {0, 2}, {1, 2}}, false, false}, {"a node far away", row, [][]int{{0, 2}, {1, 2}, {0, math.MaxInt}}, false, false},
		{"the least number", row, [][]int{{0, 2}, {1, 2}, {math.MinInt, 0}}, false, false}, {"a node of no nodes", graph(0), [][]int{{0}}, false, false}, {"a set too many that holds", five, [][]int{{0, 2}, {0, 3}, {1, 3}, {1, 4}, {2, 4}}, true, false},
		{"a set too many that does not hold", five, [][]int{{0, 1}, {0, 2}, {0, 3}, {1, 3}, {1, 4}, {2, 4}}, false, false}, {"a set less that holds, too", five, [][]int{{0, 2}, {0, 3}, {1, 3}, {1, 4}}, true, false}, {"a set missing", five, [][]int{{0, 2}, {1, 3}}, false, false}, {"four of a complete Graph", complete(5), [][]int{{0}, {1}, {2}, {3}}, false, false},
		{"all of a complete Graph", complete(5), [][]int{{4}, {0}, {1}, {3}, {2}}, true, true}, {"many sets", row, slices.Repeat(all, 1<<18), true, true}, {"many empty sets", row, make([][]int, 1<<20), false, false}, {"many empty sets of no nodes", graph(0), make([][]int, 1<<20), true, true}, {"a long list", row, [][]int{nodesOf(1 << 20)}, false, false},
	} {
		once, ok := impl.IsEternalFamily(c.g, c.lists, true)
		checkTold(t, "all at once: "+c.name, once, ok, c.once)
		single, ok := impl.IsEternalFamily(c.g, c.lists, false)
		checkTold(t, "one at a time: "+c.name, single, ok, c.single)
	}
}

func TestAttacksByHand(t *testing.T) {
	row, five, other := inRow(3), cycle(5, 5), renamedPendant()
	for _, c := range []struct {
		name   string
		g      impl.Graph
		set    []int
		all    bool
		attack int
	}{
		{"no guards of one node", graph(1), nil, true, 0}, {"no guards", complete(8), nil, false, 0}, {"no edges", graph(3), nil, true, 0}, {"no edges, the first one", graph(3), []int{0}, false, 1}, {"no edges, the last one", graph(3), []int{0, 1}, true, 2},
		{"no edges, the middle", graph(3), []int{0, 2}, false, 1}, {"a tie of two ends", row, []int{1}, true, 0}, {"behind one that can be answered", row, []int{0}, false, 2}, {"ahead of one that can be answered", row, []int{2}, false, 0}, {"a star", star(4, 0), []int{0}, true, 1},
		{"a star, two guards", star(4, 0), []int{0, 1}, false, 2}, {"a star, behind its middle", star(4, 0), []int{1}, true, 2}, {"a cycle, the node between", five, []int{0, 2}, false, 1}, {"a cycle, the node between, later", five, []int{1, 3}, false, 2}, {"a cycle, the node between, at its end", five, []int{0, 3}, false, 4},
		{"behind one that leaves nothing", graph(3, 0, 1), []int{0}, true, 2}, {"a cycle, one that cannot be answered", five, []int{0, 1}, true, 3}, {"a tie of three", pendant(), []int{0, 1}, false, 2}, {"one that leaves least", pendant(), []int{0, 2}, false, 3}, {"a tie of three, renamed", other, []int{3, 4}, false, 0},
	} {
		worst, ok := impl.WorstAttack(c.g, c.set, c.all)
		checkNumber(t, "worst attack: "+c.name, worst, ok, c.attack)
	}
	for _, c := range []struct {
		name   string
		g      impl.Graph
		set    []int
		attack int
		once   []int // nil if there is none
		single []int
	}{
		{"no guards", graph(1), nil, 0, nil, nil}, {"no edges", graph(3), []int{0, 1}, 2, nil, nil}, {"no guard reaches it", row, []int{0}, 2, nil, nil}, {"one guard", row, []int{1}, 0, []int{0}, []int{0}}, {"one of two that are eternal", row, []int{0, 2}, 1, []int{0, 1}, []int{0, 1}},
		{"one of two that are not", five, []int{0, 1}, 2, []int{0, 2}, []int{0, 2}}, {"the third one all at once", five, []int{0, 2}, 1, []int{1, 3}, []int{0, 1}}, {"the only eternal one", star(4, 0), []int{1, 2}, 0, []int{0, 1}, []int{0, 1}}, {"a star", star(4, 0), []int{0, 1}, 2, []int{0, 2}, []int{1, 2}},
		{"the first one", pendant(), []int{0, 1}, 2, []int{0, 2}, []int{0, 2}}, {"the second one", other, []int{3, 4}, 2, []int{2, 4}, []int{2, 4}},
	} {
		for all, want := range map[bool][]int{true: c.once, false: c.single} {
			if want == nil {
				checkFails(t, "BestAnswer: "+c.name, impl.BestAnswer, c.g, c.set, c.attack, all)
				continue
			}
			best, ok := impl.BestAnswer(c.g, c.set, c.attack, all)
			checkList(t, "best answer: "+c.name, best, ok, want)
		}
	}
}

func TestPlaysOfAttacksByHand(t *testing.T) {
	row, zeros := inRow(3), make([]int, 30)
	there, back := []int{0, 2}, []int{0, 1}
	for _, c := range []struct {
		name    string
		g       impl.Graph
		set     []int
		attacks []int
		all     bool
		played  [][]int
	}{
		{"no attacks", row, back, nil, true, nil}, {"no attacks and no guards", row, nil, nil, false, nil}, {"two attacks", row, back, []int{2, 1}, false, [][]int{there, back}}, {"two attacks all at once", row, back, []int{2, 1}, true, [][]int{there, back}},
		{"attacks at guards", row, back, []int{0, 2, 2, 0}, false, [][]int{back, there, there, there}}, {"attacks at guards only", row, back, []int{0, 1, 0}, true, [][]int{back, back, back}}, {"one that is at no node", row, back, []int{2, 3, 1}, false, [][]int{there}},
		{"one that is negative", row, back, []int{2, 0, -1, 1}, true, [][]int{there, there}}, {"the first one is at no node", row, back, []int{3, 2}, false, nil}, {"far numbers", row, back, []int{1, math.MaxInt, 1}, true, [][]int{back}}, {"far numbers below", row, back, []int{math.MinInt}, true, nil},
		{"one that cannot be answered", row, []int{1}, []int{0, 2, 1}, false, [][]int{{0}}}, {"guards ahead of one that cannot be answered, and behind it", row, []int{1}, []int{1, 0, 0, 2, 0}, true, [][]int{{1}, {0}, {0}}}, {"the first one cannot be answered", row, []int{0}, []int{2, 0}, false, nil},
		{"no guards", graph(2), nil, []int{0, 1}, true, nil}, {"no nodes", graph(0), nil, []int{0}, true, nil}, {"guards at all nodes", graph(3), nodesOf(3), []int{2, 0, 1, 2}, false, [][]int{nodesOf(3), nodesOf(3), nodesOf(3), nodesOf(3)}},
		{"as long as it lasts", pendant(), []int{0, 1}, []int{2, 3, 4, 2}, false, [][]int{{0, 2}, {2, 3}}}, {"the worst answers", cycle(5, 5), []int{0, 2}, []int{1, 2, 4}, false, [][]int{{0, 1}, {0, 2}, {2, 4}}}, {"a star all at once", star(4, 0), []int{0, 3}, []int{1, 2, 3, 1}, true, [][]int{{0, 1}, {0, 2}, {0, 3}, {0, 1}}},
		{"MaxAttacks attacks at a guard", row, back, zeros, false, slices.Repeat([][]int{back}, 30)}, {"MaxAttacks attacks", row, back, slices.Repeat([]int{2, 1}, 15), false, slices.Repeat([][]int{there, back}, 15)}, {"MaxAttacks attacks that cannot be answered", graph(2), []int{1}, zeros, true, nil},
	} {
		played, ok := impl.PlayAttacks(c.g, c.set, c.attacks, c.all)
		checkTable(t, "play: "+c.name, played, ok, c.played)
	}
	for _, attacks := range [][]int{make([]int, 31), slices.Repeat([]int{2, 1}, 16), slices.Repeat([]int{-1}, 31), slices.Repeat([]int{9}, 32), make([]int, 1<<20)} {
		for _, all := range []bool{true, false} {
			for _, set := range [][]int{nil, {0}, {0, 1}, nodesOf(3)} {
				checkFails(t, "PlayAttacks", impl.PlayAttacks, row, set, attacks, all)
			}
			checkFails(t, "PlayAttacks", impl.PlayAttacks, graph(0), []int{}, attacks, all)
		}
	}
}

// checkAttacks compares what is told of a set of guards and attacks with the test's own.
func checkAttacks(t *testing.T, game guardGame, set []int) {
	t.Helper()
	g, all := game.g, game.all
	for _, attack := range game.attacksOn(set) {
		answers, ok := impl.GuardAnswers(g, set, attack, all)
		checkTable(t, "answers of "+game.name, answers, ok, game.answers(set, attack))
		want, strength := game.best(set, attack)
		if strength < 0 {
			checkFails(t, "BestAnswer of "+game.name, impl.BestAnswer, g, set, attack, all)
			continue
		}
		best, ok := impl.BestAnswer(g, set, attack, all)
		checkList(t, "best answer of "+game.name, best, ok, want)
	}
	for _, attack := range append(slices.Clone(set), -1, g.Size) {
		checkFails(t, "GuardAnswers of "+game.name, impl.GuardAnswers, g, set, attack, all)
		checkFails(t, "BestAnswer of "+game.name, impl.BestAnswer, g, set, attack, all)
	}
	if game.resistance(set) < 0 {
		checkFails(t, "WorstAttack of "+game.name, impl.WorstAttack, g, set, all)
		return
	}
	worst, ok := impl.WorstAttack(g, set, all)
	checkNumber(t, "worst attack of "+game.name, worst, ok, game.worst(set))
}

// checkPlays compares plays from a set with the test's own.
func checkPlays(t *testing.T, game guardGame, set []int) {
	t.Helper()
	far, near := make([]int, 30), make([]int, 30)
	bits := 1 + bitsBy(set)
	for i := range far {
		bits = bits * 48271 % 2147483647
		far[i], near[i] = bits%(game.g.Size+1), bits>>5%max(game.g.Size, 1)
	}
	for _, attacks := range [][]int{far, near, near[:len(near)/2], nodesOf(game.g.Size), set} {
		played, ok := impl.PlayAttacks(game.g, set, attacks, game.all)
		checkTable(t, "play of "+game.name, played, ok, game.played(set, attacks))
	}
}

// checkGuards compares what is told of all sets of guards, and what is told of some of them.
func checkGuards(t *testing.T, game guardGame, some [][]int) {
	t.Helper()
	sets, ok := impl.GuardSets(game.g, game.k)
	checkTable(t, "sets of "+game.name, sets, ok, game.sets)
	var wanted []int
	for _, set := range game.sets {
		wanted = append(wanted, game.resistance(set))
	}
	resistances, ok := impl.Resistances(game.g, game.k, game.all)
	checkList(t, "resistances of "+game.name, resistances, ok, wanted)
	if family := game.family(); len(family) > 0 {
		got, ok := impl.EternalFamily(game.g, game.k, game.all)
		checkTable(t, "family of "+game.name, got, ok, family)
		checkFamily(t, "sets that are eternal", game.g, family, game.all)
	} else {
		checkFails(t, "EternalFamily of "+game.name, impl.EternalFamily, game.g, game.k, game.all)
	}
	for _, set := range some {
		checkAttacks(t, game, set)
		checkPlays(t, game, set)
		for _, to := range game.sets {
			moves := slices.ContainsFunc(game.moves[bitsBy(set)], func(move []int) bool { return slices.Equal(move, to) })
			can, ok := impl.CanMoveGuards(game.g, set, to, game.all)
			checkTold(t, "move of "+game.name, can, ok, moves)
		}
	}
}

// checkEternalNumbers compares the eternal numbers with the least numbers of guards of games with sets
// that have the resistance -1.
func checkEternalNumbers(t *testing.T, g impl.Graph, games []guardGame) {
	t.Helper()
	for _, all := range []bool{true, false} {
		first := slices.IndexFunc(games, func(game guardGame) bool { return game.all == all && len(game.family()) > 0 })
		number, ok := impl.EternalNumber(g, all)
		checkNumber(t, "eternal number of "+textOf(g), number, ok, games[first].k)
	}
}

func TestGuardsOfSmallGraphs(t *testing.T) {
	t.Parallel()
	for _, g := range append(smallGraphs(4), eachOf(allGraphs(5), 5)...) {
		games := guardGamesBy(g)
		for _, game := range games {
			checkGuards(t, game, game.sets)
		}
		checkEternalNumbers(t, g, games)
	}
}

func TestGuardsOfGreatGraphs(t *testing.T) {
	t.Parallel()
	seen := map[bool][9]int{}
	for _, g := range guardGraphs() {
		games := guardGamesBy(g)
		for _, game := range games {
			checkGuards(t, game, eachOf(game.sets, 6))
			numbers := seen[game.all]
			for _, set := range game.sets {
				numbers[1+game.resistance(set)]++
			}
			seen[game.all] = numbers
		}
		checkEternalNumbers(t, g, games)
	}
	for number := -1; number <= 4; number++ {
		if seen[false][1+number] == 0 || number <= 2 && seen[true][1+number] == 0 {
			t.Error("no set with the resistance", number)
		}
	}
}

func TestResistancesOfAllKindsOfSixNodes(t *testing.T) {
	t.Parallel()
	for _, g := range append(differentGraphs(6), allGraphs(5)...) {
		games := guardGamesBy(g)
		for _, game := range games {
			checkGuards(t, game, nil)
		}
		checkEternalNumbers(t, g, games)
	}
}

// partsOfList returns all lists that have some elements of a list, in its order.
func partsOfList(list [][]int) [][][]int {
	var all [][][]int
	for _, places := range subsetsOf(len(list)) {
		var some [][]int
		for _, place := range places {
			some = append(some, list[place])
		}
		all = append(all, some)
	}
	return all
}

// checkAllFamilies compares the checker for all lists of sets of k nodes. It checks that they are parts
// of the EternalFamily if they are families, and that this is there if one of them is.
func checkAllFamilies(t *testing.T, game guardGame) map[bool]int {
	t.Helper()
	told := map[bool]int{}
	family, ok := impl.EternalFamily(game.g, game.k, game.all)
	for _, lists := range partsOfList(game.sets) {
		is := checkFamily(t, "some sets", game.g, lists, game.all)
		told[is]++
		outside := func(set []int) bool {
			return !slices.ContainsFunc(family, func(other []int) bool { return slices.Equal(other, set) })
		}
		if is && (!ok || slices.ContainsFunc(lists, outside)) {
			t.Error("a family that is no part of", family, ok, game.name, lists)
		}
	}
	if ok == (told[true] == 0) {
		t.Error("families and EternalFamily", game.name, family, told)
	}
	return told
}

func TestFamiliesOfAllSets(t *testing.T) {
	t.Parallel()
	told := map[bool]int{}
	for _, g := range append(smallGraphs(4), eachOf(differentGraphs(5), 3)...) {
		for _, game := range guardGamesBy(g) {
			for is, number := range checkAllFamilies(t, game) {
				told[is] += number
			}
		}
	}
	checkBoth(t, told, 1000)
}

func TestFamiliesOfAllLists(t *testing.T) {
	t.Parallel()
	told := map[bool]int{}
	for _, g := range smallGraphs(3) {
		for length := range 3 {
			for _, family := range chosenFrom(length, shortLists(g.Size)) {
				told[checkFamily(t, "some lists", g, family, true)]++
				told[checkFamily(t, "some lists", g, family, false)]++
			}
		}
	}
	checkBoth(t, told, 100)
}

func TestChangedFamilies(t *testing.T) {
	t.Parallel()
	told := map[bool]int{}
	for _, g := range append(eachOf(allGraphs(5), 101), eachOf(guardGraphs(), 3)...) {
		for _, all := range []bool{true, false} {
			number, _ := impl.EternalNumber(g, all)
			family, _ := impl.EternalFamily(g, number, all)
			for _, changed := range append(eachOf(changedSets(family, g.Size), 7), eachOf(changedBags(g.Size, family), 7)...) {
				told[checkFamily(t, "a changed family", g, changed, all)]++
			}
			sets, _ := impl.GuardSets(g, number)
			for i, set := range sets {
				told[checkFamily(t, "one set more", g, append(slices.Clone(family), set), all)]++
				told[checkFamily(t, "one set less", g, slices.Delete(slices.Clone(family), i%len(family), i%len(family)+1), all)]++
			}
			slices.Reverse(family)
			told[checkFamily(t, "backwards", g, append(family, family...), all)]++
		}
	}
	checkBoth(t, told, 30)
}

// checkPromise10 checks promise 10 between the functions.
func checkPromise10(t *testing.T, g impl.Graph) {
	t.Helper()
	few, one := impl.LeastDominating(g)
	once, two := impl.EternalNumber(g, true)
	many, three := impl.LargestIndependent(g)
	single, four := impl.EternalNumber(g, false)
	cover, five := impl.LeastCliqueCover(g)
	if !one || !two || !three || !four || !five || !slices.IsSorted([]int{len(few), once, len(many), single, len(cover)}) {
		t.Error("promise 10", textOf(g), few, once, many, single, cover)
	}
	dominating, one := impl.IsDominating(g, few)
	covers, two := impl.IsCliqueCover(g, cover)
	family, three := impl.CoverFamily(g, cover)
	eternal, four := impl.IsEternalFamily(g, family, false)
	if !one || !two || !three || !four || !dominating || !covers || !eternal || !isIndependentBy(g, many) {
		t.Error("sets of promise 10", textOf(g), few, many, cover, family)
	}
}

func TestPromise10OfSmallGraphs(t *testing.T) {
	t.Parallel()
	for _, g := range smallGraphs(5) {
		checkPromise10(t, g)
	}
	for _, g := range allGraphs(6) {
		checkPromise10(t, g)
	}
}

func TestPromise10OfGreatGraphs(t *testing.T) {
	t.Parallel()
	for _, g := range append(append(greatGraphs(), halvedGraphs()...), append(treeGraphs(), guardGraphs()...)...) {
		checkPromise10(t, g)
	}
}

func TestPromise10IsOfDifferentNumbers(t *testing.T) {
	apart := make([]bool, 3)
	for _, g := range append(differentGraphs(6), cycle(7, 7), star(8, 0)) {
		few, _ := impl.LeastDominating(g)
		once, _ := impl.EternalNumber(g, true)
		many, _ := impl.LargestIndependent(g)
		single, _ := impl.EternalNumber(g, false)
		for i, pair := range [][2]int{{len(few), once}, {once, len(many)}, {len(many), single}} {
			apart[i] = apart[i] || pair[0] < pair[1]
		}
	}
	if slices.Contains(apart, false) {
		t.Error(apart)
	}
}

// guardCall is a call of a function with some arguments.
type guardCall struct {
	name      string
	function  any
	arguments []any
}

// graphCallsOfGuards are the calls of a Graph alone, or with how guards move.
func graphCallsOfGuards(g impl.Graph) []guardCall {
	return []guardCall{
		{"LeastDominating", impl.LeastDominating, []any{g}}, {"LargestIndependent", impl.LargestIndependent, []any{g}}, {"LeastCliqueCover", impl.LeastCliqueCover, []any{g}},
		{"EternalNumber", impl.EternalNumber, []any{g, true}}, {"EternalNumber", impl.EternalNumber, []any{g, false}},
	}
}

// numberCallsOfGuards are the calls of a Graph and a number of guards.
func numberCallsOfGuards(g impl.Graph, k int) []guardCall {
	calls := []guardCall{{"GuardSets", impl.GuardSets, []any{g, k}}}
	for _, all := range []bool{true, false} {
		calls = append(calls, guardCall{"Resistances", impl.Resistances, []any{g, k, all}}, guardCall{"EternalFamily", impl.EternalFamily, []any{g, k, all}})
	}
	return calls
}

// setCallsOfGuards are the calls of a Graph, a set and attacks; the first one of these is that of
// GuardAnswers and BestAnswer.
func setCallsOfGuards(g impl.Graph, set []int, attacks []int) []guardCall {
	calls := []guardCall{{"IsDominating", impl.IsDominating, []any{g, set}}}
	for _, all := range []bool{true, false} {
		calls = append(calls, guardCall{"WorstAttack", impl.WorstAttack, []any{g, set, all}}, guardCall{"PlayAttacks", impl.PlayAttacks, []any{g, set, attacks, all}},
			guardCall{"GuardAnswers", impl.GuardAnswers, []any{g, set, attacks[0], all}}, guardCall{"BestAnswer", impl.BestAnswer, []any{g, set, attacks[0], all}})
	}
	return calls
}

// moveCallsOfGuards are the calls of a Graph and two sets.
func moveCallsOfGuards(g impl.Graph, from []int, to []int) []guardCall {
	return []guardCall{{"CanMoveGuards", impl.CanMoveGuards, []any{g, from, to, true}}, {"CanMoveGuards", impl.CanMoveGuards, []any{g, from, to, false}}}
}

// listCallsOfGuards are the calls of a Graph and lists.
func listCallsOfGuards(g impl.Graph, lists [][]int) []guardCall {
	return []guardCall{
		{"IsCliqueCover", impl.IsCliqueCover, []any{g, lists}}, {"CoverFamily", impl.CoverFamily, []any{g, lists}},
		{"IsEternalFamily", impl.IsEternalFamily, []any{g, lists, true}}, {"IsEternalFamily", impl.IsEternalFamily, []any{g, lists, false}},
	}
}

// checkAllFail checks that all calls fail.
func checkAllFail(t *testing.T, name string, calls []guardCall) {
	t.Helper()
	for _, call := range calls {
		checkFails(t, call.name+" of "+name, call.function, call.arguments...)
	}
}

func TestGuardsWithSetsThatAreNotValid(t *testing.T) {
	for _, g := range fewGraphs() {
		for _, set := range noSets(g.Size) {
			checkAllFail(t, "a list that is no set", setCallsOfGuards(g, set, []int{g.Size - 1}))
			checkAllFail(t, "a list that is no set", moveCallsOfGuards(g, set, set))
			checkAllFail(t, "a list that is no set", moveCallsOfGuards(g, set, nodesOf(min(len(set), g.Size))))
			checkAllFail(t, "a list that is no set", moveCallsOfGuards(g, nodesOf(min(len(set), g.Size)), set))
		}
	}
	for length := range 4 {
		for _, set := range listsOver(length, -1, 3) {
			if !isSetBy(3, set) {
				checkAllFail(t, "a list that is no set", setCallsOfGuards(inRow(3), set, []int{1}))
				for _, other := range subsetsOf(3) {
					checkAllFail(t, "a list that is no set", append(moveCallsOfGuards(inRow(3), set, other), moveCallsOfGuards(inRow(3), other, set)...))
				}
			}
		}
	}
}

func TestGuardsWithDifferentNumbersOfNodes(t *testing.T) {
	for _, g := range []impl.Graph{graph(1), graph(3), inRow(3), complete(4), cycle(5, 5)} {
		for _, from := range subsetsOf(g.Size) {
			for _, to := range subsetsOf(g.Size) {
				if len(from) != len(to) {
					checkAllFail(t, "different numbers", moveCallsOfGuards(g, from, to))
				}
			}
		}
	}
}

func TestOtherNumbersOfGuardsFail(t *testing.T) {
	for _, g := range fewGraphs() {
		for _, k := range append(farNumbers(g.Size), 9, 10, 64) {
			if k < 0 || k > g.Size {
				checkAllFail(t, "a number", numberCallsOfGuards(g, k))
			}
		}
		for k := range g.Size + 1 {
			_, one := impl.GuardSets(g, k)
			_, two := impl.Resistances(g, k, true)
			_, three := impl.Resistances(g, k, false)
			if !one || !two || !three {
				t.Error("number of guards", g, k)
			}
		}
	}
}

func TestAttacksAtNoNodeFail(t *testing.T) {
	for _, g := range fewGraphs() {
		for _, set := range eachOf(append(subsetsOf(g.Size), nil, nodesOf(g.Size)), 3) {
			for _, attack := range append(farNumbers(g.Size), set...) {
				for _, all := range []bool{true, false} {
					checkFails(t, "GuardAnswers", impl.GuardAnswers, g, set, attack, all)
					checkFails(t, "BestAnswer", impl.BestAnswer, g, set, attack, all)
				}
			}
		}
	}
}

func TestGuardsOnGraphsThatAreNotValid(t *testing.T) {
	for name, g := range brokenGraphs() {
		checkAllFail(t, name, graphCallsOfGuards(g))
		for k := -1; k <= 9; k++ {
			checkAllFail(t, name, numberCallsOfGuards(g, k))
		}
		all := nodesOf(min(max(g.Size, 0), 9))
		for _, set := range [][]int{nil, {0}, {0, 1}, {0, 2}, all, all[:len(all)/2]} {
			for _, attack := range []int{-1, 0, 1, 2, 7, g.Size - 1, g.Size} {
				checkAllFail(t, name, setCallsOfGuards(g, set, []int{attack}))
			}
			checkAllFail(t, name, setCallsOfGuards(g, set, make([]int, 31)))
			checkAllFail(t, name, moveCallsOfGuards(g, set, set))
			checkAllFail(t, name, moveCallsOfGuards(g, set, all))
			for _, lists := range [][][]int{nil, {set}, {set, set}, {nil, {0}, {1}}, {{0}, {1}}, {{0, 1}, {2}}, {all}} {
				checkAllFail(t, name, listCallsOfGuards(g, lists))
			}
		}
	}
}

// checkAllCalls makes calls and checks what holds for all functions.
func checkAllCalls(t *testing.T, calls []guardCall) {
	t.Helper()
	for _, call := range calls {
		checkCall(t, call.name, call.function, call.arguments...)
	}
}

// withRoom returns a list that has room behind it, which an append would write to, and a check that
// nothing was written there.
func withRoom(t *testing.T, list []int) ([]int, func()) {
	room := append(slices.Clone(list), -7, -8)
	return room[:len(list)], func() {
		t.Helper()
		if room[len(list)] != -7 || room[len(list)+1] != -8 {
			t.Fatal("written behind a list", room)
		}
	}
}

// checkGuardCalls makes all calls of a Graph with some lists.
func checkGuardCalls(t *testing.T, g impl.Graph) {
	t.Helper()
	checkAllCalls(t, graphCallsOfGuards(g))
	for k := -1; k <= 9; k++ {
		checkAllCalls(t, numberCallsOfGuards(g, k))
	}
	few, _ := impl.LeastDominating(g)
	cover, _ := impl.LeastCliqueCover(g)
	for _, list := range [][]int{few, nil, {0}, {1}, {0, 1}, {1, 0}, {0, 2}, {0, 0, 3}, {7}, {-1}, nodesOf(min(max(g.Size, 0), 9)), {1, 2, 3}} {
		set, checkSet := withRoom(t, list)
		for _, other := range [][]int{{1}, {2, 1, 0, 1, 2}, {0, 1, 1, 2}, {g.Size - 1, 0, g.Size}, make([]int, 30), make([]int, 31)} {
			attacks, checkAttacks := withRoom(t, other)
			checkAllCalls(t, setCallsOfGuards(g, set, attacks))
			checkAttacks()
		}
		for _, other := range [][]int{few, {1}, {1, 2}, {2, 1}, list} {
			to, checkTo := withRoom(t, other)
			checkAllCalls(t, moveCallsOfGuards(g, set, to))
			checkTo()
		}
		checkSet()
	}
	once, _ := impl.EternalFamily(g, 2, true)
	single, _ := impl.EternalFamily(g, min(max(g.Size, 0), 3), false)
	for _, lists := range [][][]int{cover, once, single, nil, {{}}, {{0}}, {{0}, {1}}, {{1}, {0}}, {{0, 1}, {2}}, {{1, 0}, {2}}, {{0}, {1, 2}}, {{0, 2}, {1}}, {nodesOf(min(max(g.Size, 0), 9))}} {
		checkListCalls(t, g, lists)
	}
}

// checkListCalls makes the calls of a Graph with lists that have room behind them.
func checkListCalls(t *testing.T, g impl.Graph, lists [][]int) {
	t.Helper()
	room := append(slices.Clone(lists), []int{-9})
	var checks []func()
	for i, list := range lists {
		given, check := withRoom(t, list)
		room[i] = given
		checks = append(checks, check)
	}
	checkAllCalls(t, listCallsOfGuards(g, room[:len(lists)]))
	for _, check := range checks {
		check()
	}
	if last := room[len(lists)]; len(last) != 1 || last[0] != -9 {
		t.Fatal("written behind lists", g, lists)
	}
}

func TestGuardsLeaveTheirArgumentsAlone(t *testing.T) {
	t.Parallel()
	graphs := append(smallGraphs(3), allGraphs(4)[20:30]...)
	graphs = append(append(graphs, greatGraphs()[:8]...), treeGraphs()[:2]...)
	checkWithRoom(t, append(graphs, cycle(8, 8), spider(), inRow(8), cycle(8, 5), sides()), checkGuardCalls)
}

// callAllOfGuards makes all calls of a Graph.
func callAllOfGuards(g impl.Graph) {
	impl.LeastDominating(g)
	impl.LargestIndependent(g)
	cover, _ := impl.LeastCliqueCover(g)
	impl.IsCliqueCover(g, cover)
	impl.CoverFamily(g, cover)
	for _, all := range []bool{true, false} {
		impl.EternalNumber(g, all)
		for k := range g.Size + 1 {
			sets, _ := impl.GuardSets(g, k)
			impl.Resistances(g, k, all)
			impl.EternalFamily(g, k, all)
			impl.IsEternalFamily(g, sets, all)
			for i, set := range eachOf(sets, 9) {
				impl.IsDominating(g, set)
				impl.CanMoveGuards(g, set, sets[i], all)
				impl.GuardAnswers(g, set, i%g.Size, all)
				impl.BestAnswer(g, set, i%g.Size, all)
				impl.WorstAttack(g, set, all)
				impl.PlayAttacks(g, set, slices.Repeat(nodesOf(3), 10), all)
			}
		}
	}
}

func TestGuardsReturnInTime(t *testing.T) {
	graphs := append(append(greatGraphs(), treeGraphs()...), halvedGraphs()...)
	checkInTime(t, func() {
		for _, g := range append(graphs, graph(8), inRow(8), complete(8)) {
			callAllOfGuards(g)
		}
		for _, long := range [][]int{nodesOf(1 << 20), make([]int, 1<<20)} {
			for _, g := range []impl.Graph{graph(8), complete(8)} {
				impl.IsDominating(g, long)
				for _, all := range []bool{true, false} {
					impl.CanMoveGuards(g, long, long, all)
					impl.GuardAnswers(g, long, 0, all)
					impl.BestAnswer(g, long, 0, all)
					impl.WorstAttack(g, long, all)
					impl.PlayAttacks(g, long, long, all)
					impl.PlayAttacks(g, []int{0}, long, all)
					impl.IsEternalFamily(g, [][]int{long}, all)
					impl.IsEternalFamily(g, make([][]int, 1<<20), all)
					impl.IsEternalFamily(g, slices.Repeat([][]int{{0}, {1}}, 1<<19), all)
				}
				impl.IsCliqueCover(g, [][]int{{0}, long})
				impl.CoverFamily(g, make([][]int, 1<<20))
			}
		}
	})
}
