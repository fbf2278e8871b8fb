package tests

import (
	"cmp"
	"math"
	"slices"
	"testing"

	"loop.example/g01109/impl"
)

// colours tells for each node whether it is coloured.
type colours [8]bool

func coloursOf(set []int) colours {
	var coloured colours
	for _, x := range set {
		coloured[x] = true
	}
	return coloured
}

// nodes returns the coloured nodes of a Graph of a Size.
func (coloured colours) nodes(size int) []int {
	return slices.DeleteFunc(nodesOf(size), func(x int) bool { return !coloured[x] })
}

// leftBy returns the neighbors of a node that are not coloured.
func leftBy(closed closedTable, size int, coloured colours, x int) []int {
	var left []int
	for y := range size {
		if y != x && closed[x][y] && !coloured[y] {
			left = append(left, y)
		}
	}
	return left
}

// roundBy plays one round, in which all nodes may force, or coloured ones only.
func roundBy(closed closedTable, size int, coloured colours, all bool) colours {
	next := coloured
	for x := range size {
		if left := leftBy(closed, size, coloured, x); len(left) == 1 && (all || coloured[x]) {
			next[left[0]] = true
		}
	}
	return next
}

// roundsBy plays rounds as long as they colour more. It returns the colours ahead of them and behind
// each one.
func roundsBy(g impl.Graph, coloured colours, all bool) []colours {
	closed := closedIn(g)
	rounds := []colours{coloured}
	for {
		next := roundBy(closed, g.Size, coloured, all)
		if next == coloured {
			return rounds
		}
		rounds = append(rounds, next)
		coloured = next
	}
}

// closureBy returns the closure of a set.
func closureBy(g impl.Graph, set []int) []int {
	rounds := roundsBy(g, coloursOf(set), false)
	return rounds[len(rounds)-1].nodes(g.Size)
}

// powerBy returns the power closure of a set.
func powerBy(g impl.Graph, set []int) []int {
	coloured := coloursOf(set)
	for x := range g.Size {
		for _, y := range set {
			coloured[x] = coloured[x] || nearIn(g, x, y)
		}
	}
	return closureBy(g, coloured.nodes(g.Size))
}

// skewBy returns the skew closure of a set.
func skewBy(g impl.Graph, set []int) []int {
	rounds := roundsBy(g, coloursOf(set), true)
	return rounds[len(rounds)-1].nodes(g.Size)
}

// numbersBy returns for each node the number of the round in which it is coloured.
func numbersBy(g impl.Graph, set []int) []int {
	numbers := slices.Repeat([]int{-1}, g.Size)
	for number, coloured := range roundsBy(g, coloursOf(set), false) {
		for _, x := range coloured.nodes(g.Size) {
			if numbers[x] < 0 {
				numbers[x] = number
			}
		}
	}
	return numbers
}

// chainsBy returns the chains of a forcing set: one node forces at a time, the least one that can.
func chainsBy(g impl.Graph, set []int) [][]int {
	closed, coloured := closedIn(g), coloursOf(set)
	forced := map[int]int{}
	for len(coloured.nodes(g.Size)) < g.Size {
		for _, x := range coloured.nodes(g.Size) {
			if left := leftBy(closed, g.Size, coloured, x); len(left) == 1 {
				forced[x] = left[0]
				coloured[left[0]] = true
				break
			}
		}
	}
	var chains [][]int
	for _, x := range set {
		chain := []int{x}
		for y, ok := forced[x]; ok; y, ok = forced[y] {
			chain = append(chain, y)
		}
		chains = append(chains, chain)
	}
	return chains
}

// endsBy returns the last nodes of chains as a set.
func endsBy(chains [][]int) []int {
	var ends []int
	for _, chain := range chains {
		ends = append(ends, chain[len(chain)-1])
	}
	slices.Sort(ends)
	return ends
}

// isFortBy tells whether a set has nodes, and no node outside of it has exactly one neighbor in it.
func isFortBy(closed closedTable, size int, set []int) bool {
	for x := range size {
		if !slices.Contains(set, x) && neighborsIn(closed, size, set, x, true) == 1 {
			return false
		}
	}
	return len(set) > 0
}

// compareSets compares sets by their numbers of nodes, and then lexicographically.
func compareSets(a []int, b []int) int {
	return cmp.Or(cmp.Compare(len(a), len(b)), slices.Compare(a, b))
}

// fortsBy returns the forts that have no other one in them.
func fortsBy(g impl.Graph) [][]int {
	var forts, least [][]int
	for _, set := range subsetsOf(g.Size) {
		if isFortBy(closedIn(g), g.Size, set) {
			forts = append(forts, set)
		}
	}
	for _, fort := range forts {
		inside := func(other []int) bool { return len(other) < len(fort) && bitsBy(other)&^bitsBy(fort) == 0 }
		if !slices.ContainsFunc(forts, inside) {
			least = append(least, fort)
		}
	}
	slices.SortFunc(least, compareSets)
	return least
}

// leastColouringBy returns the least one of all sets for which all nodes are coloured.
func leastColouringBy(g impl.Graph, closure func(g impl.Graph, set []int) []int) []int {
	least := nodesOf(g.Size)
	for _, set := range subsetsOf(g.Size) {
		if compareSets(set, least) < 0 && len(closure(g, set)) == g.Size {
			least = set
		}
	}
	return least
}

// leastSumBy returns the least sum of the numbers of nodes and rounds, over all forcing sets.
func leastSumBy(g impl.Graph) int {
	least := math.MaxInt
	for _, set := range subsetsOf(g.Size) {
		rounds := roundsBy(g, coloursOf(set), false)
		if len(rounds[len(rounds)-1].nodes(g.Size)) == g.Size {
			least = min(least, len(set)+len(rounds)-1)
		}
	}
	return least
}

// matrixBy returns the matrix of a Graph with a list.
func matrixBy(g impl.Graph, diagonal []int) [8][8]int {
	var matrix [8][8]int
	for x := range g.Size {
		for y := range g.Size {
			if nearIn(g, x, y) {
				matrix[x][y] = 1
			}
		}
		matrix[x][x] = diagonal[x]
	}
	return matrix
}

// determinants are those of the parts of a matrix, by their rows and columns as bits, modulo FieldSize.
type determinants struct {
	matrix [8][8]int
	known  map[[2]int]int
}

// of returns the determinant of as many rows as columns, by those of one row and one column less.
func (d determinants) of(rows int, columns int) int {
	if rows == 0 {
		return 1
	}
	key := [2]int{rows, columns}
	if known, ok := d.known[key]; ok {
		return known
	}
	row, sum, sign := 0, 0, 1
	for rows>>row&1 == 0 {
		row++
	}
	for column := range 8 {
		if columns>>column&1 == 1 {
			sum += sign * d.matrix[row][column] * d.of(rows&^(1<<row), columns&^(1<<column))
			sign = -sign
		}
	}
	d.known[key] = sum % 10007
	return d.known[key]
}

// nullityBy returns the Size less the greatest number of rows and columns whose determinant is not 0.
func nullityBy(g impl.Graph, diagonal []int) int {
	d := determinants{matrixBy(g, diagonal), map[[2]int]int{}}
	sets := subsetsOf(g.Size)
	rank := 0
	for _, rows := range sets {
		for _, columns := range sets {
			if len(rows) == len(columns) && len(rows) > rank && d.of(bitsBy(rows), bitsBy(columns)) != 0 {
				rank = len(rows)
			}
		}
	}
	return g.Size - rank
}

// matchingBy tries all sets of edges.
func matchingBy(g impl.Graph) int {
	most := 0
	for bits := range 1 << len(g.Edges) {
		used, number, apart := 0, 0, true
		for i, e := range g.Edges {
			if bits>>i&1 == 1 {
				pair := 1<<e[0] | 1<<e[1]
				apart = apart && used&pair == 0
				used |= pair
				number++
			}
		}
		if apart {
			most = max(most, number)
		}
	}
	return most
}

// matchingByParts returns the least number, over all sets, of the half of the nodes of the Graph and of
// the set less the parts with odd numbers of nodes without it. By the formula of Tutte and Berge, it is
// that of the matchings.
func matchingByParts(g impl.Graph) int {
	least := g.Size
	for _, set := range subsetsOf(g.Size) {
		odd := 0
		for _, part := range partsBy(g, set) {
			odd += len(part) % 2
		}
		least = min(least, (g.Size+len(set)-odd)/2)
	}
	return least
}

// forcingCalls are the functions of one Graph and a set.
func forcingCalls() map[string]any {
	return map[string]any{
		"ForceOnce": impl.ForceOnce, "ForceAll": impl.ForceAll, "ForceRounds": impl.ForceRounds, "IsForcing": impl.IsForcing,
		"ChainsOf": impl.ChainsOf, "ReversedSet": impl.ReversedSet, "IsFort": impl.IsFort, "FortOutside": impl.FortOutside,
		"PowerAll": impl.PowerAll, "SkewAll": impl.SkewAll,
	}
}

// leastCalls are the functions of one Graph.
func leastCalls() map[string]any {
	return map[string]any{
		"LeastForcing": impl.LeastForcing, "FortsOf": impl.FortsOf, "LeastPower": impl.LeastPower, "LeastSkew": impl.LeastSkew,
		"LeastSum": impl.LeastSum, "MatchingNumber": impl.MatchingNumber,
	}
}

func TestFieldOfForcing(t *testing.T) {
	if impl.FieldSize != 10007 {
		t.Error(impl.FieldSize)
	}
}

// checkRounds compares the rounds of a set with the test's own.
func checkRounds(t *testing.T, g impl.Graph, set []int) {
	t.Helper()
	name := textOf(g)
	rounds := roundsBy(g, coloursOf(set), false)
	once, ok := impl.ForceOnce(g, set)
	checkList(t, "once in "+name, once, ok, rounds[min(1, len(rounds)-1)].nodes(g.Size))
	all, ok := impl.ForceAll(g, set)
	checkList(t, "closure in "+name, all, ok, closureBy(g, set))
	numbers, ok := impl.ForceRounds(g, set)
	checkList(t, "rounds in "+name, numbers, ok, numbersBy(g, set))
	is, ok := impl.IsForcing(g, set)
	checkTold(t, "forcing in "+name, is, ok, len(all) == g.Size)
}

func TestRoundsByHand(t *testing.T) {
	row, full, one := inRow(4), complete(8), nodesOf(7)
	for _, c := range []struct {
		g      impl.Graph
		set    []int
		once   []int
		all    []int
		rounds []int
	}{
		{graph(0), nil, nil, nil, nil}, {graph(1), nil, nil, nil, []int{-1}}, {graph(1), []int{0}, []int{0}, []int{0}, []int{0}},
		{graph(3), nil, nil, nil, []int{-1, -1, -1}}, {graph(3), []int{1}, []int{1}, []int{1}, []int{-1, 0, -1}},
		{graph(8), nodesOf(8), nodesOf(8), nodesOf(8), make([]int, 8)}, {graph(8), nil, nil, nil, slices.Repeat([]int{-1}, 8)},
		{inRow(2), []int{1}, nodesOf(2), nodesOf(2), []int{1, 0}}, {inRow(2), nil, nil, nil, []int{-1, -1}},
		{row, nil, nil, nil, []int{-1, -1, -1, -1}}, {row, nodesOf(4), nodesOf(4), nodesOf(4), []int{0, 0, 0, 0}},
		{row, []int{0}, []int{0, 1}, nodesOf(4), []int{0, 1, 2, 3}}, {row, []int{3}, []int{2, 3}, nodesOf(4), []int{3, 2, 1, 0}},
		{row, []int{1}, []int{1}, []int{1}, []int{-1, 0, -1, -1}},
		// Several nodes are forced at once.
		{row, []int{1, 2}, nodesOf(4), nodesOf(4), []int{1, 0, 0, 1}}, {row, []int{0, 3}, nodesOf(4), nodesOf(4), []int{0, 1, 1, 0}},
		{inRow(8), []int{3, 4}, []int{2, 3, 4, 5}, nodesOf(8), []int{3, 2, 1, 0, 0, 1, 2, 3}},
		// One node is forced by several.
		{inRow(3), []int{0, 2}, nodesOf(3), nodesOf(3), []int{0, 1, 0}}, {inRow(5), []int{0, 4}, []int{0, 1, 3, 4}, nodesOf(5), []int{0, 1, 2, 1, 0}},
		{full, one, nodesOf(8), nodesOf(8), []int{0, 0, 0, 0, 0, 0, 0, 1}}, {full, nodesOf(6), nodesOf(6), nodesOf(6), []int{0, 0, 0, 0, 0, 0, -1, -1}},
		// A node that cannot force at first does so later.
		{inRow(5), []int{0, 2}, []int{0, 1, 2}, nodesOf(5), []int{0, 1, 0, 2, 3}}, {star(4, 0), []int{1, 2}, []int{0, 1, 2}, nodesOf(4), []int{1, 0, 0, 2}},
		{cycle(3, 3), []int{0}, []int{0}, []int{0}, []int{0, -1, -1}}, {cycle(3, 3), []int{0, 2}, nodesOf(3), nodesOf(3), []int{0, 1, 0}},
		{cycle(4, 4), []int{0}, []int{0}, []int{0}, []int{0, -1, -1, -1}}, {cycle(4, 4), []int{0, 2}, []int{0, 2}, []int{0, 2}, []int{0, -1, 0, -1}},
		{cycle(4, 4), []int{0, 1}, nodesOf(4), nodesOf(4), []int{0, 0, 1, 1}}, {cycle(6, 6), []int{0, 1}, []int{0, 1, 2, 5}, nodesOf(6), []int{0, 0, 1, 2, 2, 1}},
		{cycle(4, 3), []int{0, 1}, nodesOf(3), nodesOf(3), []int{0, 0, 1, -1}}, {cycle(4, 3), []int{3}, []int{3}, []int{3}, []int{-1, -1, -1, 0}},
		{star(4, 0), []int{0}, []int{0}, []int{0}, []int{0, -1, -1, -1}}, {star(4, 0), []int{1}, []int{0, 1}, []int{0, 1}, []int{1, 0, -1, -1}},
		{star(4, 0), []int{0, 1, 2}, nodesOf(4), nodesOf(4), []int{0, 0, 0, 1}}, {star(4, 3), []int{0}, []int{0, 3}, []int{0, 3}, []int{0, -1, -1, 1}},
		{graph(4, 0, 1, 2, 3), []int{0}, []int{0, 1}, []int{0, 1}, []int{0, 1, -1, -1}}, {graph(4, 0, 1, 2, 3), []int{1, 2}, nodesOf(4), nodesOf(4), []int{1, 0, 0, 1}},
		{spider(), []int{2}, []int{1, 2}, nodesOf(3), []int{2, 1, 0, -1, -1, -1, -1}}, {spider(), []int{2, 4}, []int{1, 2, 3, 4}, nodesOf(7), []int{2, 1, 0, 1, 0, 3, 4}},
		{cube(), []int{0, 1, 2, 3}, nodesOf(8), nodesOf(8), []int{0, 0, 0, 0, 1, 1, 1, 1}},
		{cube(), []int{0, 1, 2, 4}, []int{0, 1, 2, 4}, []int{0, 1, 2, 4}, []int{0, 0, 0, -1, 0, -1, -1, -1}},
	} {
		name := "by hand " + textOf(c.g)
		once, ok := impl.ForceOnce(c.g, c.set)
		checkList(t, "once "+name, once, ok, c.once)
		all, ok := impl.ForceAll(c.g, c.set)
		checkList(t, "closure "+name, all, ok, c.all)
		rounds, ok := impl.ForceRounds(c.g, c.set)
		checkList(t, "rounds "+name, rounds, ok, c.rounds)
		is, ok := impl.IsForcing(c.g, c.set)
		checkTold(t, "forcing "+name, is, ok, len(c.all) == c.g.Size)
		checkRounds(t, c.g, c.set)
	}
}

// checkChains compares the chains of a set, and the reversed set, with the test's own.
func checkChains(t *testing.T, g impl.Graph, set []int) {
	t.Helper()
	if len(closureBy(g, set)) < g.Size {
		checkFails(t, "ChainsOf", impl.ChainsOf, g, set)
		checkFails(t, "ReversedSet", impl.ReversedSet, g, set)
		return
	}
	want := chainsBy(g, set)
	chains, ok := impl.ChainsOf(g, set)
	checkTable(t, "chains in "+textOf(g), chains, ok, want)
	back, ok := impl.ReversedSet(g, set)
	checkList(t, "reversed in "+textOf(g), back, ok, endsBy(want))
	if len(closureBy(g, back)) < g.Size {
		t.Error("a reversed set is not forcing", g, set, back)
	}
}

func TestChainsByHand(t *testing.T) {
	for _, c := range []struct {
		g      impl.Graph
		set    []int
		chains [][]int
		back   []int
	}{
		{graph(0), nil, nil, nil}, {graph(1), []int{0}, [][]int{{0}}, []int{0}}, {graph(3), nodesOf(3), [][]int{{0}, {1}, {2}}, nodesOf(3)},
		{inRow(4), []int{0}, [][]int{{0, 1, 2, 3}}, []int{3}}, {inRow(4), []int{3}, [][]int{{3, 2, 1, 0}}, []int{0}},
		{inRow(4), nodesOf(4), [][]int{{0}, {1}, {2}, {3}}, nodesOf(4)}, {inRow(4), []int{1, 2}, [][]int{{1, 0}, {2, 3}}, []int{0, 3}},
		{inRow(8), []int{7}, [][]int{{7, 6, 5, 4, 3, 2, 1, 0}}, []int{0}},
		// Several nodes could force the same one.
		{inRow(3), []int{0, 2}, [][]int{{0, 1}, {2}}, []int{1, 2}}, {complete(4), []int{0, 1, 2}, [][]int{{0, 3}, {1}, {2}}, []int{1, 2, 3}},
		{complete(4), []int{1, 2, 3}, [][]int{{1, 0}, {2}, {3}}, []int{0, 2, 3}}, {cycle(4, 4), []int{0, 1}, [][]int{{0, 3}, {1, 2}}, []int{2, 3}},
		// In rounds of all at once, the last node would force, too.
		{inRow(5), []int{0, 4}, [][]int{{0, 1, 2, 3}, {4}}, []int{3, 4}}, {cycle(5, 5), []int{0, 4}, [][]int{{0, 1, 2, 3}, {4}}, []int{3, 4}},
		{cycle(4, 4), []int{2, 3}, [][]int{{2, 1, 0}, {3}}, []int{0, 3}}, {cycle(6, 6), []int{0, 1}, [][]int{{0, 5}, {1, 2, 3, 4}}, []int{4, 5}},
		{spider(), []int{2, 4}, [][]int{{2, 1, 0, 5, 6}, {4, 3}}, []int{3, 6}},
		// Node 0 cannot force at first, but can before node 2 does.
		{graph(4, 0, 2, 0, 3, 1, 2, 2, 3), []int{0, 1}, [][]int{{0, 3}, {1, 2}}, []int{2, 3}},
		{star(4, 0), []int{1, 2}, [][]int{{1, 0, 3}, {2}}, []int{2, 3}}, {star(5, 4), []int{0, 1, 3}, [][]int{{0, 4, 2}, {1}, {3}}, []int{1, 2, 3}},
		{graph(5, 0, 1, 2, 3), []int{1, 2, 4}, [][]int{{1, 0}, {2, 3}, {4}}, []int{0, 3, 4}},
		{cube(), []int{0, 1, 2, 3}, [][]int{{0, 4}, {1, 5}, {2, 6}, {3, 7}}, []int{4, 5, 6, 7}},
	} {
		chains, ok := impl.ChainsOf(c.g, c.set)
		checkTable(t, "chains by hand in "+textOf(c.g), chains, ok, c.chains)
		back, ok := impl.ReversedSet(c.g, c.set)
		checkList(t, "reversed by hand in "+textOf(c.g), back, ok, c.back)
		checkChains(t, c.g, c.set)
	}
	for _, g := range []impl.Graph{graph(1), graph(8), inRow(2), inRow(8), cycle(3, 3), cycle(8, 8), complete(8), star(5, 0), cube()} {
		for name, function := range map[string]any{"ChainsOf": impl.ChainsOf, "ReversedSet": impl.ReversedSet} {
			checkFails(t, name, function, g, []int{})
			if g.Size > 2 {
				checkFails(t, name, function, g, []int{1})
			}
		}
	}
}

func TestFortsByHand(t *testing.T) {
	row, apart := inRow(4), graph(3, 0, 1)
	for _, c := range []struct {
		g    impl.Graph
		set  []int
		want bool
	}{
		{graph(0), nil, false}, {graph(1), nil, false}, {graph(1), []int{0}, true}, {graph(8), nil, false}, {graph(8), []int{7}, true},
		{graph(8), nodesOf(8), true}, {inRow(2), nil, false}, {inRow(2), []int{0}, false}, {inRow(2), []int{0, 1}, true}, {inRow(3), []int{0, 2}, true},
		{inRow(3), []int{1}, false}, {inRow(3), []int{0, 1}, false}, {inRow(3), nodesOf(3), true}, {row, []int{0, 2}, false}, {row, []int{0, 3}, false},
		{row, []int{1, 2}, false}, {row, []int{0, 1, 3}, true}, {row, []int{0, 2, 3}, true}, {row, []int{0, 1, 2}, false}, {row, nodesOf(4), true},
		{apart, []int{2}, true}, {apart, []int{0}, false}, {apart, []int{0, 1}, true}, {apart, []int{0, 2}, false}, {apart, nodesOf(3), true},
		{cycle(3, 3), []int{0}, false}, {cycle(3, 3), []int{0, 2}, true}, {cycle(4, 4), []int{0, 2}, true}, {cycle(4, 4), []int{0, 1}, false},
		{cycle(4, 4), []int{0, 1, 2}, true}, {cycle(6, 6), []int{0, 2, 4}, true}, {cycle(6, 6), []int{0, 3}, false}, {cycle(5, 5), []int{0, 2}, false},
		{star(4, 0), []int{0}, false}, {star(4, 0), []int{1}, false}, {star(4, 0), []int{0, 1}, false}, {star(4, 0), []int{1, 3}, true},
		{star(4, 0), []int{1, 2, 3}, true}, {star(4, 0), []int{0, 1, 2}, false}, {complete(8), []int{6}, false}, {complete(8), []int{5, 7}, true},
		{spider(), []int{1, 2, 3, 4}, true}, {spider(), []int{0, 1, 3}, false}, {spider(), []int{0, 2, 4, 6}, true}, {cube(), []int{0, 3, 5, 6}, true}, {cube(), []int{0, 3}, false},
	} {
		is, ok := impl.IsFort(c.g, c.set)
		checkTold(t, "fort by hand in "+textOf(c.g), is, ok, c.want)
	}
	for _, c := range []struct {
		g     impl.Graph
		forts [][]int
	}{
		{graph(0), nil}, {graph(1), [][]int{{0}}}, {graph(3), [][]int{{0}, {1}, {2}}}, {inRow(2), [][]int{{0, 1}}}, {inRow(3), [][]int{{0, 2}}},
		{row, [][]int{{0, 1, 3}, {0, 2, 3}}}, {inRow(5), [][]int{{0, 2, 4}, {0, 1, 3, 4}}}, {apart, [][]int{{2}, {0, 1}}}, {graph(3, 1, 2), [][]int{{0}, {1, 2}}},
		{graph(4, 0, 3, 1, 2), [][]int{{0, 3}, {1, 2}}}, {cycle(3, 3), [][]int{{0, 1}, {0, 2}, {1, 2}}}, {cycle(4, 4), [][]int{{0, 2}, {1, 3}}},
		{star(4, 0), [][]int{{1, 2}, {1, 3}, {2, 3}}}, {star(4, 3), [][]int{{0, 1}, {0, 2}, {1, 2}}}, {complete(4), [][]int{{0, 1}, {0, 2}, {0, 3}, {1, 2}, {1, 3}, {2, 3}}},
		{cycle(5, 5), [][]int{{0, 1, 3}, {0, 2, 3}, {0, 2, 4}, {1, 2, 4}, {1, 3, 4}}},
	} {
		forts, ok := impl.FortsOf(c.g)
		checkTable(t, "forts by hand of "+textOf(c.g), forts, ok, c.forts)
		checkTable(t, "forts by hand, own search of "+textOf(c.g), fortsBy(c.g), true, c.forts)
	}
}

func TestFortsOutsideByHand(t *testing.T) {
	for _, c := range []struct {
		g   impl.Graph
		set []int
		out []int
	}{
		{graph(1), nil, []int{0}}, {graph(8), nil, nodesOf(8)}, {graph(8), nodesOf(7), []int{7}}, {inRow(3), []int{1}, []int{0, 2}}, {inRow(3), nil, nodesOf(3)},
		{star(4, 0), []int{1}, []int{2, 3}}, {cycle(4, 4), []int{0}, []int{1, 2, 3}}, {cycle(4, 4), []int{1, 3}, []int{0, 2}}, {graph(4, 0, 1, 2, 3), []int{2}, []int{0, 1}},
		{spider(), []int{2}, []int{3, 4, 5, 6}}, {complete(8), nodesOf(6), []int{6, 7}}, {cube(), []int{0, 1, 2, 4}, []int{3, 5, 6, 7}},
	} {
		out, ok := impl.FortOutside(c.g, c.set)
		checkList(t, "fort outside by hand in "+textOf(c.g), out, ok, c.out)
	}
	for _, c := range []struct {
		g   impl.Graph
		set []int
	}{
		{graph(0), nil}, {graph(1), []int{0}}, {graph(8), nodesOf(8)}, {inRow(3), []int{0}}, {inRow(8), []int{3, 4}}, {cycle(4, 4), []int{0, 1}},
		{complete(8), nodesOf(7)}, {cube(), []int{0, 1, 2, 3}}, {spider(), []int{2, 4}},
	} {
		checkFails(t, "FortOutside of "+textOf(c.g), impl.FortOutside, c.g, c.set)
	}
}

func TestPowerAndSkewClosuresByHand(t *testing.T) {
	apart := graph(4, 0, 1, 2, 3)
	for _, c := range []struct {
		g     impl.Graph
		set   []int
		power []int
		skew  []int
	}{
		{graph(0), nil, nil, nil}, {graph(1), nil, nil, nil}, {graph(1), []int{0}, []int{0}, []int{0}}, {graph(3), []int{1}, []int{1}, []int{1}},
		{graph(8), nil, nil, nil}, {graph(8), nodesOf(8), nodesOf(8), nodesOf(8)},
		// No node is coloured at first, but those with one neighbor force it.
		{inRow(2), nil, nil, nodesOf(2)}, {inRow(3), nil, nil, []int{1}}, {inRow(4), nil, nil, nodesOf(4)}, {inRow(5), nil, nil, []int{1, 3}}, {inRow(8), nil, nil, nodesOf(8)},
		{star(4, 0), nil, nil, []int{0}}, {star(4, 3), nil, nil, []int{3}}, {spider(), nil, nil, []int{1, 3, 5}}, {apart, nil, nil, nodesOf(4)}, {graph(3, 0, 1), nil, nil, []int{0, 1}},
		{cycle(3, 3), nil, nil, nil}, {cycle(4, 4), nil, nil, nil}, {complete(8), nil, nil, nil}, {cube(), nil, nil, nil},
		{inRow(2), []int{0}, nodesOf(2), nodesOf(2)}, {inRow(3), []int{0}, nodesOf(3), nodesOf(3)}, {inRow(3), []int{1}, nodesOf(3), []int{1}},
		{inRow(8), []int{3}, nodesOf(8), nodesOf(8)}, {inRow(5), []int{0}, nodesOf(5), nodesOf(5)}, {inRow(5), []int{1}, nodesOf(5), []int{1, 3}},
		{cycle(3, 3), []int{0}, nodesOf(3), nodesOf(3)}, {cycle(4, 4), []int{0}, nodesOf(4), []int{0, 2}}, {cycle(4, 4), []int{0, 1}, nodesOf(4), nodesOf(4)},
		{cycle(5, 5), []int{0}, nodesOf(5), nodesOf(5)}, {cycle(6, 6), []int{0}, nodesOf(6), []int{0, 2, 4}}, {cycle(8, 8), []int{5}, nodesOf(8), []int{1, 3, 5, 7}},
		{complete(4), []int{0}, nodesOf(4), []int{0}}, {complete(4), []int{0, 2}, nodesOf(4), nodesOf(4)}, {complete(8), []int{5}, nodesOf(8), []int{5}},
		{star(5, 0), []int{0}, nodesOf(5), []int{0}}, {star(5, 0), []int{1}, []int{0, 1}, []int{0, 1}}, {star(4, 0), []int{1, 2}, nodesOf(4), nodesOf(4)},
		{spider(), []int{0}, nodesOf(7), nodesOf(7)}, {spider(), []int{2}, nodesOf(3), nodesOf(7)}, {apart, []int{0}, []int{0, 1}, nodesOf(4)},
		{cube(), []int{0}, []int{0, 1, 2, 4}, []int{0}}, {cube(), []int{0, 3}, nodesOf(8), []int{0, 3, 5, 6}},
	} {
		power, ok := impl.PowerAll(c.g, c.set)
		checkList(t, "power by hand in "+textOf(c.g), power, ok, c.power)
		skew, ok := impl.SkewAll(c.g, c.set)
		checkList(t, "skew by hand in "+textOf(c.g), skew, ok, c.skew)
	}
}

func TestLeastSetsByHand(t *testing.T) {
	for _, c := range []struct {
		g       impl.Graph
		forcing []int
		power   []int
		skew    []int
		sum     int
	}{
		{graph(0), nil, nil, nil, 0}, {graph(1), []int{0}, []int{0}, []int{0}, 1}, {graph(3), nodesOf(3), nodesOf(3), nodesOf(3), 3},
		{graph(8), nodesOf(8), nodesOf(8), nodesOf(8), 8}, {inRow(2), []int{0}, []int{0}, nil, 2}, {inRow(3), []int{0}, []int{0}, []int{0}, 3},
		// Sets with more nodes than the least forcing one have the less sum, such as 1 and 2.
		{inRow(4), []int{0}, []int{0}, nil, 3}, {inRow(8), []int{0}, []int{0}, nil, 5}, {inRow(5), []int{0}, []int{0}, []int{0}, 4},
		{spider(), []int{1, 4}, []int{0}, []int{0}, 5},
		// Each two neighbors would do in a cycle.
		{cycle(3, 3), []int{0, 1}, []int{0}, []int{0}, 3}, {cycle(4, 4), []int{0, 1}, []int{0}, []int{0, 1}, 3}, {cycle(5, 5), []int{0, 1}, []int{0}, []int{0}, 4},
		{cycle(6, 6), []int{0, 1}, []int{0}, []int{0, 1}, 4}, {cycle(8, 8), []int{0, 1}, []int{0}, []int{0, 1}, 5}, {cycle(5, 3), []int{0, 1, 3, 4}, []int{0, 3, 4}, []int{0, 3, 4}, 5},
		{complete(4), []int{0, 1, 2}, []int{0}, []int{0, 1}, 4}, {complete(8), nodesOf(7), []int{0}, nodesOf(6), 8},
		{star(4, 0), []int{1, 2}, []int{0}, []int{1, 2}, 4}, {star(5, 0), []int{1, 2, 3}, []int{0}, []int{1, 2, 3}, 5}, {star(5, 4), []int{0, 1, 2}, []int{4}, []int{0, 1, 2}, 5},
		{star(3, 2), []int{0}, []int{0}, []int{0}, 3}, {graph(3, 0, 1), []int{0, 2}, []int{0, 2}, []int{2}, 3}, {graph(3, 1, 2), []int{0, 1}, []int{0, 1}, []int{0}, 3},
		{graph(4, 0, 1, 2, 3), []int{0, 2}, []int{0, 2}, nil, 3}, {graph(4, 0, 3, 1, 2), []int{0, 1}, []int{0, 1}, nil, 3},
		{cube(), nodesOf(4), []int{0, 1}, []int{0, 1, 2, 3}, 5}, {sides(), []int{0, 1, 2, 4, 5, 6}, []int{0, 4}, []int{0, 1, 2, 4, 5, 6}, 7},
	} {
		name := "by hand of " + textOf(c.g)
		forcing, ok := impl.LeastForcing(c.g)
		checkList(t, "forcing "+name, forcing, ok, c.forcing)
		power, ok := impl.LeastPower(c.g)
		checkList(t, "power "+name, power, ok, c.power)
		skew, ok := impl.LeastSkew(c.g)
		checkList(t, "skew "+name, skew, ok, c.skew)
		sum, ok := impl.LeastSum(c.g)
		checkNumber(t, "sum "+name, sum, ok, c.sum)
		checkLeast(t, c.g)
	}
}

// checkLeast compares the least sets of a Graph with the test's own.
func checkLeast(t *testing.T, g impl.Graph) {
	t.Helper()
	forcing, ok := impl.LeastForcing(g)
	checkList(t, "forcing "+textOf(g), forcing, ok, leastColouringBy(g, closureBy))
	power, ok := impl.LeastPower(g)
	checkList(t, "power "+textOf(g), power, ok, leastColouringBy(g, powerBy))
	skew, ok := impl.LeastSkew(g)
	checkList(t, "skew "+textOf(g), skew, ok, leastColouringBy(g, skewBy))
	sum, ok := impl.LeastSum(g)
	checkNumber(t, "sum "+textOf(g), sum, ok, leastSumBy(g))
}

// checkSets compares what is told of all sets of a Graph with the test's own.
func checkSets(t *testing.T, g impl.Graph) {
	t.Helper()
	closed := closedIn(g)
	for _, set := range subsetsOf(g.Size) {
		checkRounds(t, g, set)
		checkChains(t, g, set)
		fort, ok := impl.IsFort(g, set)
		checkTold(t, "fort in "+textOf(g), fort, ok, isFortBy(closed, g.Size, set))
		power, ok := impl.PowerAll(g, set)
		checkList(t, "power in "+textOf(g), power, ok, powerBy(g, set))
		skew, ok := impl.SkewAll(g, set)
		checkList(t, "skew in "+textOf(g), skew, ok, skewBy(g, set))
		out := slices.DeleteFunc(nodesOf(g.Size), func(x int) bool { return slices.Contains(closureBy(g, set), x) })
		if len(out) == 0 {
			checkFails(t, "FortOutside of "+textOf(g), impl.FortOutside, g, set)
			continue
		}
		got, ok := impl.FortOutside(g, set)
		checkList(t, "fort outside in "+textOf(g), got, ok, out)
		if !isFortBy(closed, g.Size, out) {
			t.Error("no fort", g, set, out)
		}
	}
	forts, ok := impl.FortsOf(g)
	checkTable(t, "forts of "+textOf(g), forts, ok, fortsBy(g))
}

func TestForcingOfAllSetsOfSmallGraphs(t *testing.T) {
	t.Parallel()
	for _, g := range smallGraphs(5) {
		checkSets(t, g)
		checkLeast(t, g)
	}
}

// forcingGraphs returns some Graphs of six to MaxSize nodes.
func forcingGraphs() []impl.Graph {
	graphs := append(eachOf(allGraphs(6), 401), eachOf(greatGraphs(), 3)...)
	graphs = append(graphs, eachOf(treeGraphs(), 9)...)
	return append(graphs, graph(8), inRow(8), cycle(8, 8), cycle(8, 7), complete(8), star(7, 3), star(8, 0), star(8, 7), spider(), cube(), ladder(), sides())
}

func TestForcingOfAllSetsOfGreatGraphs(t *testing.T) {
	t.Parallel()
	for _, g := range forcingGraphs() {
		checkSets(t, g)
		checkLeast(t, g)
	}
}

// checkForcingPromise checks promise 9, and what the document says beside it, between the functions.
func checkForcingPromise(t *testing.T, g impl.Graph) {
	t.Helper()
	var least []int
	forts, ok := impl.FortsOf(g)
	for _, fort := range forts {
		least = append(least, bitsBy(fort))
	}
	for _, set := range subsetsOf(g.Size) {
		bits := bitsBy(set)
		missed := slices.ContainsFunc(least, func(fort int) bool { return fort&bits == 0 })
		if forcing, told := impl.IsForcing(g, set); !ok || !told || forcing == missed {
			t.Error("promise 9", g, set, forcing, forts)
		}
	}
	forcing, one := impl.LeastForcing(g)
	skew, two := impl.LeastSkew(g)
	pairs, three := impl.MatchingNumber(g)
	if !one || !two || !three || len(skew) < g.Size-2*pairs {
		t.Error("skew forcing and matching", g, skew, pairs)
	}
	degrees, _ := impl.DegreesOf(g)
	if g.Size > 0 && len(forcing) < slices.Min(degrees) {
		t.Error("forcing and neighbors", g, forcing)
	}
	for _, number := range []int{0, 1, 2, 10006} {
		nullity, ok := impl.NullityOf(g, slices.Repeat([]int{number}, g.Size))
		if !ok || nullity > len(forcing) {
			t.Error("forcing and nullity", g, number, forcing, nullity)
		}
	}
}

func TestPromise9OfSmallGraphs(t *testing.T) {
	t.Parallel()
	for _, g := range append(smallGraphs(5), allGraphs(6)...) {
		checkForcingPromise(t, g)
	}
}

func TestPromise9OfGreatGraphs(t *testing.T) {
	t.Parallel()
	for _, g := range append(append(greatGraphs(), halvedGraphs()...), treeGraphs()...) {
		checkForcingPromise(t, g)
	}
}

// checkClosures checks what the document says of the closures of greater sets, and of sets whose
// complement is a fort.
func checkClosures(t *testing.T, g impl.Graph) {
	t.Helper()
	closed, sets := closedIn(g), subsetsOf(g.Size)
	for name, closure := range map[string]func(g impl.Graph, set []int) ([]int, bool){"ForceAll": impl.ForceAll, "PowerAll": impl.PowerAll, "SkewAll": impl.SkewAll} {
		all := make([]int, len(sets))
		for _, set := range sets {
			nodes, ok := closure(g, set)
			again, _ := impl.ForceAll(g, nodes)
			all[bitsBy(set)] = bitsBy(nodes)
			if !ok || bitsBy(set)&^bitsBy(nodes) != 0 || !slices.Equal(again, nodes) {
				t.Error(name, g, set, nodes, again)
			}
		}
		for bits, nodes := range all {
			for x := range g.Size {
				if all[bits&^(1<<x)]&^nodes != 0 {
					t.Error(name, "of a greater set", g, bits, x)
				}
			}
		}
	}
	for _, set := range sets {
		others := slices.DeleteFunc(nodesOf(g.Size), func(x int) bool { return slices.Contains(set, x) })
		if isFortBy(closed, g.Size, others) {
			all, ok := impl.ForceAll(g, set)
			checkList(t, "closure beside a fort", all, ok, set)
		}
	}
}

func TestGuaranteesOfClosures(t *testing.T) {
	t.Parallel()
	for _, g := range append(smallGraphs(5), forcingGraphs()...) {
		checkClosures(t, g)
	}
}

func TestNullitiesByHand(t *testing.T) {
	zeros, ones := make([]int, 8), slices.Repeat([]int{1}, 8)
	same := func(size int, number int) []int { return slices.Repeat([]int{number}, size) }
	for _, c := range []struct {
		g        impl.Graph
		diagonal []int
		want     int
	}{
		{graph(0), nil, 0}, {graph(0), []int{}, 0}, {graph(1), []int{0}, 1}, {graph(1), []int{1}, 0}, {graph(1), []int{10006}, 0},
		{graph(3), []int{0, 5, 0}, 2}, {graph(8), zeros, 8}, {graph(8), ones, 0}, {graph(8), []int{1, 0, 10006, 0, 7, 0, 0, 2}, 4},
		// Rows want to be exchanged, as the first number is 0.
		{inRow(2), []int{0, 0}, 0}, {inRow(2), []int{0, 1}, 0}, {inRow(2), []int{0, 10006}, 0}, {graph(2), []int{0, 1}, 1}, {star(3, 2), []int{0, 0, 0}, 1},
		{star(3, 2), []int{0, 0, 4}, 1}, {star(3, 2), []int{0, 1, 0}, 0}, {graph(4, 0, 3, 1, 2), same(4, 0), 0}, {graph(5, 0, 4, 1, 2), same(5, 0), 1},
		// 2 times 5004 is 10008, which is 1 modulo 10007, as 10006 times 10006 is.
		{inRow(2), []int{1, 1}, 1}, {inRow(2), []int{2, 5004}, 1}, {inRow(2), []int{2, 5003}, 0}, {inRow(2), []int{10006, 10006}, 1}, {inRow(2), []int{1, 10006}, 0},
		{inRow(2), []int{5003, 10005}, 1}, {graph(4, 0, 1, 2, 3), []int{2, 5004, 3, 3336}, 2}, {graph(4, 0, 1, 2, 3), []int{2, 5004, 3, 3337}, 1},
		{inRow(3), same(3, 0), 1}, {inRow(4), same(4, 0), 0}, {inRow(8), zeros, 0}, {inRow(7), same(7, 0), 1}, {inRow(3), same(3, 1), 0}, {inRow(3), []int{1, 2, 1}, 1},
		{inRow(5), same(5, 1), 1}, {inRow(5), same(5, 10006), 1}, {inRow(8), ones, 1}, {inRow(7), same(7, 1), 0}, {inRow(8), []int{10006, 10005, 10005, 10005, 10005, 10005, 10005, 10006}, 1},
		{cycle(3, 3), same(3, 0), 0}, {cycle(3, 3), same(3, 1), 2}, {cycle(4, 4), same(4, 0), 2}, {cycle(5, 5), same(5, 0), 0}, {cycle(6, 6), same(6, 0), 0}, {cycle(8, 8), zeros, 2},
		{cycle(6, 6), same(6, 1), 2}, {cycle(6, 6), same(6, 2), 1}, {cycle(6, 6), same(6, 10005), 1}, {cycle(6, 6), same(6, 10006), 2},
		{complete(8), zeros, 0}, {complete(8), ones, 7}, {complete(8), same(8, 10000), 1}, {complete(8), []int{1, 1, 1, 1, 1, 1, 1, 2}, 6}, {complete(8), same(8, 2), 0},
		{star(8, 0), zeros, 6}, {star(8, 7), zeros, 6}, {star(8, 3), []int{0, 0, 1, 10006, 0, 1, 0, 0}, 4}, {star(5, 0), []int{4, 1, 1, 1, 1}, 1}, {star(5, 0), same(5, 2), 1},
		{cube(), zeros, 0}, {cube(), ones, 3}, {cube(), same(8, 10006), 3}, {cube(), same(8, 3), 1}, {cube(), same(8, 10004), 1}, {cube(), same(8, 2), 0}, {sides(), zeros, 6}, {sides(), same(8, 4), 1},
		{spider(), same(7, 0), 1},
	} {
		nullity, ok := impl.NullityOf(c.g, c.diagonal)
		checkNumber(t, "nullity by hand of "+textOf(c.g), nullity, ok, c.want)
		checkNumber(t, "nullity by hand, own search, of "+textOf(c.g), nullityBy(c.g, c.diagonal), true, c.want)
	}
}

// checkNullity compares the nullity of a Graph with the test's own, and with the least forcing set.
func checkNullity(t *testing.T, g impl.Graph, diagonal []int, most int) {
	t.Helper()
	nullity, ok := impl.NullityOf(g, diagonal)
	checkNumber(t, "nullity of "+textOf(g), nullity, ok, nullityBy(g, diagonal))
	if nullity > most {
		t.Error("nullity", g, diagonal, nullity, most)
	}
}

func TestNullitiesOfSmallGraphs(t *testing.T) {
	t.Parallel()
	for _, g := range smallGraphs(3) {
		most := len(leastColouringBy(g, closureBy))
		for _, diagonal := range chosenFrom(g.Size, []int{0, 1, 2, 5003, 5004, 10005, 10006}) {
			checkNullity(t, g, diagonal, most)
		}
	}
	for _, g := range allGraphs(4) {
		most := len(leastColouringBy(g, closureBy))
		for _, diagonal := range chosenFrom(g.Size, []int{0, 1, 2, 10006}) {
			checkNullity(t, g, diagonal, most)
		}
	}
	for _, g := range eachOf(allGraphs(5), 13) {
		most := len(leastColouringBy(g, closureBy))
		for _, diagonal := range chosenFrom(g.Size, []int{0, 1, 10006}) {
			checkNullity(t, g, diagonal, most)
		}
	}
}

// diagonalsOf returns lists for a Graph: the same number for all nodes, their numbers of neighbors and
// what these are less than FieldSize, and some without a pattern.
func diagonalsOf(g impl.Graph) [][]int {
	var lists [][]int
	for _, number := range []int{0, 1, 2, 10004, 10005, 10006} {
		lists = append(lists, slices.Repeat([]int{number}, g.Size))
	}
	degrees, _ := impl.DegreesOf(g)
	bits := 5
	less, far, near := make([]int, g.Size), make([]int, g.Size), make([]int, g.Size)
	for x := range g.Size {
		bits = bits * 48271 % 2147483647
		less[x], far[x], near[x] = (10007-degrees[x])%10007, bits%10007, bits%3
	}
	return append(lists, degrees, less, far, near)
}

func TestNullitiesOfGreatGraphs(t *testing.T) {
	t.Parallel()
	seen := map[int]int{}
	for _, g := range forcingGraphs() {
		most := len(leastColouringBy(g, closureBy))
		for _, diagonal := range diagonalsOf(g) {
			checkNullity(t, g, diagonal, most)
			nullity, _ := impl.NullityOf(g, diagonal)
			seen[nullity]++
		}
	}
	for nullity := range 9 {
		if seen[nullity] == 0 {
			t.Error("no Graph with the nullity", nullity)
		}
	}
}

func TestNullitiesThatCountParts(t *testing.T) {
	for _, g := range append(smallGraphs(5), greatGraphs()...) {
		degrees, _ := impl.DegreesOf(g)
		diagonal := make([]int, g.Size)
		for x, degree := range degrees {
			diagonal[x] = (10007 - degree) % 10007
		}
		parts, _ := impl.PartsOf(g)
		nullity, ok := impl.NullityOf(g, diagonal)
		checkNumber(t, "nullity and parts of "+textOf(g), nullity, ok, len(parts))
	}
}

func TestListsWithoutNullityFail(t *testing.T) {
	others := []int{-1, -2, -10006, -10007, -10008, 10007, 10008, 10014, 20014, 1 << 32, 10007 << 40, math.MaxInt, math.MaxInt - 1, math.MinInt, math.MinInt + 1}
	for _, g := range fewGraphs() {
		list := make([]int, g.Size)
		for _, other := range others {
			for x := range g.Size {
				wrong := slices.Clone(list)
				wrong[x] = other
				checkFails(t, "NullityOf", impl.NullityOf, g, wrong)
			}
			checkFails(t, "NullityOf", impl.NullityOf, g, append(slices.Clone(list), other))
			checkFails(t, "NullityOf", impl.NullityOf, g, append([]int{other}, list...))
		}
		for length := range 12 {
			if length != g.Size {
				checkFails(t, "NullityOf", impl.NullityOf, g, make([]int, length))
				checkFails(t, "NullityOf", impl.NullityOf, g, nodesOf(length))
			}
		}
		checkFails(t, "NullityOf", impl.NullityOf, g, make([]int, 1<<16))
	}
	for _, list := range listsOver(2, -1, 1) {
		if list[0] < 0 || list[1] < 0 {
			checkFails(t, "NullityOf", impl.NullityOf, inRow(2), list)
		}
	}
	checkFails(t, "NullityOf", impl.NullityOf, graph(0), []int{0})
	checkFails(t, "NullityOf", impl.NullityOf, graph(1), []int(nil))
}

func TestMatchingsByHand(t *testing.T) {
	for _, c := range []struct {
		g    impl.Graph
		want int
	}{
		{graph(0), 0}, {graph(1), 0}, {graph(2), 0}, {graph(8), 0}, {inRow(2), 1}, {inRow(3), 1}, {inRow(4), 2}, {inRow(5), 2}, {inRow(7), 3}, {inRow(8), 4},
		// The first edge is in no greatest choice.
		{graph(4, 0, 1, 0, 2, 1, 3), 2}, {graph(6, 0, 1, 0, 2, 1, 3, 4, 5), 3}, {star(4, 0), 1}, {star(8, 0), 1}, {star(8, 7), 1},
		{cycle(3, 3), 1}, {cycle(4, 4), 2}, {cycle(5, 5), 2}, {cycle(7, 7), 3}, {cycle(8, 8), 4}, {cycle(8, 5), 2}, {complete(2), 1}, {complete(3), 1}, {complete(5), 2}, {complete(7), 3}, {complete(8), 4},
		{graph(4, 0, 1, 2, 3), 2}, {graph(3, 0, 1), 1}, {graph(6, 0, 1, 0, 2, 1, 2, 3, 4, 3, 5, 4, 5), 2}, {graph(6, 0, 1, 0, 2, 1, 2, 2, 3, 3, 4, 3, 5, 4, 5), 3},
		{spider(), 3}, {cube(), 4}, {ladder(), 4}, {sides(), 4}, {graph(8, 0, 7, 1, 7, 2, 7, 3, 6, 4, 6, 5, 6), 2}, {graph(7, 0, 1, 0, 3, 0, 5, 2, 3, 2, 5, 4, 5), 3},
	} {
		pairs, ok := impl.MatchingNumber(c.g)
		checkNumber(t, "matching by hand of "+textOf(c.g), pairs, ok, c.want)
		checkNumber(t, "matching by hand, own search, of "+textOf(c.g), matchingByParts(c.g), true, c.want)
	}
}

func TestMatchingsOfAllSetsOfEdges(t *testing.T) {
	t.Parallel()
	for _, g := range append(smallGraphs(5), append(eachOf(allGraphs(6), 101), greatGraphs()...)...) {
		if len(g.Edges) <= 13 {
			pairs, ok := impl.MatchingNumber(g)
			checkNumber(t, "matching of "+textOf(g), pairs, ok, matchingBy(g))
		}
	}
}

func TestMatchingsOfGreatGraphs(t *testing.T) {
	t.Parallel()
	for _, g := range append(append(greatGraphs(), halvedGraphs()...), append(treeGraphs(), eachOf(allGraphs(6), 61)...)...) {
		pairs, ok := impl.MatchingNumber(g)
		checkNumber(t, "matching of "+textOf(g), pairs, ok, matchingByParts(g))
	}
}

func TestForcingWithSetsThatAreNotValid(t *testing.T) {
	for _, g := range fewGraphs() {
		for _, set := range noSets(g.Size) {
			for name, function := range forcingCalls() {
				checkFails(t, name, function, g, set)
			}
		}
	}
	for length := range 5 {
		for _, set := range listsOver(length, -1, 3) {
			for name, function := range forcingCalls() {
				if !isSetBy(3, set) {
					checkFails(t, name, function, inRow(3), set)
					checkFails(t, name, function, graph(3), set)
				}
			}
		}
	}
}

func TestForcingOnGraphsThatAreNotValid(t *testing.T) {
	for name, g := range brokenGraphs() {
		for call, function := range leastCalls() {
			checkFails(t, call+" of "+name, function, g)
		}
		all := nodesOf(min(max(g.Size, 0), 9))
		for _, set := range [][]int{nil, {0}, {0, 1}, {0, 2}, all, all[:len(all)/2]} {
			for call, function := range forcingCalls() {
				checkFails(t, call+" of "+name, function, g, set)
			}
		}
		for length := range 10 {
			checkFails(t, "NullityOf of "+name, impl.NullityOf, g, make([]int, length))
			checkFails(t, "NullityOf of "+name, impl.NullityOf, g, slices.Repeat([]int{1}, length))
		}
	}
}

// checkForcingCalls makes all calls of a Graph with some lists.
func checkForcingCalls(t *testing.T, g impl.Graph) {
	t.Helper()
	for name, function := range leastCalls() {
		checkCall(t, name, function, g)
	}
	forcing, _ := impl.LeastForcing(g)
	skew, _ := impl.LeastSkew(g)
	lists := [][]int{forcing, skew, nil, {0}, {1}, {0, 1}, {1, 0}, {0, 2}, {1, 2}, {0, 0, 3}, {7}, {-1}, {10006, 0}, {0, 10007, 1}}
	for size := range 10 {
		lists = append(lists, nodesOf(size), make([]int, size))
	}
	for _, list := range lists {
		room := append(slices.Clone(list), -7, -8)
		for name, function := range forcingCalls() {
			checkCall(t, name, function, g, room[:len(list)])
		}
		checkCall(t, "NullityOf", impl.NullityOf, g, room[:len(list)])
		if room[len(list)] != -7 || room[len(list)+1] != -8 {
			t.Fatal("written behind a list", g, list)
		}
	}
}

func TestForcingLeavesItsArgumentsAlone(t *testing.T) {
	graphs := append(smallGraphs(3), allGraphs(4)[20:30]...)
	graphs = append(append(graphs, greatGraphs()[:13]...), treeGraphs()[:2]...)
	checkWithRoom(t, append(graphs, cycle(8, 8), spider(), inRow(8), cycle(8, 5), sides()), checkForcingCalls)
}

// callAllOfForcing makes all calls of a Graph.
func callAllOfForcing(g impl.Graph) {
	impl.LeastForcing(g)
	impl.LeastPower(g)
	impl.LeastSkew(g)
	impl.LeastSum(g)
	impl.MatchingNumber(g)
	impl.FortsOf(g)
	for _, set := range subsetsOf(g.Size) {
		impl.ForceOnce(g, set)
		impl.ForceAll(g, set)
		impl.ForceRounds(g, set)
		impl.IsForcing(g, set)
		impl.ChainsOf(g, set)
		impl.ReversedSet(g, set)
		impl.IsFort(g, set)
		impl.FortOutside(g, set)
		impl.PowerAll(g, set)
		impl.SkewAll(g, set)
	}
	for _, diagonal := range diagonalsOf(g) {
		impl.NullityOf(g, diagonal)
	}
}

func TestForcingReturnsInTime(t *testing.T) {
	graphs := append(append(greatGraphs(), treeGraphs()...), halvedGraphs()...)
	checkInTime(t, func() {
		for _, g := range append(graphs, graph(8), inRow(8), complete(8)) {
			callAllOfForcing(g)
		}
		for _, long := range [][]int{nodesOf(1 << 22), make([]int, 1<<22)} {
			for _, g := range []impl.Graph{graph(8), complete(8)} {
				impl.ForceOnce(g, long)
				impl.ForceAll(g, long)
				impl.ForceRounds(g, long)
				impl.IsForcing(g, long)
				impl.ChainsOf(g, long)
				impl.ReversedSet(g, long)
				impl.IsFort(g, long)
				impl.FortOutside(g, long)
				impl.PowerAll(g, long)
				impl.SkewAll(g, long)
				impl.NullityOf(g, long)
			}
		}
	})
}
