package tests

import (
	"cmp"
	"math"
	"math/bits"
	"slices"
	"testing"

	"loop.example/g01109/impl"
)

// fireBy plays a fire plan out, node by node. It returns the sets of burning nodes as BurningSets tells
// them, and whether the list is a plan.
func fireBy(g impl.Graph, start int, d int, plan [][]int) ([][]int, bool) {
	if len(plan) > 8 {
		return nil, false
	}
	closed := closedIn(g)
	var burning, defended [8]bool
	burning[start] = true
	sets := [][]int{{start}}
	for round := 0; ; round++ {
		if round < len(plan) {
			if len(plan[round]) > d || !isSetBy(g.Size, plan[round]) {
				return nil, false
			}
			for _, x := range plan[round] {
				if burning[x] || defended[x] {
					return nil, false
				}
				defended[x] = true
			}
		}
		before := burning
		for x := range g.Size {
			for y := range g.Size {
				burning[x] = burning[x] || before[y] && closed[x][y] && !defended[x]
			}
		}
		if round >= len(plan) && burning == before {
			return sets, true
		}
		set := []int{}
		for x := range g.Size {
			if burning[x] {
				set = append(set, x)
			}
		}
		sets = append(sets, set)
	}
}

// savedBy returns the nodes that are not burning at the end of a fire.
func savedBy(size int, sets [][]int) []int {
	saved := []int{}
	for x := range size {
		if !slices.Contains(sets[len(sets)-1], x) {
			saved = append(saved, x)
		}
	}
	return saved
}

// savings tries all that can be defended against fires in a Graph, with sets of nodes as bits.
type savings struct {
	size   int
	closed closedTable
	d      int
	known  map[[2]int]int
}

func savingsBy(g impl.Graph, d int) savings {
	return savings{g.Size, closedIn(g), d, map[[2]int]int{}}
}

// next returns the nodes that burn if no more are defended, those that are burning left out.
func (s savings) next(burning int, defended int) int {
	next := 0
	for x := range s.size {
		for y := range s.size {
			if s.closed[x][y] && burning>>y&1 == 1 && (burning|defended)>>x&1 == 0 {
				next |= 1 << x
			}
		}
	}
	return next
}

// most returns the greatest number of saved nodes, over all sets of at most d nodes in each round.
func (s savings) most(burning int, defended int) int {
	next := s.next(burning, defended)
	if next == 0 {
		return s.size - bits.OnesCount(uint(burning))
	}
	key := [2]int{burning, defended}
	if known, ok := s.known[key]; ok {
		return known
	}
	most := 0
	for set := range 1 << s.size {
		if set&(burning|defended) == 0 && bits.OnesCount(uint(set)) <= s.d {
			most = max(most, s.most(burning|next&^set, defended|set))
		}
	}
	s.known[key] = most
	return most
}

// full returns all full plans from some burning and some defended nodes on, in any order.
func (s savings) full(burning int, defended int) [][][]int {
	next := s.next(burning, defended)
	if next == 0 {
		return [][][]int{nil}
	}
	number := min(s.d, s.size-bits.OnesCount(uint(burning|defended)))
	var plans [][][]int
	for _, nodes := range subsetsOf(s.size) {
		set := bitsBy(nodes)
		if len(nodes) != number || set&(burning|defended) != 0 {
			continue
		}
		for _, rest := range s.full(burning|next&^set, defended|set) {
			plans = append(plans, append([][]int{nodes}, rest...))
		}
	}
	return plans
}

// comparePlans compares plans set by set, by their lists.
func comparePlans(a [][]int, b [][]int) int {
	return slices.CompareFunc(a, b, slices.Compare[[]int])
}

// bestPlanBy returns the first full plan with the most saved nodes of all plans, and their number.
func bestPlanBy(g impl.Graph, start int, d int) ([][]int, int) {
	s := savingsBy(g, d)
	most := s.most(1<<start, 0)
	var best [][]int
	found := false
	for _, plan := range s.full(1<<start, 0) {
		sets, _ := fireBy(g, start, d, plan)
		if len(savedBy(g.Size, sets)) == most && (!found || comparePlans(plan, best) < 0) {
			best, found = plan, true
		}
	}
	return best, most
}

// burntBy returns the nodes y for which some node of a burning is near enough in its place.
func burntBy(g impl.Graph, burning []int) []int {
	distances := leastDistances(g)
	burnt := []int{}
	for y := range g.Size {
		for place, x := range burning {
			if distances[x][y] >= 0 && distances[x][y] <= len(burning)-1-place {
				burnt = append(burnt, y)
				break
			}
		}
	}
	return burnt
}

// burner tries all burnings of a Graph; the balls are sets of nodes as bits, for each radius and node.
type burner struct {
	balls [8][8]int
	size  int
}

func burnerBy(g impl.Graph) burner {
	b := burner{size: g.Size}
	for x, row := range leastDistances(g) {
		for y, distance := range row {
			for radius := range b.balls {
				if distance >= 0 && distance <= radius {
					b.balls[radius][x] |= 1 << y
				}
			}
		}
	}
	return b
}

// first returns the first list of some nodes that cover, beside those that are covered, all nodes.
func (b burner) first(left int, covered int) ([]int, bool) {
	if left == 0 {
		return []int{}, covered == 1<<b.size-1
	}
	for x := range b.size {
		if list, ok := b.first(left-1, covered|b.balls[left-1][x]); ok {
			return append([]int{x}, list...), true
		}
	}
	return nil, false
}

// bestBurningBy returns the first complete burning with the fewest nodes.
func bestBurningBy(g impl.Graph) []int {
	b := burnerBy(g)
	for number := 0; ; number++ {
		if list, ok := b.first(number, 0); ok {
			return list
		}
	}
}

// isFarBy tells whether no two nodes of a set are connected with a distance of less than 2k - 1.
func isFarBy(distances [][]int, set []int, k int) bool {
	for i, x := range set {
		for _, y := range set[:i] {
			if distances[x][y] >= 0 && distances[x][y] < 2*k-1 {
				return false
			}
		}
	}
	return true
}

// largestFarBy returns of all far sets the lexicographically first one with the most nodes.
func largestFarBy(g impl.Graph, k int) []int {
	distances := leastDistances(g)
	largest := []int{}
	for _, set := range subsetsOf(g.Size) {
		more := cmp.Or(cmp.Compare(len(largest), len(set)), slices.Compare(set, largest))
		if isFarBy(distances, set, k) && more < 0 {
			largest = set
		}
	}
	return largest
}

// farBoundBy returns the greatest one of the numbers that the far sets for each k tell.
func farBoundBy(g impl.Graph) int {
	bound := 0
	for k := 1; k <= 8; k++ {
		bound = max(bound, min(k+1, len(largestFarBy(g, k))))
	}
	return bound
}

// neighborsIn counts the neighbors of a node among those of a set for which in is the given bool.
func neighborsIn(closed closedTable, size int, set []int, x int, in bool) int {
	count := 0
	for y := range size {
		if y != x && closed[x][y] && slices.Contains(set, y) == in {
			count++
		}
	}
	return count
}

// spreadOfBy adds again and again all nodes with at least r neighbors in a set.
func spreadOfBy(closed closedTable, size int, set []int, r int) []int {
	for {
		more := slices.Clone(set)
		for x := range size {
			if !slices.Contains(set, x) && neighborsIn(closed, size, set, x, true) >= r {
				more = append(more, x)
			}
		}
		if len(more) == len(set) {
			return more
		}
		slices.Sort(more)
		set = more
	}
}

// leastSpreadingBy returns the first one of all spreading sets.
func leastSpreadingBy(g impl.Graph, r int) []int {
	least := nodesOf(g.Size)
	for _, set := range subsetsOf(g.Size) {
		less := cmp.Or(cmp.Compare(len(set), len(least)), slices.Compare(set, least))
		if less < 0 && len(spreadOfBy(closedIn(g), g.Size, set, r)) == g.Size {
			least = set
		}
	}
	return least
}

// isStoppingBy tells whether a set has nodes, each with fewer than r neighbors that are not in it.
func isStoppingBy(closed closedTable, size int, set []int, r int) bool {
	for _, x := range set {
		if neighborsIn(closed, size, set, x, false) >= r {
			return false
		}
	}
	return len(set) > 0
}

// star returns the Graph of a Size in which a middle is the neighbor of all others.
func star(size int, middle int) impl.Graph {
	return graphBy(size, func(x, y int) bool { return x == middle || y == middle })
}

// otherNumbers are those outside of 1..MaxSize.
func otherNumbers() []int {
	return []int{0, -1, -2, -8, 9, 10, 64, 256, 257, 1 << 32, 1<<62 + 1, math.MaxInt, math.MinInt, math.MinInt + 1}
}

// otherDefenders are the numbers outside of 0..MaxDefenders.
func otherDefenders() []int {
	return []int{-1, -2, -4, 4, 5, 8, 256, 1 << 32, math.MaxInt, math.MinInt}
}

func TestLimitsOfFires(t *testing.T) {
	if impl.MaxDefenders != 3 || impl.MaxRounds != 8 {
		t.Error(impl.MaxDefenders, impl.MaxRounds)
	}
}

// checkFirePlan compares what is told of a list with the test's own fire, and returns whether it is a
// plan.
func checkFirePlan(t *testing.T, name string, g impl.Graph, start int, d int, plan [][]int) bool {
	t.Helper()
	want, is := fireBy(g, start, d, plan)
	got, ok := impl.IsFirePlan(g, start, d, plan)
	if !ok || got != is {
		t.Errorf("%s on %s from %d with %d, %v: got %v, %v, want %v", name, textOf(g), start, d, plan, got, ok, is)
	}
	if !is {
		checkFails(t, "BurningSets: "+name, impl.BurningSets, g, start, d, plan)
		checkFails(t, "SavedNodes: "+name, impl.SavedNodes, g, start, d, plan)
		return false
	}
	sets, one := impl.BurningSets(g, start, d, plan)
	saved, two := impl.SavedNodes(g, start, d, plan)
	if !one || !two || !sameLists(sets, want) || !slices.Equal(saved, savedBy(g.Size, want)) {
		t.Errorf("%s on %s from %d with %d, %v: got %v, %v, want %v", name, textOf(g), start, d, plan, sets, saved, want)
	}
	return true
}

func TestFirePlansByHand(t *testing.T) {
	row, none := inRow(4), make([][]int, 8)
	all := nodesOf(4)
	for _, c := range []struct {
		name  string
		g     impl.Graph
		start int
		d     int
		plan  [][]int
		sets  [][]int
		saved []int
	}{
		{"one node", graph(1), 0, 0, nil, [][]int{{0}}, nil},
		{"one node and a set without nodes", graph(1), 0, 0, [][]int{{}}, [][]int{{0}, {0}}, nil},
		{"one node and MaxRounds sets", graph(1), 0, 3, none, slices.Repeat([][]int{{0}}, 9), nil},
		{"no sets", row, 0, 0, nil, [][]int{{0}, {0, 1}, {0, 1, 2}, all}, nil},
		{"no sets, with defenders", row, 0, 3, nil, [][]int{{0}, {0, 1}, {0, 1, 2}, all}, nil},
		{"no sets, from the middle", row, 1, 1, nil, [][]int{{1}, {0, 1, 2}, all}, nil},
		{"sets without nodes", row, 0, 0, [][]int{{}, {}}, [][]int{{0}, {0, 1}, {0, 1, 2}, all}, nil},
		{"sets without nodes up to the end", row, 0, 1, [][]int{{}, {}, {}}, [][]int{{0}, {0, 1}, {0, 1, 2}, all}, nil},
		{"sets without nodes behind the end", row, 0, 0, [][]int{{}, {}, {}, {}, {}}, [][]int{{0}, {0, 1}, {0, 1, 2}, all, all, all}, nil},
		{"the neighbor", row, 0, 1, [][]int{{1}}, [][]int{{0}, {0}}, []int{1, 2, 3}},
		{"the next but one", row, 0, 1, [][]int{{2}}, [][]int{{0}, {0, 1}}, []int{2, 3}},
		{"the last one", row, 0, 1, [][]int{{3}}, [][]int{{0}, {0, 1}, {0, 1, 2}}, []int{3}},
		{"a node that would burn in just that round", row, 0, 1, [][]int{{}, {2}}, [][]int{{0}, {0, 1}, {0, 1}}, []int{2, 3}},
		{"a node that would burn in just that round, the last one", row, 0, 1, [][]int{{}, {}, {3}}, [][]int{{0}, {0, 1}, {0, 1, 2}, {0, 1, 2}}, []int{3}},
		{"the last one and the one ahead of it", row, 0, 1, [][]int{{3}, {2}}, [][]int{{0}, {0, 1}, {0, 1}}, []int{2, 3}},
		{"a set behind the round in which the fire has stopped", row, 0, 1, [][]int{{1}, {3}, {2}}, [][]int{{0}, {0}, {0}, {0}}, []int{1, 2, 3}},
		{"sets of d nodes", row, 1, 2, [][]int{{0, 2}}, [][]int{{1}, {1}}, []int{0, 2, 3}},
		{"sets of fewer nodes", row, 1, 3, [][]int{{0}, {3}}, [][]int{{1}, {1, 2}, {1, 2}}, []int{0, 3}},
		{"all that is left", row, 1, 3, [][]int{{0, 2, 3}}, [][]int{{1}, {1}}, []int{0, 2, 3}},
		{"MaxRounds sets", inRow(8), 0, 1, none, [][]int{{0}, {0, 1}, {0, 1, 2}, all, nodesOf(5), nodesOf(6), nodesOf(7), nodesOf(8), nodesOf(8)}, nil},
		{"MaxRounds sets of a node each", graph(8), 7, 1, [][]int{{6}, {0}, {5}, {1}, {4}, {2}, {3}, {}}, slices.Repeat([][]int{{7}}, 9), nodesOf(7)},
		{"no fire but at the first node", graph(3, 1, 2), 0, 1, nil, [][]int{{0}}, []int{1, 2}},
		{"a node in another part", graph(4, 0, 1, 2, 3), 0, 1, [][]int{{3}}, [][]int{{0}, {0, 1}}, []int{2, 3}},
		{"a star from its middle", star(4, 3), 3, 1, [][]int{{1}}, [][]int{{3}, {0, 2, 3}}, []int{1}},
		{"a star from a leaf", star(4, 3), 1, 1, [][]int{{0}}, [][]int{{1}, {1, 3}, {1, 2, 3}}, []int{0}},
		{"a cycle of three", complete(3), 2, 1, [][]int{{0}}, [][]int{{2}, {1, 2}}, []int{0}},
		{"a cycle around both sides", cycle(6, 6), 0, 1, [][]int{{1}}, [][]int{{0}, {0, 5}, {0, 4, 5}, {0, 3, 4, 5}, {0, 2, 3, 4, 5}}, []int{1}},
		{"a complete Graph", complete(8), 3, 3, [][]int{{0, 5, 7}}, [][]int{{3}, {1, 2, 3, 4, 6}}, []int{0, 5, 7}},
	} {
		is := checkFirePlan(t, c.name, c.g, c.start, c.d, c.plan)
		sets, _ := fireBy(c.g, c.start, c.d, c.plan)
		if !is || !sameLists(sets, c.sets) || !slices.Equal(savedBy(c.g.Size, sets), c.saved) {
			t.Error("by hand:", c.name, is, sets)
		}
	}
}

func TestListsThatAreNoFirePlan(t *testing.T) {
	row, full := inRow(4), complete(8)
	for _, c := range []struct {
		name  string
		g     impl.Graph
		start int
		d     int
		plan  [][]int
	}{
		{"one set more than MaxRounds", row, 0, 1, make([][]int, 9)},
		{"one set more than MaxRounds, of one node", graph(1), 0, 0, make([][]int, 9)},
		{"a burning node", row, 0, 1, [][]int{{0}}},
		{"a burning node among others", row, 1, 3, [][]int{{0, 1, 2}}},
		{"a burning node of one", graph(1), 0, 1, [][]int{{0}}},
		{"a burning node, later", row, 0, 1, [][]int{{}, {0}}},
		{"a node that burns in the round before", row, 0, 1, [][]int{{}, {1}}},
		{"a node that burns in the round before, later", row, 0, 1, [][]int{{3}, {}, {2}}},
		{"a node that has burned for long", row, 0, 1, [][]int{{}, {}, {}, {1}}},
		{"a defended node", row, 0, 1, [][]int{{1}, {1}}},
		{"a defended node far from the fire", row, 0, 2, [][]int{{3}, {2, 3}}},
		{"a defended node in another part", graph(4, 0, 1, 2, 3), 0, 1, [][]int{{3}, {3}}},
		{"a defended node behind the last round of the fire", row, 0, 1, [][]int{{1}, {}, {}, {1}}},
		{"a set of one node more", row, 0, 1, [][]int{{1, 2}}},
		{"a set of one node more, later", row, 0, 1, [][]int{{3}, {}, {1, 2}}},
		{"a node and no defenders", row, 0, 0, [][]int{{1}}},
		{"a node and no defenders, behind the fire", graph(3), 0, 0, [][]int{{}, {1}}},
		{"three nodes and two defenders", full, 7, 2, [][]int{{0, 1, 2}}},
		{"four nodes and MaxDefenders", full, 7, 3, [][]int{{0, 1, 2, 3}}},
		{"a set that is not ascending", row, 0, 2, [][]int{{2, 1}}},
		{"a set that is not ascending, its end", row, 0, 3, [][]int{{1, 3, 2}}},
		{"a node twice", row, 0, 2, [][]int{{1, 1}}},
		{"a node twice, later", row, 0, 2, [][]int{{1}, {3, 3}}},
		{"a node that is not there", row, 0, 1, [][]int{{4}}},
		{"a node that is not there, behind the fire", row, 0, 1, [][]int{{1}, {2}, {4}}},
		{"a ninth node", full, 0, 1, [][]int{{8}}},
		{"a negative node", row, 0, 1, [][]int{{-1}}},
		{"a negative node and another one", row, 0, 2, [][]int{{-1, 1}}},
		{"a node far away", row, 0, 2, [][]int{{1, 64}}},
		{"the greatest number", row, 0, 2, [][]int{{1, math.MaxInt}}},
		{"the least number", row, 0, 2, [][]int{{math.MinInt, 1}}},
		{"a long list of sets", row, 0, 3, make([][]int, 1<<20)},
		{"a long set", row, 0, 3, [][]int{nodesOf(1 << 16)}},
	} {
		if checkFirePlan(t, c.name, c.g, c.start, c.d, c.plan) {
			t.Error("by hand:", c.name)
		}
	}
}

func TestFirePlansOfAllLists(t *testing.T) {
	t.Parallel()
	told := map[bool]int{}
	for _, g := range smallGraphs(3) {
		lists := append(subsetsOf(g.Size), []int{1, 0}, []int{0, 0}, []int{-1}, []int{g.Size})
		for length := range 4 {
			for _, plan := range chosenFrom(length, lists) {
				for start := range g.Size {
					for d := range 4 {
						told[checkFirePlan(t, "lists", g, start, d, plan)]++
					}
				}
			}
		}
	}
	checkBoth(t, told, 1000)
}

func TestFirePlansOfAllSets(t *testing.T) {
	t.Parallel()
	told := map[bool]int{}
	for _, g := range eachOf(allGraphs(4), 5) {
		for _, plan := range append(chosenFrom(2, subsetsOf(4)), chosenFrom(3, [][]int{{}, {0}, {1}, {2}, {3}, {0, 1}, {2, 3}})...) {
			for start := range g.Size {
				for d := range 4 {
					told[checkFirePlan(t, "sets", g, start, d, plan)]++
				}
			}
		}
	}
	for _, g := range append(eachOf(allGraphs(5), 101), inRow(5)) {
		for _, plan := range chosenFrom(4, [][]int{{}, {0}, {1}, {2}, {3}, {4}}) {
			for start := range g.Size {
				told[checkFirePlan(t, "nodes", g, start, 1, plan)]++
			}
		}
	}
	checkBoth(t, told, 1000)
}

// changedPlans returns what differs from a plan in one thing.
func changedPlans(size int, plan [][]int) [][][]int {
	var all [][][]int
	for i := range len(plan) + 1 {
		for _, set := range [][]int{{}, {0}, {size - 1}} {
			all = append(all, slices.Insert(slices.Clone(plan), i, set))
		}
	}
	for i, set := range plan {
		all = append(all, plan[:i], slices.Delete(slices.Clone(plan), i, i+1))
		sets := [][]int{append(slices.Clone(set), size), append([]int{-1}, set...), append(slices.Clone(set), set...)}
		for x := range size {
			more := slices.Sorted(slices.Values(append(slices.Clone(set), x)))
			sets = append(sets, without(set, x), more)
			for j := range set {
				other := slices.Clone(set)
				other[j] = x
				sets = append(sets, other, slices.Sorted(slices.Values(other)))
			}
		}
		for _, other := range sets {
			changed := slices.Clone(plan)
			changed[i] = other
			all = append(all, changed)
		}
		for j := range i {
			changed := slices.Clone(plan)
			changed[i], changed[j] = changed[j], changed[i]
			all = append(all, changed)
		}
	}
	return all
}

func TestFirePlansWithOneThingChanged(t *testing.T) {
	t.Parallel()
	told := map[bool]int{}
	for _, g := range append(eachOf(greatGraphs(), 3), eachOf(treeGraphs(), 9)...) {
		for start := range g.Size {
			for d := range 4 {
				plan, _ := bestPlanBy(g, start, d)
				for _, changed := range changedPlans(g.Size, plan) {
					told[checkFirePlan(t, "changed", g, start, d, changed)]++
				}
				long := append(slices.Clone(plan), make([][]int, 8-len(plan))...)
				told[checkFirePlan(t, "MaxRounds sets", g, start, d, long)]++
				told[checkFirePlan(t, "one set more", g, start, d, append(long, nil))]++
			}
		}
	}
	checkBoth(t, told, 10000)
}

// checkBestPlan compares the best plan and the most saved nodes with the wanted ones, and checks the
// first part of promise 8 for them.
func checkBestPlan(t *testing.T, g impl.Graph, start int, d int, plan [][]int, most int) {
	t.Helper()
	got, one := impl.BestFirePlan(g, start, d)
	number, two := impl.MostSaved(g, start, d)
	if !one || !two || !sameLists(got, plan) || number != most {
		t.Errorf("best plan on %s from %d with %d: got %v, %v, want %v, %v", textOf(g), start, d, got, number, plan, most)
	}
	is, one := impl.IsFirePlan(g, start, d, got)
	saved, two := impl.SavedNodes(g, start, d, got)
	if !one || !two || !is || len(saved) != number {
		t.Errorf("promise 8 on %s from %d with %d: %v, %v, %v, %v", textOf(g), start, d, got, is, saved, number)
	}
}

func TestBestFirePlansByHand(t *testing.T) {
	row, apart := inRow(4), graph(4, 0, 1, 2, 3)
	round := graph(5, 0, 1, 0, 2, 0, 3, 1, 4, 2, 4, 3, 4)
	for _, c := range []struct {
		g     impl.Graph
		start int
		d     int
		plan  [][]int
		most  int
	}{
		{graph(1), 0, 0, nil, 0}, {graph(1), 0, 3, nil, 0}, {graph(2), 1, 1, nil, 1}, {graph(8), 3, 0, nil, 7}, {graph(8), 3, 3, nil, 7},
		{graph(3, 1, 2), 0, 2, nil, 2}, {graph(3, 1, 2), 1, 0, [][]int{{}}, 1}, {graph(3, 1, 2), 1, 1, [][]int{{2}}, 2},
		{inRow(2), 0, 0, [][]int{{}}, 0}, {inRow(2), 0, 1, [][]int{{1}}, 1}, {inRow(2), 1, 3, [][]int{{0}}, 1},
		{row, 0, 0, [][]int{{}, {}, {}}, 0}, {row, 1, 0, [][]int{{}, {}}, 0}, {inRow(8), 7, 0, make([][]int, 7), 0},
		{row, 0, 1, [][]int{{1}}, 3}, {row, 0, 2, [][]int{{1, 2}}, 3}, {row, 0, 3, [][]int{{1, 2, 3}}, 3},
		// To defend the end first, and the other one later, saves as many as to defend node 2 at once.
		{row, 1, 1, [][]int{{0}, {3}}, 2}, {row, 1, 2, [][]int{{0, 2}}, 3}, {row, 1, 3, [][]int{{0, 2, 3}}, 3},
		{row, 2, 1, [][]int{{1}}, 2}, {row, 3, 1, [][]int{{2}}, 3}, {row, 3, 2, [][]int{{0, 2}}, 3},
		{apart, 0, 1, [][]int{{1}}, 3}, {apart, 0, 2, [][]int{{1, 2}}, 3}, {apart, 3, 2, [][]int{{0, 2}}, 3}, {apart, 3, 0, [][]int{{}}, 2},
		{star(4, 0), 0, 1, [][]int{{1}}, 1}, {star(4, 0), 0, 2, [][]int{{1, 2}}, 2}, {star(4, 0), 0, 3, [][]int{{1, 2, 3}}, 3},
		{star(4, 0), 1, 1, [][]int{{0}}, 3}, {star(4, 0), 1, 3, [][]int{{0, 2, 3}}, 3}, {star(8, 7), 2, 2, [][]int{{0, 7}}, 7},
		{complete(3), 1, 1, [][]int{{0}}, 1}, {complete(5), 2, 0, [][]int{{}}, 0}, {complete(5), 2, 3, [][]int{{0, 1, 3}}, 3},
		{cycle(5, 5), 0, 1, [][]int{{1}, {3}}, 3}, {cycle(5, 5), 0, 2, [][]int{{1, 4}}, 4}, {cycle(8, 8), 0, 1, [][]int{{1}, {6}}, 6},
		{cycle(8, 8), 0, 3, [][]int{{1, 2, 7}}, 7}, {spider(), 0, 1, [][]int{{1}, {4}}, 3},
		{spider(), 0, 2, [][]int{{1, 3}, {2, 6}}, 5}, {spider(), 0, 3, [][]int{{1, 3, 5}}, 6},
		// In the second round only one node is left.
		{round, 0, 2, [][]int{{1, 2}, {4}}, 3}, {round, 0, 1, [][]int{{1}, {4}}, 2},
	} {
		checkBestPlan(t, c.g, c.start, c.d, c.plan, c.most)
		if plan, most := bestPlanBy(c.g, c.start, c.d); !sameLists(plan, c.plan) || most != c.most {
			t.Error("by hand", c.g, c.start, c.d, plan, most)
		}
	}
}

// checkFires compares all best plans of a Graph, and their sums, with the test's own.
func checkFires(t *testing.T, g impl.Graph) {
	t.Helper()
	for d := range 4 {
		sum := 0
		for start := range g.Size {
			plan, most := bestPlanBy(g, start, d)
			checkBestPlan(t, g, start, d, plan, most)
			sum += most
		}
		got, ok := impl.SavedSum(g, d)
		checkNumber(t, "sum of "+textOf(g), got, ok, sum)
	}
}

func TestPromise8BestPlansOfSmallGraphs(t *testing.T) {
	t.Parallel()
	for _, g := range append(smallGraphs(5), eachOf(allGraphs(6), 53)...) {
		checkFires(t, g)
	}
}

func TestPromise8BestPlansOfGreatGraphs(t *testing.T) {
	t.Parallel()
	for _, g := range append(greatGraphs(), treeGraphs()...) {
		checkFires(t, g)
	}
}

func TestSavedSumsByHand(t *testing.T) {
	for _, c := range []struct {
		g    impl.Graph
		sums []int // for 0, 1, 2 and 3 defenders
	}{
		{graph(0), []int{0, 0, 0, 0}}, {graph(1), []int{0, 0, 0, 0}}, {graph(2), []int{2, 2, 2, 2}}, {graph(8), []int{56, 56, 56, 56}},
		{inRow(2), []int{0, 2, 2, 2}}, {inRow(4), []int{0, 10, 12, 12}}, {graph(4, 0, 1, 2, 3), []int{8, 12, 12, 12}},
		{complete(4), []int{0, 4, 8, 12}}, {complete(8), []int{0, 8, 16, 24}}, {star(8, 0), []int{0, 50, 51, 52}}, {cycle(8, 8), []int{0, 48, 56, 56}},
	} {
		for d, want := range c.sums {
			sum, ok := impl.SavedSum(c.g, d)
			checkNumber(t, "sum of "+textOf(c.g), sum, ok, want)
		}
	}
}

// checkFireFails checks that all functions of a fire fail.
func checkFireFails(t *testing.T, name string, g impl.Graph, start int, d int) {
	t.Helper()
	checkFails(t, "MostSaved: "+name, impl.MostSaved, g, start, d)
	checkFails(t, "BestFirePlan: "+name, impl.BestFirePlan, g, start, d)
	for _, plan := range [][][]int{nil, {{}}, {{1}}, {{0, 1}}, {{}, {2}}, make([][]int, 9)} {
		for call, function := range planCalls() {
			checkFails(t, call+": "+name, function, g, start, d, plan)
		}
	}
}

// planCalls are the functions of one Graph, a node, a number of defenders and a plan.
func planCalls() map[string]any {
	return map[string]any{"IsFirePlan": impl.IsFirePlan, "BurningSets": impl.BurningSets, "SavedNodes": impl.SavedNodes}
}

func TestOtherFiresFail(t *testing.T) {
	for _, g := range fewGraphs() {
		for d := range 4 {
			for _, x := range farNumbers(g.Size) {
				checkFireFails(t, "a node that is not there", g, x, d)
			}
		}
		for _, d := range otherDefenders() {
			for start := range g.Size {
				checkFireFails(t, "other defenders", g, start, d)
			}
			checkFails(t, "SavedSum with other defenders", impl.SavedSum, g, d)
			checkFireFails(t, "both", g, -1, d)
		}
	}
	for d := range 4 {
		checkFireFails(t, "no nodes", graph(0), 0, d)
	}
}

// checkBurnt compares what a list covers with the test's own words, and returns whether it is a
// burning.
func checkBurnt(t *testing.T, g impl.Graph, burning []int) bool {
	t.Helper()
	if len(burning) > 8 || slices.ContainsFunc(burning, func(x int) bool { return x < 0 || x >= g.Size }) {
		checkFails(t, "BurntBy", impl.BurntBy, g, burning)
		return false
	}
	burnt, ok := impl.BurntBy(g, burning)
	checkList(t, "burnt in "+textOf(g), burnt, ok, burntBy(g, burning))
	return true
}

func TestBurntByHand(t *testing.T) {
	row, apart := inRow(4), graph(4, 0, 1, 2, 3)
	for _, c := range []struct {
		g       impl.Graph
		burning []int
		burnt   []int
	}{
		{graph(0), nil, nil}, {graph(1), nil, nil}, {graph(1), []int{0}, []int{0}}, {graph(1), make([]int, 8), []int{0}},
		{row, nil, nil}, {row, []int{0}, []int{0}}, {row, []int{2}, []int{2}}, {row, []int{1, 0}, []int{0, 1, 2}}, {row, []int{0, 1}, []int{0, 1}},
		{row, []int{0, 2}, []int{0, 1, 2}}, {row, []int{1, 3}, nodesOf(4)}, {row, []int{3, 1}, []int{1, 2, 3}}, {row, []int{0, 0}, []int{0, 1}},
		{row, []int{0, 0, 0}, []int{0, 1, 2}}, {row, []int{0, 3, 0}, nodesOf(4)}, {row, []int{3, 3, 3, 3}, nodesOf(4)}, {row, make([]int, 8), nodesOf(4)},
		{inRow(8), make([]int, 7), nodesOf(7)}, {inRow(8), make([]int, 8), nodesOf(8)}, {inRow(8), []int{0, 7, 0}, []int{0, 1, 2, 6, 7}},
		{apart, []int{0, 2}, []int{0, 1, 2}}, {apart, []int{0, 0, 0, 0, 0}, []int{0, 1}}, {apart, []int{3, 0, 0, 0}, nodesOf(4)},
		{graph(8), nodesOf(8), nodesOf(8)}, {graph(8), []int{5, 5, 2}, []int{2, 5}}, {complete(8), []int{6}, []int{6}}, {complete(8), []int{6, 6}, nodesOf(8)},
		{star(5, 4), []int{0, 0}, []int{0, 4}}, {star(5, 4), []int{4, 4}, nodesOf(5)}, {star(5, 4), []int{0, 0, 0}, nodesOf(5)},
		{cycle(8, 8), []int{0, 4}, []int{0, 1, 4, 7}}, {cycle(8, 8), []int{0, 0, 0, 0}, []int{0, 1, 2, 3, 5, 6, 7}},
	} {
		burnt, ok := impl.BurntBy(c.g, c.burning)
		checkList(t, "burnt by hand in "+textOf(c.g), burnt, ok, c.burnt)
		checkBurnt(t, c.g, c.burning)
	}
}

func TestListsThatAreNoBurning(t *testing.T) {
	for _, c := range []struct {
		g       impl.Graph
		burning []int
	}{
		{graph(0), []int{0}}, {graph(0), []int{-1}}, {graph(1), make([]int, 9)}, {inRow(4), make([]int, 9)}, {inRow(4), make([]int, 1<<20)},
		{inRow(4), []int{4}}, {inRow(4), []int{0, 1, 4}}, {inRow(4), []int{-1}}, {inRow(4), []int{0, -1, 0}}, {complete(8), []int{8}},
		{complete(8), []int{0, 64}}, {inRow(4), []int{math.MaxInt}}, {inRow(4), []int{0, math.MinInt}}, {graph(8), append(nodesOf(8), 0)},
	} {
		checkFails(t, "BurntBy", impl.BurntBy, c.g, c.burning)
	}
	for _, g := range fewGraphs() {
		for _, x := range farNumbers(g.Size) {
			checkFails(t, "BurntBy", impl.BurntBy, g, []int{x})
			checkFails(t, "BurntBy", impl.BurntBy, g, append(nodesOf(min(g.Size, 7)), x))
		}
	}
}

func TestBurntByAllLists(t *testing.T) {
	t.Parallel()
	told := map[bool]int{}
	for _, g := range smallGraphs(3) {
		for length := range 5 {
			for _, burning := range listsOver(length, -1, g.Size) {
				told[checkBurnt(t, g, burning)]++
			}
		}
	}
	for _, g := range append(eachOf(allGraphs(4), 3), eachOf(allGraphs(5), 101)...) {
		for length := range 5 {
			for _, burning := range listsOver(length, 0, g.Size-1) {
				told[checkBurnt(t, g, burning)]++
			}
		}
	}
	random := 3
	for _, g := range append(greatGraphs(), treeGraphs()...) {
		burning := []int{}
		for range 10 {
			told[checkBurnt(t, g, burning)]++
			random = random * 48271 % 2147483647
			burning = append(burning, random%g.Size)
		}
	}
	checkBoth(t, told, 100)
}

// checkBurning compares the burning number and the best burning with the wanted list.
func checkBurning(t *testing.T, g impl.Graph, want []int) {
	t.Helper()
	number, ok := impl.BurningNumber(g)
	checkNumber(t, "burning number of "+textOf(g), number, ok, len(want))
	best, ok := impl.BestBurning(g)
	checkList(t, "best burning of "+textOf(g), best, ok, want)
}

func TestBestBurningsByHand(t *testing.T) {
	for _, c := range []struct {
		g    impl.Graph
		want []int
	}{
		{graph(0), nil}, {graph(1), []int{0}}, {graph(2), []int{0, 1}}, {graph(8), nodesOf(8)}, {inRow(2), []int{0, 0}}, {inRow(3), []int{0, 2}},
		{inRow(4), []int{1, 3}}, {inRow(5), []int{0, 2, 4}}, {inRow(8), []int{1, 5, 7}}, {complete(3), []int{0, 0}}, {complete(8), []int{0, 0}},
		{star(8, 0), []int{0, 0}}, {star(4, 3), []int{3, 0}}, {graph(3, 1, 2), []int{1, 0}}, {graph(4, 0, 1, 2, 3), []int{0, 2, 0}},
		{graph(8, 6, 7), []int{0, 1, 2, 3, 4, 6, 5}}, {graph(8, 0, 1), []int{0, 2, 3, 4, 5, 6, 7}},
		{graph(8, 0, 1, 2, 3, 4, 5, 6, 7), []int{0, 2, 4, 6, 0}}, {cycle(4, 4), []int{0, 2}}, {cycle(8, 8), []int{0, 3, 5}}, {cube(), []int{0, 0, 7}}, {ladder(), []int{0, 0, 0}},
	} {
		checkBurning(t, c.g, c.want)
		if best := bestBurningBy(c.g); !slices.Equal(best, c.want) {
			t.Error("by hand", c.g, best, c.want)
		}
	}
}

// burningGraphs returns Graphs of all Sizes.
func burningGraphs() []impl.Graph {
	graphs := append(sampleGraphs(), treeGraphs()...)
	return append(append(graphs, eachOf(allGraphs(6), 29)...), halvedGraphs()...)
}

func TestBestOfAllBurnings(t *testing.T) {
	t.Parallel()
	numbers := map[int]int{}
	for _, g := range burningGraphs() {
		want := bestBurningBy(g)
		checkBurning(t, g, want)
		numbers[len(want)]++
	}
	for number := range impl.MaxSize + 1 {
		if numbers[number] == 0 {
			t.Error("no Graph with the burning number", number)
		}
	}
}

// checkFar compares the far sets of a Graph with the test's own, and checks what they tell of the
// burning number.
func checkFar(t *testing.T, g impl.Graph) {
	t.Helper()
	number, _ := impl.BurningNumber(g)
	distances := leastDistances(g)
	for k := 1; k <= 8; k++ {
		for _, set := range subsetsOf(g.Size) {
			is, ok := impl.IsFarSet(g, set, k)
			if want := isFarBy(distances, set, k); !ok || is != want {
				t.Errorf("far set %v of %s for %d: got %v, %v, want %v", set, textOf(g), k, is, ok, want)
			}
		}
		largest, ok := impl.LargestFarSet(g, k)
		checkList(t, "far set of "+textOf(g), largest, ok, largestFarBy(g, k))
		if number <= k && number < len(largest) {
			t.Error("burning number and far set", g, k, number, largest)
		}
	}
	bound, ok := impl.FarBound(g)
	checkNumber(t, "bound of "+textOf(g), bound, ok, farBoundBy(g))
	if bound > number {
		t.Error("burning number and bound", g, number, bound)
	}
}

func TestFarSetsOfAllSets(t *testing.T) {
	t.Parallel()
	graphs := append(smallGraphs(5), eachOf(greatGraphs(), 3)...)
	for _, g := range append(graphs, graph(8), inRow(8), cycle(8, 8), spider(), star(8, 5), graph(8, 0, 1, 1, 2, 3, 4, 4, 5)) {
		checkFar(t, g)
	}
}

func TestFarSetsByHand(t *testing.T) {
	row, apart := inRow(8), graph(4, 0, 1, 2, 3)
	for _, c := range []struct {
		g    impl.Graph
		set  []int
		k    int
		want bool
	}{
		{graph(0), nil, 1, true}, {graph(0), nil, 8, true}, {row, nil, 1, true}, {row, nil, 8, true}, {row, []int{3}, 8, true},
		{row, nodesOf(8), 1, true}, {complete(8), nodesOf(8), 1, true}, {complete(8), []int{0, 1}, 2, false}, {row, []int{0, 3}, 2, true},
		{row, []int{0, 2}, 2, false}, {row, []int{0, 1}, 2, false}, {row, []int{0, 3, 6}, 2, true}, {row, []int{0, 3, 5}, 2, false},
		{row, []int{1, 3, 6}, 2, false}, {row, []int{0, 5}, 3, true}, {row, []int{0, 4}, 3, false}, {row, []int{0, 7}, 4, true},
		{row, []int{0, 6}, 4, false}, {row, []int{0, 7}, 5, false}, {row, []int{0, 7}, 8, false}, {apart, []int{0, 2}, 8, true},
		{apart, []int{1, 3}, 2, true}, {apart, []int{0, 1}, 2, false}, {apart, []int{0, 2, 3}, 2, false}, {graph(8), nodesOf(8), 8, true},
		{cycle(6, 6), []int{0, 3}, 2, true}, {cycle(6, 6), []int{0, 4}, 2, false}, {cycle(6, 6), []int{0, 3}, 3, false},
	} {
		is, ok := impl.IsFarSet(c.g, c.set, c.k)
		checkTold(t, "far set of "+textOf(c.g), is, ok, c.want)
	}
}

func TestLargestFarSetsByHand(t *testing.T) {
	for _, c := range []struct {
		g     impl.Graph
		sets  [][]int // for 1, 2, .. ; those for greater k are like the last one
		bound int
	}{
		{graph(0), [][]int{nil}, 0}, {graph(1), [][]int{{0}}, 1}, {graph(2), [][]int{{0, 1}}, 2}, {graph(8), [][]int{nodesOf(8)}, 8},
		{inRow(2), [][]int{{0, 1}, {0}}, 2}, {inRow(4), [][]int{nodesOf(4), {0, 3}, {0}}, 2},
		{inRow(8), [][]int{nodesOf(8), {0, 3, 6}, {0, 5}, {0, 7}, {0}}, 3}, {complete(8), [][]int{nodesOf(8), {0}}, 2},
		{cycle(8, 8), [][]int{nodesOf(8), {0, 3}, {0}}, 2}, {graph(4, 0, 1, 2, 3), [][]int{nodesOf(4), {0, 2}}, 2},
		{graph(5, 0, 1, 2, 3), [][]int{nodesOf(5), {0, 2, 4}}, 3}, {star(5, 0), [][]int{nodesOf(5), {0}}, 2},
		// Node 0 is in no far set of more nodes than itself.
		{graph(7, 0, 1, 0, 2, 0, 3, 1, 4, 2, 5, 3, 6), [][]int{nodesOf(7), {1, 5, 6}, {0}}, 3},
	} {
		for k := 1; k <= impl.MaxSize; k++ {
			largest, ok := impl.LargestFarSet(c.g, k)
			checkList(t, "far set by hand of "+textOf(c.g), largest, ok, c.sets[min(k, len(c.sets))-1])
		}
		bound, ok := impl.FarBound(c.g)
		checkNumber(t, "bound by hand of "+textOf(c.g), bound, ok, c.bound)
	}
}

// setCalls are the functions of one Graph, a set and a number.
func setCalls() map[string]any {
	return map[string]any{"IsFarSet": impl.IsFarSet, "SpreadOf": impl.SpreadOf, "IsStopping": impl.IsStopping}
}

// countCalls are the functions of one Graph and a number.
func countCalls() map[string]any {
	return map[string]any{"LargestFarSet": impl.LargestFarSet, "LeastSpreading": impl.LeastSpreading}
}

func TestOtherFarSetsAndThresholdsFail(t *testing.T) {
	for _, g := range fewGraphs() {
		for _, k := range otherNumbers() {
			for name, function := range countCalls() {
				checkFails(t, name, function, g, k)
			}
			for name, function := range setCalls() {
				for _, set := range [][]int{nil, nodesOf(g.Size), {g.Size}} {
					checkFails(t, name, function, g, set, k)
				}
			}
		}
	}
}

func TestFiresWithSetsThatAreNotValid(t *testing.T) {
	for _, g := range fewGraphs() {
		for _, set := range noSets(g.Size) {
			for name, function := range setCalls() {
				for _, k := range []int{1, 2, 8} {
					checkFails(t, name, function, g, set, k)
				}
			}
		}
	}
	for length := range 4 {
		for _, set := range listsOver(length, -1, 3) {
			for name, function := range setCalls() {
				if !isSetBy(3, set) {
					checkFails(t, name, function, inRow(3), set, 1)
				}
			}
		}
	}
}

func TestSpreadsByHand(t *testing.T) {
	row, full := inRow(4), complete(5)
	for _, c := range []struct {
		g      impl.Graph
		set    []int
		r      int
		spread []int
	}{
		{graph(0), nil, 1, nil}, {graph(0), nil, 8, nil}, {graph(1), nil, 1, nil}, {graph(1), []int{0}, 1, []int{0}}, {graph(8), []int{2, 5}, 1, []int{2, 5}},
		{row, nil, 1, nil}, {row, nil, 8, nil}, {row, nodesOf(4), 1, nodesOf(4)}, {row, nodesOf(4), 8, nodesOf(4)}, {row, []int{0}, 1, nodesOf(4)},
		{row, []int{3}, 1, nodesOf(4)}, {row, []int{0, 2}, 2, []int{0, 1, 2}}, {row, []int{0, 3}, 2, []int{0, 3}}, {row, []int{0, 1, 3}, 2, nodesOf(4)},
		{row, []int{0, 2}, 3, []int{0, 2}}, {graph(4, 0, 1, 2, 3), []int{1}, 1, []int{0, 1}}, {graph(4, 0, 1, 2, 3), []int{1, 2}, 2, []int{1, 2}},
		{full, []int{4}, 1, nodesOf(5)}, {full, []int{4}, 2, []int{4}}, {full, []int{2, 4}, 2, nodesOf(5)}, {full, []int{1, 2, 4}, 4, []int{1, 2, 4}},
		{full, []int{1, 2, 3, 4}, 4, nodesOf(5)}, {full, []int{1, 2, 3, 4}, 5, []int{1, 2, 3, 4}}, {complete(8), nodesOf(7), 7, nodesOf(8)},
		{complete(8), nodesOf(7), 8, nodesOf(7)}, {complete(8), nodesOf(6), 7, nodesOf(6)}, {star(5, 4), []int{0, 1, 2}, 3, []int{0, 1, 2, 4}},
		{star(5, 4), []int{0, 1, 2}, 4, []int{0, 1, 2}}, {star(5, 0), []int{0}, 2, []int{0}}, {star(5, 0), []int{0}, 1, nodesOf(5)},
		{cube(), []int{0, 3}, 2, []int{0, 1, 2, 3}}, {cube(), []int{0, 3, 5}, 2, nodesOf(8)}, {cube(), []int{0, 3, 5, 6}, 3, nodesOf(8)},
		{cycle(6, 6), []int{0, 2}, 2, []int{0, 1, 2}}, {cycle(6, 6), []int{0, 2, 4}, 2, nodesOf(6)},
	} {
		spread, ok := impl.SpreadOf(c.g, c.set, c.r)
		checkList(t, "spread by hand in "+textOf(c.g), spread, ok, c.spread)
	}
}

func TestLeastSpreadingByHand(t *testing.T) {
	for _, c := range []struct {
		g    impl.Graph
		sets [][]int // for 1, 2, .. ; those for greater r are like the last one
	}{
		{graph(0), [][]int{nil}}, {graph(1), [][]int{{0}}}, {graph(8), [][]int{nodesOf(8)}}, {inRow(2), [][]int{{0}, {0, 1}}},
		{inRow(4), [][]int{{0}, {0, 1, 3}, nodesOf(4)}}, {inRow(5), [][]int{{0}, {0, 2, 4}, nodesOf(5)}}, {graph(4, 0, 1, 2, 3), [][]int{{0, 2}, nodesOf(4)}},
		{complete(4), [][]int{{0}, {0, 1}, {0, 1, 2}, nodesOf(4)}}, {star(4, 3), [][]int{{0}, {0, 1, 2}, {0, 1, 2}, nodesOf(4)}},
		{complete(8), [][]int{{0}, {0, 1}, {0, 1, 2}, nodesOf(4), nodesOf(5), nodesOf(6), nodesOf(7), nodesOf(8)}},
		{star(4, 0), [][]int{{0}, {1, 2, 3}, {1, 2, 3}, nodesOf(4)}}, {cycle(4, 4), [][]int{{0}, {0, 2}, nodesOf(4)}}, {cycle(5, 5), [][]int{{0}, {0, 1, 3}, nodesOf(5)}},
		// Each node of a cube has three neighbors, so three of them spread only from a node of each edge.
		{cube(), [][]int{{0}, {0, 1, 6}, {0, 3, 5, 6}, nodesOf(8)}},
	} {
		for r := 1; r <= impl.MaxSize; r++ {
			want := c.sets[min(r, len(c.sets))-1]
			least, ok := impl.LeastSpreading(c.g, r)
			checkList(t, "spreading by hand in "+textOf(c.g), least, ok, want)
			if least := leastSpreadingBy(c.g, r); !slices.Equal(least, want) {
				t.Error("by hand", c.g, r, least, want)
			}
		}
	}
}

func TestStoppingByHand(t *testing.T) {
	row := inRow(4)
	for _, c := range []struct {
		g    impl.Graph
		set  []int
		r    int
		want bool
	}{
		{graph(0), nil, 1, false}, {row, nil, 1, false}, {row, nil, 8, false}, {graph(1), []int{0}, 1, true}, {graph(8), []int{4}, 1, true},
		{row, nodesOf(4), 1, true}, {row, []int{0}, 1, false}, {row, []int{0}, 2, true}, {row, []int{1}, 2, false}, {row, []int{1}, 3, true},
		{row, []int{1, 2}, 1, false}, {row, []int{1, 2}, 2, true}, {row, []int{0, 2}, 2, false}, {row, []int{0, 2}, 3, true}, {row, []int{0, 1, 2}, 1, false},
		{row, []int{1, 3}, 2, false}, {graph(4, 0, 1, 2, 3), []int{0, 1}, 1, true}, {graph(4, 0, 1, 2, 3), []int{0, 2}, 1, false},
		{complete(8), []int{0}, 7, false}, {complete(8), []int{0}, 8, true}, {complete(8), []int{0, 1}, 7, true}, {complete(8), []int{0, 1}, 6, false},
		{star(5, 4), []int{0, 1, 4}, 3, true}, {star(5, 4), []int{0, 1, 4}, 2, false}, {star(5, 4), []int{0, 1}, 1, false}, {star(5, 4), []int{0, 1}, 2, true},
		{cube(), []int{0, 1, 2, 3}, 2, true}, {cube(), []int{0, 1, 2, 3}, 1, false}, {cycle(6, 6), []int{2, 3}, 2, true},
	} {
		is, ok := impl.IsStopping(c.g, c.set, c.r)
		checkTold(t, "stopping by hand in "+textOf(c.g), is, ok, c.want)
	}
}

// checkSpreads compares the spreads and the stopping sets of a Graph with the test's own, and checks
// the last part of promise 8 for them.
func checkSpreads(t *testing.T, g impl.Graph, r int) {
	t.Helper()
	closed, sets := closedIn(g), subsetsOf(g.Size)
	var spreading, stopping []int
	for _, set := range sets {
		want := spreadOfBy(closed, g.Size, set, r)
		spread, ok := impl.SpreadOf(g, set, r)
		checkList(t, "spread in "+textOf(g), spread, ok, want)
		if len(spread) == g.Size {
			spreading = append(spreading, bitsBy(set))
		}
		is, ok := impl.IsStopping(g, set, r)
		checkTold(t, "stopping in "+textOf(g), is, ok, isStoppingBy(closed, g.Size, set, r))
		if is {
			stopping = append(stopping, bitsBy(set))
		}
	}
	for _, set := range sets {
		missed := slices.ContainsFunc(stopping, func(stop int) bool { return stop&bitsBy(set) == 0 })
		if missed == slices.Contains(spreading, bitsBy(set)) {
			t.Error("promise 8", g, r, set, missed)
		}
	}
	least, ok := impl.LeastSpreading(g, r)
	checkList(t, "spreading in "+textOf(g), least, ok, leastSpreadingBy(g, r))
}

func TestPromise8SpreadingAndStoppingSets(t *testing.T) {
	t.Parallel()
	for _, g := range append(smallGraphs(5), eachOf(allGraphs(6), 211)...) {
		for r := 1; r <= g.Size+1; r++ {
			checkSpreads(t, g, r)
		}
		checkSpreads(t, g, 8)
	}
}

func TestPromise8SpreadingSetsOfGreatGraphs(t *testing.T) {
	t.Parallel()
	for _, g := range append(eachOf(greatGraphs(), 3), cube(), ladder(), complete(8), star(8, 7), inRow(8)) {
		for r := 1; r <= 8; r++ {
			checkSpreads(t, g, r)
		}
	}
}

func TestPromise8BurningNumbersAndRadius(t *testing.T) {
	t.Parallel()
	connected := 0
	for _, g := range append(burningGraphs(), allGraphs(6)...) {
		number, ok := impl.BurningNumber(g)
		best, found := impl.BestBurning(g)
		burnt, covered := impl.BurntBy(g, best)
		if !ok || !found || !covered || len(best) != number || len(burnt) != g.Size {
			t.Error("burning", g, number, best, burnt)
		}
		bound, ok := impl.FarBound(g)
		if !ok || bound > number {
			t.Error("burning number and bound", g, number, bound)
		}
		if radius, ok := impl.RadiusOf(g); ok {
			connected++
			if number > radius+1 {
				t.Error("burning number and radius", g, number, radius)
			}
		}
	}
	if connected < 10000 {
		t.Error("few connected Graphs:", connected)
	}
}

// wholeCalls are the functions of one Graph.
func wholeCalls() map[string]any {
	return map[string]any{"BurningNumber": impl.BurningNumber, "BestBurning": impl.BestBurning, "FarBound": impl.FarBound}
}

// fireCalls are the functions of one Graph, a node and a number of defenders.
func fireCalls() map[string]any {
	return map[string]any{"MostSaved": impl.MostSaved, "BestFirePlan": impl.BestFirePlan}
}

func TestFiresOnGraphsThatAreNotValid(t *testing.T) {
	for name, g := range brokenGraphs() {
		for call, function := range wholeCalls() {
			checkFails(t, call+" of "+name, function, g)
		}
		for d := range 5 {
			checkFails(t, "SavedSum of "+name, impl.SavedSum, g, d-1)
			for _, start := range []int{-1, 0, 1, g.Size - 1, g.Size} {
				checkFireFails(t, name, g, start, d)
			}
		}
		for _, set := range [][]int{nil, {0}, {0, 1}, nodesOf(min(max(g.Size, 0), 9))} {
			checkFails(t, "BurntBy of "+name, impl.BurntBy, g, set)
			for k := range impl.MaxSize + 2 {
				for call, function := range setCalls() {
					checkFails(t, call+" of "+name, function, g, set, k)
				}
			}
		}
		for k := range impl.MaxSize + 2 {
			for call, function := range countCalls() {
				checkFails(t, call+" of "+name, function, g, k)
			}
		}
	}
}

// checkPlanCalls makes all calls of a Graph with a plan.
func checkPlanCalls(t *testing.T, g impl.Graph, start int, d int, plan [][]int) {
	t.Helper()
	// The room behind the sets and in them is what an append would write to.
	room := append(slices.Clone(plan), []int{-9})
	for i, set := range plan {
		room[i] = append(slices.Clone(set), -7)[:len(set)]
	}
	for name, function := range planCalls() {
		checkCall(t, name, function, g, start, d, room[:len(plan)])
	}
	for _, set := range room[:len(plan)] {
		if set[:len(set)+1][len(set)] != -7 {
			t.Fatal("written behind a set", g, plan)
		}
	}
	if last := room[len(plan)]; len(last) != 1 || last[0] != -9 {
		t.Fatal("written behind a plan", g, plan)
	}
}

// checkFireCalls makes all calls of a Graph with some lists.
func checkFireCalls(t *testing.T, g impl.Graph) {
	t.Helper()
	for name, function := range wholeCalls() {
		checkCall(t, name, function, g)
	}
	for d := range 5 {
		checkCall(t, "SavedSum", impl.SavedSum, g, d-1)
		for _, start := range []int{-1, 0, 1, g.Size - 1} {
			for name, function := range fireCalls() {
				checkCall(t, name, function, g, start, d)
			}
			best, _ := impl.BestFirePlan(g, start, d)
			for _, plan := range [][][]int{best, nil, {{}}, {{1}}, {{2}, {1}}, {{1, 2}}, {{2}, {2}}, {{0}}, {{7, 3}}} {
				checkPlanCalls(t, g, start, d, plan)
			}
		}
	}
	burning, _ := impl.BestBurning(g)
	for _, k := range []int{0, 1, 2, 3, 8, 9} {
		for name, function := range countCalls() {
			checkCall(t, name, function, g, k)
		}
		far, _ := impl.LargestFarSet(g, k)
		for _, list := range [][]int{far, burning, nil, {0}, {0, 1}, {1, 0}, {0, 2}, nodesOf(min(max(g.Size, 0), 9)), {0, 0, 3}, {7}, {-1}} {
			room := append(slices.Clone(list), -7, -8)
			checkCall(t, "BurntBy", impl.BurntBy, g, room[:len(list)])
			for name, function := range setCalls() {
				checkCall(t, name, function, g, room[:len(list)], k)
			}
			if room[len(list)] != -7 || room[len(list)+1] != -8 {
				t.Fatal("written behind a list", g, list)
			}
		}
	}
}

func TestFiresLeaveTheirArgumentsAlone(t *testing.T) {
	graphs := append(smallGraphs(3), allGraphs(4)[20:30]...)
	graphs = append(append(graphs, greatGraphs()[:6]...), treeGraphs()[:2]...)
	checkWithRoom(t, append(graphs, cycle(8, 8), spider(), inRow(8)), checkFireCalls)
}

// callAllOfFires makes all calls of a Graph.
func callAllOfFires(g impl.Graph) {
	for d := range 4 {
		impl.SavedSum(g, d)
		for start := range g.Size {
			impl.MostSaved(g, start, d)
			plan, _ := impl.BestFirePlan(g, start, d)
			impl.IsFirePlan(g, start, d, plan)
			impl.BurningSets(g, start, d, plan)
			impl.SavedNodes(g, start, d, plan)
		}
	}
	impl.BurningNumber(g)
	burning, _ := impl.BestBurning(g)
	impl.BurntBy(g, burning)
	impl.FarBound(g)
	for k := 1; k <= impl.MaxSize; k++ {
		far, _ := impl.LargestFarSet(g, k)
		least, _ := impl.LeastSpreading(g, k)
		for _, set := range [][]int{far, least} {
			impl.IsFarSet(g, set, k)
			impl.SpreadOf(g, set, k)
			impl.IsStopping(g, set, k)
		}
	}
}

func TestFiresReturnInTime(t *testing.T) {
	graphs := append(append(greatGraphs(), treeGraphs()...), halvedGraphs()...)
	checkInTime(t, func() {
		for _, g := range append(graphs, graph(8), inRow(8), complete(8)) {
			callAllOfFires(g)
		}
		long := nodesOf(1 << 22)
		for _, g := range []impl.Graph{graph(8), complete(8)} {
			for _, plan := range [][][]int{make([][]int, 1<<22), slices.Repeat([][]int{long}, 8), {{1}, long}} {
				impl.IsFirePlan(g, 0, 3, plan)
				impl.BurningSets(g, 0, 3, plan)
				impl.SavedNodes(g, 0, 3, plan)
			}
			impl.BurntBy(g, long)
			impl.BurntBy(g, make([]int, 1<<22))
			impl.IsFarSet(g, long, 8)
			impl.SpreadOf(g, long, 8)
			impl.IsStopping(g, long, 8)
		}
	})
}
