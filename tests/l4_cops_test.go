package tests

import (
	"math"
	"reflect"
	"slices"
	"strconv"
	"testing"

	"loop.example/g01109/impl"
)

// copGame is the game of k cops on a Graph by its description. A place is that of a list of cops
// among all lists.
type copGame struct {
	g      impl.Graph
	k      int
	name   string
	closed closedTable
	lists  [][]int
	moves  [][]int
	times  [][]int
}

// copListsBy returns all ascending lists of k nodes.
func copListsBy(size int, k int) [][]int {
	return slices.DeleteFunc(listsOver(k, 0, size-1), func(list []int) bool { return !slices.IsSorted(list) })
}

// copMovesBy lets each of the cops stay or go to a neighbor, in each of the ways.
func copMovesBy(closed closedTable, ways [][]int, cops []int) [][]int {
	var moves [][]int
	for _, to := range ways {
		if !slices.ContainsFunc(nodesOf(len(cops)), func(i int) bool { return !closed[cops[i]][to[i]] }) {
			moves = append(moves, slices.Sorted(slices.Values(to)))
		}
	}
	slices.SortFunc(moves, slices.Compare)
	return slices.CompactFunc(moves, slices.Equal)
}

// copGameBy returns the game of k cops on a Graph with nodes.
func copGameBy(g impl.Graph, k int) copGame {
	c := copGame{g: g, k: k, name: strconv.Itoa(k) + " cops on " + textOf(g), closed: closedIn(g), lists: copListsBy(g.Size, k)}
	ways := listsOver(k, 0, g.Size-1)
	for _, cops := range c.lists {
		var places []int
		for _, to := range copMovesBy(c.closed, ways, cops) {
			places = append(places, c.placeOf(to))
		}
		c.moves = append(c.moves, places)
	}
	c.times = c.timesOf()
	return c
}

// copGames returns the games of all numbers of cops on Graphs with nodes.
func copGames(graphs []impl.Graph) []copGame {
	var all []copGame
	for _, g := range graphs {
		for k := 1; k <= impl.MaxCops && g.Size > 0; k++ {
			all = append(all, copGameBy(g, k))
		}
	}
	return all
}

// eachOf returns some elements of a list, one of each so many.
func eachOf[T any](list []T, step int) []T {
	var some []T
	for i := step / 2; i < len(list); i += step {
		some = append(some, list[i])
	}
	return some
}

// fewCopGames returns games on Graphs of all Sizes.
func fewCopGames() []copGame {
	graphs := append(smallGraphs(3), eachOf(allGraphs(4), 3)...)
	graphs = append(graphs, eachOf(allGraphs(5), 101)...)
	graphs = append(graphs, eachOf(allGraphs(6), 3001)...)
	graphs = append(graphs, greatGraphs()[:15]...)
	return copGames(append(graphs, treeGraphs()[:3]...))
}

func (c copGame) placeOf(cops []int) int {
	place, _ := slices.BinarySearchFunc(c.lists, cops, slices.Compare[[]int])
	return place
}

// caughtAt tells whether the robber at a node is caught by the cops of a place.
func (c copGame) caughtAt(place int, robber int) bool {
	return slices.Contains(c.lists[place], robber)
}

// caughtIn tells whether the cops have a move behind which the robber is caught, or each of its
// moves leads to a number in 0..t-1.
func (c copGame) caughtIn(table [][]int, place int, robber int, t int) bool {
	return slices.ContainsFunc(c.moves[place], func(to int) bool {
		return c.caughtAt(to, robber) || !slices.ContainsFunc(nodesOf(c.g.Size), func(x int) bool {
			return c.closed[robber][x] && (table[to][x] < 0 || table[to][x] > t-1)
		})
	})
}

// timesOf finds the times: first 0, then 1, and so on, until there is none of a number.
func (c copGame) timesOf() [][]int {
	times := make([][]int, len(c.lists))
	var found [][2]int
	for place := range times {
		times[place] = slices.Repeat([]int{-1}, c.g.Size)
		for _, x := range c.lists[place] {
			found = append(found, [2]int{place, x})
		}
	}
	for t := 0; len(found) > 0; t++ {
		for _, at := range found {
			times[at[0]][at[1]] = t
		}
		found = nil
		for place, row := range times {
			for robber := range row {
				if row[robber] < 0 && c.caughtIn(times, place, robber, t+1) {
					found = append(found, [2]int{place, robber})
				}
			}
		}
	}
	return times
}

// longest returns the greatest time that the robber can leave cops with that have moved to a
// place: 0 if it is caught, the greatest number if there is one without time.
func (c copGame) longest(place int, robber int) int {
	most := 0
	for x, time := range c.times[place] {
		if c.closed[robber][x] && !c.caughtAt(place, robber) {
			most = max(most, time)
		}
		if c.closed[robber][x] && time < 0 && !c.caughtAt(place, robber) {
			return math.MaxInt
		}
	}
	return most
}

// copReply returns the place of the best move of the cops.
func (c copGame) copReply(place int, robber int) int {
	best := c.moves[place][0]
	for _, to := range c.moves[place] {
		if c.longest(to, robber) < c.longest(best, robber) {
			best = to
		}
	}
	return best
}

// best returns the first place for which all times are there and the greatest is least, and this
// time; -1 if there is none.
func (c copGame) best() (int, int) {
	best, least := -1, math.MaxInt
	for place, row := range c.times {
		if !slices.Contains(row, -1) && slices.Max(row) < least {
			best, least = place, slices.Max(row)
		}
	}
	return best, least
}

// isProof tells by the description whether a table is a capture proof.
func (c copGame) isProof(table [][]int) bool {
	if len(table) != len(c.lists) || slices.ContainsFunc(table, func(row []int) bool { return len(row) != c.g.Size }) {
		return false
	}
	for place, row := range table {
		for robber, t := range row {
			if t < -1 || t == 0 && !c.caughtAt(place, robber) || t >= 1 && !c.caughtIn(table, place, robber, t) {
				return false
			}
		}
	}
	return slices.ContainsFunc(table, func(row []int) bool { return !slices.Contains(row, -1) })
}

// isEvasion tells by the description whether lists are an evasion.
func (c copGame) isEvasion(sets [][]int) bool {
	if len(sets) != len(c.lists) {
		return false
	}
	for place, set := range sets {
		if len(set) == 0 || !c.isSet(set) {
			return false
		}
		for _, x := range set {
			if c.caughtAt(place, x) {
				return false
			}
		}
	}
	for place, set := range sets {
		for _, x := range set {
			for _, to := range c.moves[place] {
				flees := slices.ContainsFunc(sets[to], func(y int) bool { return c.closed[x][y] })
				if c.caughtAt(to, x) || !flees {
					return false
				}
			}
		}
	}
	return true
}

// isSet tells whether a list is strictly ascending and has nodes only.
func (c copGame) isSet(list []int) bool {
	for i, x := range list {
		if x < 0 || x >= c.g.Size || i > 0 && x <= list[i-1] {
			return false
		}
	}
	return true
}

// checkTable compares a result of lists and a bool with the wanted lists.
func checkTable(t *testing.T, name string, got [][]int, ok bool, want [][]int) {
	t.Helper()
	if !ok || !sameLists(got, want) {
		t.Errorf("%s: got %v, %v, want %v", name, got, ok, want)
	}
}

// cycle returns the cycle of some nodes, at least three, in a Graph of a Size.
func cycle(size int, nodes int) impl.Graph {
	return graphBy(size, func(x, y int) bool { return y < nodes && (y == x+1 || x == 0 && y == nodes-1) })
}

// inRow returns the nodes of a Size in a row.
func inRow(size int) impl.Graph {
	return graphBy(size, func(x, y int) bool { return y == x+1 })
}

// complete returns the Graph of a Size with all edges.
func complete(size int) impl.Graph {
	return graphBy(size, func(x, y int) bool { return true })
}

func TestListsOfCops(t *testing.T) {
	counts := [][]int{{1, 1, 1}, {2, 3, 4}, {3, 6, 10}, {4, 10, 20}, {5, 15, 35}, {6, 21, 56}, {7, 28, 84}, {8, 36, 120}}
	for i, row := range counts {
		for j, count := range row {
			for _, g := range []impl.Graph{graph(i + 1), complete(i + 1)} {
				got, ok := impl.CopLists(g, j+1)
				checkTable(t, "lists", got, ok, copListsBy(i+1, j+1))
				checkNumber(t, "number of lists", len(got), ok, count)
			}
		}
	}
	got, ok := impl.CopLists(inRow(3), 1)
	checkTable(t, "one cop", got, ok, [][]int{{0}, {1}, {2}})
	got, ok = impl.CopLists(inRow(3), 2)
	checkTable(t, "two cops", got, ok, [][]int{{0, 0}, {0, 1}, {0, 2}, {1, 1}, {1, 2}, {2, 2}})
	got, ok = impl.CopLists(graph(2), 3)
	checkTable(t, "three cops", got, ok, [][]int{{0, 0, 0}, {0, 0, 1}, {0, 1, 1}, {1, 1, 1}})
}

func TestMovesOfCopsByHand(t *testing.T) {
	for _, c := range []struct {
		name string
		g    impl.Graph
		cops []int
		want [][]int
	}{
		{"one node", graph(1), []int{0}, [][]int{{0}}},
		{"three cops at one node", graph(1), []int{0, 0, 0}, [][]int{{0, 0, 0}}},
		{"two nodes apart", graph(2), []int{0, 1}, [][]int{{0, 1}}},
		{"the middle of a row", inRow(3), []int{1}, [][]int{{0}, {1}, {2}}},
		{"both ends", inRow(3), []int{0, 2}, [][]int{{0, 1}, {0, 2}, {1, 1}, {1, 2}}},
		{"two at one end", inRow(3), []int{0, 0}, [][]int{{0, 0}, {0, 1}, {1, 1}}},
		{"two in the middle", inRow(3), []int{1, 1}, [][]int{{0, 0}, {0, 1}, {0, 2}, {1, 1}, {1, 2}, {2, 2}}},
		{"three at one end", inRow(2), []int{0, 0, 0}, [][]int{{0, 0, 0}, {0, 0, 1}, {0, 1, 1}, {1, 1, 1}}},
		{"two of three at one end", inRow(3), []int{0, 0, 2}, [][]int{{0, 0, 1}, {0, 0, 2}, {0, 1, 1}, {0, 1, 2}, {1, 1, 1}, {1, 1, 2}}},
		{"in two parts", graph(3, 0, 1), []int{1, 2}, [][]int{{0, 2}, {1, 2}}},
		{"the ends of four in a row", inRow(4), []int{0, 3}, [][]int{{0, 2}, {0, 3}, {1, 2}, {1, 3}}},
		{"past each other", inRow(4), []int{1, 2}, [][]int{{0, 1}, {0, 2}, {0, 3}, {1, 1}, {1, 2}, {1, 3}, {2, 2}, {2, 3}}},
		{"opposite nodes of a cycle", cycle(4, 4), []int{0, 2}, [][]int{{0, 1}, {0, 2}, {0, 3}, {1, 1}, {1, 2}, {1, 3}, {2, 3}, {3, 3}}},
		{"a complete Graph", complete(8), []int{2, 2, 5}, copListsBy(8, 3)},
	} {
		got, ok := impl.CopMoves(c.g, c.cops)
		checkTable(t, c.name, got, ok, c.want)
	}
}

func TestMovesOfAllCops(t *testing.T) {
	for _, c := range fewCopGames() {
		for place, cops := range c.lists {
			var want [][]int
			for _, to := range c.moves[place] {
				want = append(want, c.lists[to])
			}
			got, ok := impl.CopMoves(c.g, cops)
			checkTable(t, c.name, got, ok, want)
		}
	}
}

func TestCaptureTimesByHand(t *testing.T) {
	for _, c := range []struct {
		name string
		g    impl.Graph
		k    int
		want [][]int
	}{
		{"one node", graph(1), 1, [][]int{{0}}},
		{"one node, three cops", graph(1), 3, [][]int{{0}}},
		{"two nodes apart", graph(2), 1, [][]int{{0, -1}, {-1, 0}}},
		{"two nodes apart, two cops", graph(2), 2, [][]int{{0, -1}, {0, 0}, {-1, 0}}},
		{"two nodes apart, three cops", graph(2), 3, [][]int{{0, -1}, {0, 0}, {0, 0}, {-1, 0}}},
		{"two neighbors", inRow(2), 1, [][]int{{0, 1}, {1, 0}}},
		{"a row", inRow(3), 1, [][]int{{0, 1, 2}, {1, 0, 1}, {2, 1, 0}}},
		{"a row, two cops", inRow(3), 2, [][]int{{0, 1, 2}, {0, 0, 1}, {0, 1, 0}, {1, 0, 1}, {1, 0, 0}, {2, 1, 0}}},
		{"four in a row", inRow(4), 1, [][]int{{0, 1, 3, 3}, {1, 0, 1, 2}, {2, 1, 0, 1}, {3, 3, 1, 0}}},
		{"a cycle", cycle(4, 4), 1, [][]int{{0, 1, -1, 1}, {1, 0, 1, -1}, {-1, 1, 0, 1}, {1, -1, 1, 0}}},
		{"a cycle, two cops", cycle(4, 4), 2, [][]int{
			{0, 1, 2, 1}, {0, 0, 1, 1}, {0, 1, 0, 1}, {0, 1, 1, 0}, {1, 0, 1, 2},
			{1, 0, 0, 1}, {1, 0, 1, 0}, {2, 1, 0, 1}, {1, 1, 0, 0}, {1, 2, 1, 0},
		}},
		{"a cycle of three", cycle(3, 3), 1, [][]int{{0, 1, 1}, {1, 0, 1}, {1, 1, 0}}},
		{"an edge and a node", graph(3, 0, 1), 2, [][]int{{0, 1, -1}, {0, 0, -1}, {0, 1, 0}, {1, 0, -1}, {1, 0, 0}, {-1, -1, 0}}},
	} {
		got, ok := impl.CaptureTimes(c.g, c.k)
		checkTable(t, c.name, got, ok, c.want)
	}
}

// checkTimes compares all that is told of a game by its times.
func checkTimes(t *testing.T, c copGame) {
	t.Helper()
	times, ok := impl.CaptureTimes(c.g, c.k)
	checkTable(t, "times of "+c.name, times, ok, c.times)
	var safe [][]int
	for _, row := range c.times {
		safe = append(safe, slices.DeleteFunc(nodesOf(c.g.Size), func(x int) bool { return row[x] >= 0 }))
	}
	sets, ok := impl.SafeSets(c.g, c.k)
	checkTable(t, "safe sets of "+c.name, sets, ok, safe)
	place, least := c.best()
	can, ok := impl.CanCatch(c.g, c.k)
	checkTold(t, c.name, can, ok, place >= 0)
	if place < 0 {
		checkFails(t, "BestCops, "+c.name, impl.BestCops, c.g, c.k)
	} else if cops, time, ok := impl.BestCops(c.g, c.k); !ok || !slices.Equal(cops, c.lists[place]) || time != least {
		t.Error("best of", c.name, cops, time, ok, c.lists[place], least)
	}
}

func TestTimesByTheGameOfCops(t *testing.T) {
	t.Parallel()
	graphs := append(sampleGraphs(), treeGraphs()[:30]...)
	for _, g := range graphs {
		number := 0
		for _, c := range copGames([]impl.Graph{g}) {
			checkTimes(t, c)
			if place, _ := c.best(); place >= 0 && number == 0 {
				number = c.k
			}
		}
		if number == 0 {
			checkFails(t, "CopNumber of "+textOf(g), impl.CopNumber, g)
			continue
		}
		got, ok := impl.CopNumber(g)
		checkNumber(t, "cop number of "+textOf(g), got, ok, number)
	}
}

func TestTimesOfOneCopInBothChapters(t *testing.T) {
	for _, g := range gameGraphs()[1:] {
		want, there := impl.CopTimes(g)
		got, ok := impl.CaptureTimes(g, 1)
		checkTable(t, "one cop on "+textOf(g), got, ok && there, want)
	}
}

// bestCops are cops of a number that are best, and their time.
type bestCops struct {
	k    int
	cops []int
	time int
}

func TestCopNumbersByHand(t *testing.T) {
	sides := graphBy(8, func(x, y int) bool { return x < 4 && y >= 4 })
	for _, c := range []struct {
		name   string
		g      impl.Graph
		number int
		best   []bestCops
	}{
		{"one node", graph(1), 1, []bestCops{{1, []int{0}, 0}, {2, []int{0, 0}, 0}, {3, []int{0, 0, 0}, 0}}},
		{"two nodes apart", graph(2), 2, []bestCops{{2, []int{0, 1}, 0}, {3, []int{0, 0, 1}, 0}}},
		{"three nodes apart", graph(3), 3, []bestCops{{3, []int{0, 1, 2}, 0}}},
		{"four nodes apart", graph(4), 0, nil},
		{"eight nodes apart", graph(8), 0, nil},
		{"an edge and two nodes", graph(4, 0, 1), 3, []bestCops{{3, []int{0, 2, 3}, 1}}},
		{"two edges", graph(4, 0, 2, 1, 3), 2, []bestCops{{2, []int{0, 1}, 1}, {3, []int{0, 0, 1}, 1}}},
		{"a cycle and a node", cycle(5, 4), 3, []bestCops{{3, []int{0, 1, 4}, 1}}},
		{"two cycles of four", graph(8, 0, 1, 0, 3, 1, 2, 2, 3, 4, 5, 4, 7, 5, 6, 6, 7), 0, nil},
		{"two neighbors", inRow(2), 1, []bestCops{{1, []int{0}, 1}, {2, []int{0, 1}, 0}, {3, []int{0, 0, 1}, 0}}},
		{"three in a row", inRow(3), 1, []bestCops{{1, []int{1}, 1}, {2, []int{0, 1}, 1}, {3, []int{0, 1, 2}, 0}}},
		{"eight in a row", inRow(8), 1, []bestCops{{1, []int{3}, 4}, {3, []int{0, 3, 6}, 1}}},
		{"a cycle of three", cycle(3, 3), 1, []bestCops{{1, []int{0}, 1}, {2, []int{0, 0}, 1}, {3, []int{0, 1, 2}, 0}}},
		{"a cycle of four", cycle(4, 4), 2, []bestCops{{2, []int{0, 1}, 1}, {3, []int{0, 0, 1}, 1}}},
		{"a cycle of five", cycle(5, 5), 2, []bestCops{{2, []int{0, 2}, 1}}},
		{"a cycle of eight", cycle(8, 8), 2, []bestCops{{3, []int{0, 2, 5}, 1}}},
		{"a complete Graph", complete(8), 1, []bestCops{{1, []int{0}, 1}, {2, []int{0, 0}, 1}, {3, []int{0, 0, 0}, 1}}},
		{"leaves of the last node", graph(5, 0, 4, 1, 4, 2, 4, 3, 4), 1, []bestCops{{1, []int{4}, 1}, {2, []int{0, 4}, 1}, {3, []int{0, 0, 4}, 1}}},
		{"a cube", cube(), 2, []bestCops{{2, []int{0, 7}, 1}}},
		{"two sides", sides, 2, []bestCops{{2, []int{0, 4}, 1}}},
	} {
		if c.number == 0 {
			checkFails(t, "CopNumber: "+c.name, impl.CopNumber, c.g)
		} else {
			number, ok := impl.CopNumber(c.g)
			checkNumber(t, c.name, number, ok, c.number)
		}
		for k := 1; k <= impl.MaxCops; k++ {
			can, ok := impl.CanCatch(c.g, k)
			checkTold(t, c.name, can, ok, c.number > 0 && k >= c.number)
			if !can {
				checkFails(t, "BestCops: "+c.name, impl.BestCops, c.g, k)
			}
		}
		for _, want := range c.best {
			if cops, time, ok := impl.BestCops(c.g, want.k); !ok || !slices.Equal(cops, want.cops) || time != want.time {
				t.Error("best cops:", c.name, cops, time, ok, want)
			}
		}
	}
}

// TestCopNumbersOfParts uses that cops cannot help each other from part to part.
func TestCopNumbersOfParts(t *testing.T) {
	for _, g := range sampleGraphs()[1:] {
		parts, ok := impl.PartsOf(g)
		sum := 0
		for _, part := range parts {
			alone, _ := impl.InducedGraph(g, part)
			number, there := impl.CopNumber(alone)
			ok = ok && there && number <= 2
			sum += number
		}
		if !ok {
			t.Error("parts that two cops do not win", g)
		}
		if sum > impl.MaxCops {
			checkFails(t, "CopNumber of "+textOf(g), impl.CopNumber, g)
			continue
		}
		number, ok := impl.CopNumber(g)
		checkNumber(t, "cop number of "+textOf(g), number, ok, sum)
	}
}

// checkReplies compares the moves of both from a situation.
func checkReplies(t *testing.T, c copGame, place int, robber int) {
	t.Helper()
	cops := c.lists[place]
	if c.times[place][robber] == 0 {
		checkFails(t, "CopReply, "+c.name, impl.CopReply, c.g, cops, robber)
		checkFails(t, "RobberReply, "+c.name, impl.RobberReply, c.g, cops, robber)
		checkFails(t, "PlayCops, "+c.name, impl.PlayCops, c.g, cops, robber, 3)
		return
	}
	flee, ok := impl.RobberReply(c.g, cops, robber)
	checkNumber(t, "robber, "+c.name, flee, ok, robberBy(c.closed, c.times, place, robber))
	if c.times[place][robber] < 0 {
		checkFails(t, "CopReply, "+c.name, impl.CopReply, c.g, cops, robber)
		return
	}
	reply, ok := impl.CopReply(c.g, cops, robber)
	checkList(t, "cops, "+c.name, reply, ok, c.lists[c.copReply(place, robber)])
}

func TestRepliesByTheGameOfCops(t *testing.T) {
	t.Parallel()
	for _, c := range fewCopGames() {
		// On the greater Graphs, some of the situations only.
		step := max(len(c.lists)*c.g.Size/80, 1)
		for at := step / 2; at < len(c.lists)*c.g.Size; at += step {
			checkReplies(t, c, at/c.g.Size, at%c.g.Size)
		}
	}
}

func TestRepliesByHand(t *testing.T) {
	for _, c := range []struct {
		name   string
		g      impl.Graph
		cops   []int
		robber int
		reply  []int
		flee   int
	}{
		{"a row", inRow(3), []int{0}, 2, []int{1}, 2},
		{"a neighbor", inRow(3), []int{1}, 2, []int{2}, 2},
		{"a robber that had better go", inRow(4), []int{0}, 2, []int{1}, 2},
		{"two neighbors", inRow(2), []int{0}, 1, []int{1}, 1},
		{"never caught", cycle(4, 4), []int{0}, 2, nil, 2},
		{"caught if it stays", cycle(4, 4), []int{0}, 1, []int{1}, 2},
		{"two cops at one node", cycle(4, 4), []int{0, 0}, 2, []int{0, 1}, 2},
		{"two cops at one node, and a neighbor", cycle(4, 4), []int{0, 0}, 1, []int{0, 1}, 2},
		{"between two cops", cycle(4, 4), []int{0, 2}, 1, []int{0, 1}, 1},
		{"caught by one or the other", cycle(4, 4), []int{1, 3}, 0, []int{0, 0}, 0},
		{"a complete Graph", complete(4), []int{2, 3}, 1, []int{0, 1}, 0},
		{"one cop in a complete Graph", complete(4), []int{1}, 3, []int{3}, 0},
		{"three cops at one node", inRow(3), []int{0, 0, 0}, 2, []int{0, 0, 1}, 2},
		{"the cop of its part", graph(3, 0, 1), []int{0, 2}, 1, []int{1, 2}, 1},
		{"no cop in its part", graph(3, 0, 1), []int{0, 1}, 2, nil, 2},
		{"the least node of another part", graph(5, 0, 1, 2, 3, 3, 4), []int{0, 1}, 4, nil, 3},
		{"two nodes apart", graph(2), []int{0, 0}, 1, nil, 1},
	} {
		flee, ok := impl.RobberReply(c.g, c.cops, c.robber)
		checkNumber(t, "robber: "+c.name, flee, ok, c.flee)
		if c.reply == nil {
			checkFails(t, "CopReply: "+c.name, impl.CopReply, c.g, c.cops, c.robber)
			continue
		}
		reply, ok := impl.CopReply(c.g, c.cops, c.robber)
		checkList(t, "cops: "+c.name, reply, ok, c.reply)
	}
}

// changedTables returns tables that differ from one in a number: it is another small one, or one
// far away.
func changedTables(table [][]int, few bool) [][][]int {
	var all [][][]int
	for place, row := range table {
		for x, old := range row {
			for _, number := range []int{-3, -2, -1, 0, 1, 2, 3, old - 1, old + 1, 1 << 40, math.MaxInt, math.MinInt} {
				if number == old || few && (place*7+x*3+number%5)%9 != 4 {
					continue
				}
				changed := deepCopy(reflect.ValueOf(table)).Interface().([][]int)
				changed[place][x] = number
				all = append(all, changed)
			}
		}
	}
	return all
}

func TestProofsWithOneNumberChanged(t *testing.T) {
	t.Parallel()
	told := map[bool]int{}
	for _, c := range fewCopGames() {
		place, _ := c.best()
		got, ok := impl.IsCaptureProof(c.g, c.k, c.times)
		checkTold(t, "the times of "+c.name, got, ok, place >= 0)
		if c.g.Size > 4 && c.k == 3 {
			continue
		}
		for _, table := range changedTables(c.times, c.g.Size > 3) {
			want := c.isProof(table)
			got, ok := impl.IsCaptureProof(c.g, c.k, table)
			checkTold(t, "a table for "+c.name, got, ok, want)
			told[want]++
		}
	}
	if told[true] < 500 || told[false] < 500 {
		t.Error("few tables of a kind:", told)
	}
}

// grownTables returns tables with all numbers above 0 greater, and with those of the caught
// robber changed.
func grownTables(table [][]int) [][][]int {
	var all [][][]int
	for _, grow := range []func(x int) int{
		func(x int) int { return x + 1 },
		func(x int) int { return 3 * x },
		func(x int) int { return x + math.MaxInt/2 },
		func(x int) int { return x * (x + 1) },
		func(x int) int { return x - 1 },
		func(x int) int { return min(x, 2) },
	} {
		above, caught := [][]int{}, [][]int{}
		for _, row := range table {
			up, other := slices.Clone(row), slices.Clone(row)
			for x, number := range row {
				if number > 0 {
					up[x] = grow(number)
				}
				if number == 0 {
					other[x] = grow(number)
				}
			}
			above, caught = append(above, up), append(caught, other)
		}
		all = append(all, above, caught)
	}
	return all
}

func TestProofsWithManyNumbersChanged(t *testing.T) {
	t.Parallel()
	for _, c := range fewCopGames() {
		for i, table := range grownTables(c.times) {
			got, ok := impl.IsCaptureProof(c.g, c.k, table)
			checkTold(t, "grown table "+strconv.Itoa(i)+" for "+c.name, got, ok, c.isProof(table))
		}
	}
}

func TestProofsByHand(t *testing.T) {
	path, apart := inRow(3), graph(2)
	for _, c := range []struct {
		name  string
		g     impl.Graph
		k     int
		table [][]int
		want  bool
	}{
		{"the times", path, 1, [][]int{{0, 1, 2}, {1, 0, 1}, {2, 1, 0}}, true},
		{"greater numbers", path, 1, [][]int{{0, 1, 3}, {1, 0, 1}, {9, 1, 0}}, true},
		{"a number too small", path, 1, [][]int{{0, 1, 1}, {1, 0, 1}, {2, 1, 0}}, false},
		{"one list without -1", path, 1, [][]int{{-1, -1, -1}, {1, 0, 1}, {-1, -1, -1}}, true},
		{"numbers beside -1", path, 1, [][]int{{5, 7, -1}, {1, 0, 1}, {-1, 2, -1}}, true},
		{"each list with a -1", path, 1, [][]int{{0, 1, -1}, {1, 0, -1}, {-1, 1, 0}}, false},
		{"nothing but -1", path, 1, [][]int{{-1, -1, -1}, {-1, -1, -1}, {-1, -1, -1}}, false},
		{"a 0 where the robber is free", path, 1, [][]int{{0, 0, 2}, {1, 0, 1}, {2, 1, 0}}, false},
		{"a 0 beside -1", path, 1, [][]int{{0, 1, -1}, {1, 0, 1}, {0, -1, 0}}, false},
		{"a number less than -1", path, 1, [][]int{{0, 1, -2}, {1, 0, 1}, {2, 1, 0}}, false},
		{"the least number", path, 1, [][]int{{0, 1, 2}, {1, 0, 1}, {math.MinInt, 1, 0}}, false},
		{"the greatest number", path, 1, [][]int{{0, math.MaxInt, 2}, {1, 0, 1}, {2, 1, 0}}, true},
		{"a way to a caught robber without a number", path, 1, [][]int{{0, 1, 2}, {1, -1, 1}, {2, 1, 0}}, false},
		{"a way to a caught robber with a number of 1", path, 1, [][]int{{0, 1, 2}, {1, 1, 1}, {2, 1, 0}}, true},
		{"a way to a caught robber with a number of 2", path, 1, [][]int{{0, 1, 2}, {1, 2, 1}, {2, 1, 0}}, false},
		{"greater numbers before it", path, 1, [][]int{{0, 1, 3}, {1, 2, 1}, {3, 1, 0}}, true},
		{"a caught robber with -1", path, 1, [][]int{{-1, 1, 2}, {1, 0, 1}, {2, 1, 0}}, true},
		{"no lists", path, 1, [][]int{}, false},
		{"a list too few", path, 1, [][]int{{0, 1, 2}, {1, 0, 1}}, false},
		{"a list too many", path, 1, [][]int{{0, 1, 2}, {1, 0, 1}, {2, 1, 0}, {0, 0, 0}}, false},
		{"a list too short", path, 1, [][]int{{0, 1, 2}, {1, 0}, {2, 1, 0}}, false},
		{"a list too long", path, 1, [][]int{{0, 1, 2}, {1, 0, 1}, {2, 1, 0, 1}}, false},
		{"a list without numbers", path, 1, [][]int{{}, {1, 0, 1}, {2, 1, 0}}, false},
		{"the times of one cop for two", path, 2, [][]int{{0, 1, 2}, {1, 0, 1}, {2, 1, 0}}, false},
		{"one node", graph(1), 1, [][]int{{0}}, true},
		{"one node, -1", graph(1), 1, [][]int{{-1}}, false},
		{"one node, -2", graph(1), 1, [][]int{{-2}}, false},
		{"one node, caught again", graph(1), 3, [][]int{{7}}, true},
		{"two nodes apart", apart, 1, [][]int{{0, -1}, {-1, 0}}, false},
		{"two nodes apart, numbers that wait", apart, 1, [][]int{{0, 1}, {1, 0}}, false},
		{"two nodes apart, numbers that wait for each other", apart, 1, [][]int{{0, 2}, {3, 0}}, false},
		{"two nodes apart, two cops", apart, 2, [][]int{{0, -1}, {0, 0}, {-1, 0}}, true},
		{"two nodes apart, no number for two", apart, 2, [][]int{{0, -1}, {0, -1}, {-1, 0}}, false},
		{"a cycle", cycle(4, 4), 1, [][]int{{0, 1, 2, 1}, {1, 0, 1, 2}, {2, 1, 0, 1}, {1, 2, 1, 0}}, false},
	} {
		got, ok := impl.IsCaptureProof(c.g, c.k, c.table)
		checkTold(t, c.name, got, ok, c.want)
	}
}

// changedSets returns lists that differ from sets in one of them.
func changedSets(sets [][]int, size int) [][][]int {
	var all [][][]int
	for place, set := range sets {
		others := [][]int{nil, append(slices.Clone(set), size), append([]int{-1}, set...), append(slices.Clone(set), set...)}
		for x := range size {
			others = append(others, without(set, x), slices.Sorted(slices.Values(append(without(set, x), x))), append(slices.Clone(set), x))
		}
		for _, other := range others {
			if slices.Equal(other, set) {
				continue
			}
			changed := slices.Clone(sets)
			changed[place] = other
			all = append(all, changed)
		}
	}
	return all
}

func TestEvasionsWithOneSetChanged(t *testing.T) {
	t.Parallel()
	told := map[bool]int{}
	for _, c := range fewCopGames() {
		sets, ok := impl.SafeSets(c.g, c.k)
		place, _ := c.best()
		if got, there := impl.IsEvasion(c.g, c.k, sets); !ok || !there || got != (place < 0) {
			t.Error("safe sets of", c.name, got)
		}
		for i, changed := range changedSets(sets, c.g.Size) {
			// On the greater Graphs, some of the changes only.
			if len(sets) > 10 && i%(len(sets)/10) != 0 {
				continue
			}
			want := c.isEvasion(changed)
			got, ok := impl.IsEvasion(c.g, c.k, changed)
			checkTold(t, "sets for "+c.name, got, ok, want)
			told[want]++
		}
	}
	if told[true] < 100 || told[false] < 1000 {
		t.Error("few sets of a kind:", told)
	}
}

func TestEvasionsByHand(t *testing.T) {
	ring, apart := cycle(4, 4), graph(2)
	for _, c := range []struct {
		name string
		g    impl.Graph
		k    int
		sets [][]int
		want bool
	}{
		{"opposite nodes", ring, 1, [][]int{{2}, {3}, {0}, {1}}, true},
		{"a node too many", ring, 1, [][]int{{1, 2}, {3}, {0}, {1}}, false},
		{"a node of the cop", ring, 1, [][]int{{0, 2}, {3}, {0}, {1}}, false},
		{"nothing", ring, 1, [][]int{{2}, {3}, {0}, {}}, false},
		{"nothing at all", ring, 1, [][]int{{}, {}, {}, {}}, false},
		{"a node twice", ring, 1, [][]int{{2, 2}, {3}, {0}, {1}}, false},
		{"a node that is not there", ring, 1, [][]int{{2, 4}, {3}, {0}, {1}}, false},
		{"a node less than 0", ring, 1, [][]int{{-1, 2}, {3}, {0}, {1}}, false},
		{"a node far away", ring, 1, [][]int{{2}, {3}, {math.MaxInt}, {1}}, false},
		{"a node far below", ring, 1, [][]int{{2}, {math.MinInt}, {0}, {1}}, false},
		{"no sets", ring, 1, [][]int{}, false},
		{"a set too few", ring, 1, [][]int{{2}, {3}, {0}}, false},
		{"a set too many", ring, 1, [][]int{{2}, {3}, {0}, {1}, {2}}, false},
		{"the sets of one cop for two", ring, 2, [][]int{{2}, {3}, {0}, {1}}, false},
		{"two ahead", cycle(5, 5), 1, [][]int{{2}, {3}, {4}, {0}, {1}}, true},
		{"all safe nodes", cycle(5, 5), 1, [][]int{{2, 3}, {3, 4}, {0, 4}, {0, 1}, {1, 2}}, true},
		{"not ascending", cycle(5, 5), 1, [][]int{{3, 2}, {3, 4}, {0, 4}, {0, 1}, {1, 2}}, false},
		{"no move to a safe node", cycle(5, 5), 1, [][]int{{2}, {3}, {4}, {0}, {2}}, false},
		{"one node", graph(1), 1, [][]int{{0}}, false},
		{"nothing of one node", graph(1), 1, [][]int{{}}, false},
		{"nodes apart", apart, 1, [][]int{{1}, {0}}, true},
		{"the cop's nodes", apart, 1, [][]int{{0}, {1}}, false},
		{"all nodes", apart, 1, [][]int{{0, 1}, {0, 1}}, false},
		{"nodes apart, two cops", apart, 2, [][]int{{1}, {}, {0}}, false},
		{"three nodes apart, two cops", graph(3), 2, [][]int{{1}, {2}, {1}, {2}, {0}, {1}}, true},
		{"three nodes apart, a node of the two cops", graph(3), 2, [][]int{{1}, {2}, {2}, {2}, {0}, {1}}, false},
		{"three nodes apart, two cops, staying", graph(3), 2, [][]int{{1, 2}, {2}, {1}, {0, 2}, {0}, {0, 1}}, true},
		{"three nodes apart, two cops, fewer nodes", graph(3), 2, [][]int{{2}, {2}, {1}, {0}, {0}, {1}}, true},
		{"a row", inRow(3), 1, [][]int{{2}, {0, 2}, {0}}, false},
	} {
		got, ok := impl.IsEvasion(c.g, c.k, c.sets)
		checkTold(t, c.name, got, ok, c.want)
	}
}

// playBy plays by the description.
func (c copGame) playBy(place int, robber int, rounds int) ([][]int, []int) {
	var lists [][]int
	var nodes []int
	for range rounds {
		if c.times[place][robber] >= 0 {
			place = c.copReply(place, robber)
		}
		lists = append(lists, c.lists[place])
		if c.caughtAt(place, robber) {
			break
		}
		robber = robberBy(c.closed, c.times, place, robber)
		nodes = append(nodes, robber)
	}
	return lists, nodes
}

func TestPlaysByTheGameOfCops(t *testing.T) {
	t.Parallel()
	for _, c := range fewCopGames() {
		step := max(len(c.lists)*c.g.Size/30, 1)
		for at := step / 3; at < len(c.lists)*c.g.Size; at += step {
			place, robber := at/c.g.Size, at%c.g.Size
			if c.caughtAt(place, robber) {
				continue
			}
			for _, rounds := range []int{0, 1, 2, 5, 59, impl.MaxPlay} {
				lists, nodes := c.playBy(place, robber, rounds)
				gotLists, gotNodes, ok := impl.PlayCops(c.g, c.lists[place], robber, rounds)
				checkTable(t, "cops, "+c.name, gotLists, ok, lists)
				checkList(t, "robber, "+c.name, gotNodes, ok, nodes)
				if time := c.times[place][robber]; rounds == impl.MaxPlay && time > 0 && (len(gotLists) != time || len(gotNodes) != time-1) {
					t.Error("not caught in time", c.name, place, robber, time, gotLists)
				}
			}
		}
	}
}

func TestPlaysByHand(t *testing.T) {
	stays := slices.Repeat([][]int{{0}}, impl.MaxPlay)
	for _, c := range []struct {
		name   string
		g      impl.Graph
		cops   []int
		robber int
		rounds int
		lists  [][]int
		nodes  []int
	}{
		{"along a row", inRow(3), []int{0}, 2, 5, [][]int{{1}, {2}}, []int{2}},
		{"as long as it takes", inRow(3), []int{0}, 2, 2, [][]int{{1}, {2}}, []int{2}},
		{"one round", inRow(3), []int{0}, 2, 1, [][]int{{1}}, []int{2}},
		{"no rounds", inRow(3), []int{0}, 2, 0, nil, nil},
		{"all rounds", inRow(3), []int{0}, 2, impl.MaxPlay, [][]int{{1}, {2}}, []int{2}},
		{"caught at once", cycle(4, 4), []int{0}, 1, 5, [][]int{{1}}, nil},
		{"never caught", cycle(4, 4), []int{0}, 2, 3, [][]int{{0}, {0}, {0}}, []int{2, 2, 2}},
		{"never caught for long", cycle(4, 4), []int{0}, 2, impl.MaxPlay, stays, slices.Repeat([]int{2}, impl.MaxPlay)},
		{"two cops at one node", cycle(4, 4), []int{0, 0}, 2, 60, [][]int{{0, 1}, {0, 2}}, []int{2}},
		{"to the least node of a part", graph(5, 0, 1, 2, 3, 3, 4), []int{0, 1}, 4, 4, slices.Repeat([][]int{{0, 1}}, 4), []int{3, 2, 2, 2}},
		{"never caught without a cop", graph(3, 0, 1), []int{1, 1}, 2, 1, [][]int{{1, 1}}, []int{2}},
		{"three cops", inRow(3), []int{0, 0, 0}, 2, 9, [][]int{{0, 0, 1}, {0, 0, 2}}, []int{2}},
	} {
		lists, nodes, ok := impl.PlayCops(c.g, c.cops, c.robber, c.rounds)
		checkTable(t, c.name, lists, ok, c.lists)
		checkList(t, c.name, nodes, ok, c.nodes)
	}
}

func TestGuardedNodesAndTraps(t *testing.T) {
	for _, c := range fewCopGames() {
		for place, cops := range c.lists {
			var guarded, traps []int
			for x := range c.g.Size {
				if slices.ContainsFunc(cops, func(cop int) bool { return c.closed[cop][x] }) {
					guarded = append(guarded, x)
				}
				if slices.Contains([]int{0, 1, 2}, c.times[place][x]) {
					traps = append(traps, x)
				}
			}
			got, ok := impl.GuardedNodes(c.g, cops)
			checkList(t, "guarded, "+c.name, got, ok, guarded)
			if c.g.Size > 5 && place%8 != 3 {
				continue
			}
			got, ok = impl.TrapsOf(c.g, cops)
			checkList(t, "traps, "+c.name, got, ok, traps)
		}
	}
}

func TestGuardedNodesAndTrapsByHand(t *testing.T) {
	for _, c := range []struct {
		g       impl.Graph
		cops    []int
		guarded []int
		traps   []int
	}{
		{graph(1), []int{0}, []int{0}, []int{0}},
		{graph(2), []int{1}, []int{1}, []int{1}},
		{graph(2), []int{0, 1}, []int{0, 1}, []int{0, 1}},
		{inRow(3), []int{0}, []int{0, 1}, []int{0, 1, 2}},
		{inRow(5), []int{0}, []int{0, 1}, []int{0, 1}},
		{inRow(5), []int{1}, []int{0, 1, 2}, []int{0, 1, 2}},
		{inRow(5), []int{2}, []int{1, 2, 3}, []int{0, 1, 2, 3, 4}},
		{inRow(5), []int{0, 4}, []int{0, 1, 3, 4}, []int{0, 1, 2, 3, 4}},
		{inRow(5), []int{0, 0, 0}, []int{0, 1}, []int{0, 1}},
		{cycle(4, 4), []int{0}, []int{0, 1, 3}, []int{0, 1, 3}},
		{cycle(4, 4), []int{0, 0}, []int{0, 1, 3}, []int{0, 1, 2, 3}},
		{graph(3, 0, 2), []int{2, 2}, []int{0, 2}, []int{0, 2}},
		{complete(8), []int{7}, nodesOf(8), nodesOf(8)},
		{cube(), []int{0, 7}, nodesOf(8), nodesOf(8)},
	} {
		guarded, ok := impl.GuardedNodes(c.g, c.cops)
		checkList(t, "guarded in "+textOf(c.g), guarded, ok, c.guarded)
		traps, ok := impl.TrapsOf(c.g, c.cops)
		checkList(t, "traps in "+textOf(c.g), traps, ok, c.traps)
	}
}

// numberCalls are the functions of one Graph and a number of cops.
func numberCalls() map[string]any {
	return map[string]any{
		"CopLists": impl.CopLists, "CaptureTimes": impl.CaptureTimes, "CanCatch": impl.CanCatch,
		"BestCops": impl.BestCops, "SafeSets": impl.SafeSets,
	}
}

// tableCalls are the functions of one Graph, a number of cops and lists.
func tableCalls() map[string]any {
	return map[string]any{"IsCaptureProof": impl.IsCaptureProof, "IsEvasion": impl.IsEvasion}
}

// copCalls are the functions of one Graph and cops.
func copCalls() map[string]any {
	return map[string]any{"CopMoves": impl.CopMoves, "GuardedNodes": impl.GuardedNodes, "TrapsOf": impl.TrapsOf}
}

// situationCalls are the functions of one Graph, cops and a robber.
func situationCalls() map[string]any {
	return map[string]any{"CopReply": impl.CopReply, "RobberReply": impl.RobberReply}
}

// checkCopsFail checks that all functions fail for a Graph with cops and a robber.
func checkCopsFail(t *testing.T, name string, g impl.Graph, cops []int, robber int) {
	t.Helper()
	for call, function := range situationCalls() {
		checkFails(t, call+" of "+name, function, g, cops, robber)
	}
	for _, rounds := range []int{0, 1, impl.MaxPlay} {
		checkFails(t, "PlayCops of "+name, impl.PlayCops, g, cops, robber, rounds)
	}
}

// checkNumberFails checks that all functions fail for a Graph with a number of cops.
func checkNumberFails(t *testing.T, name string, g impl.Graph, k int) {
	t.Helper()
	for call, function := range numberCalls() {
		checkFails(t, call+" of "+name, function, g, k)
	}
	for call, function := range tableCalls() {
		for _, lists := range [][][]int{nil, {}, {{}}, {{0}}, {{0, 1}, {1, 0}}, {{1}, {0}}} {
			checkFails(t, call+" of "+name, function, g, k, lists)
		}
	}
}

func TestCopsOnGraphsThatAreNotValid(t *testing.T) {
	broken := brokenGraphs()
	broken["no nodes"] = graph(0)
	for name, g := range broken {
		checkFails(t, "CopNumber of "+name, impl.CopNumber, g)
		for k := -1; k <= impl.MaxCops+1; k++ {
			checkNumberFails(t, name, g, k)
		}
		for _, cops := range [][]int{{}, {0}, {1}, {0, 0}, {0, 1}, {0, 0, 1}, {-1}, {max(g.Size, 0)}} {
			for call, function := range copCalls() {
				checkFails(t, call+" of "+name, function, g, cops)
			}
			for _, robber := range []int{0, 1, 2, -1, g.Size - 1, g.Size} {
				checkCopsFail(t, name, g, cops, robber)
			}
		}
	}
}

func TestOtherNumbersOfCopsFail(t *testing.T) {
	for _, g := range fewGraphs() {
		for _, k := range []int{0, -1, impl.MaxCops + 1, impl.MaxCops + 2, 8, 1 << 32, math.MaxInt, math.MinInt} {
			checkNumberFails(t, strconv.Itoa(k)+" cops", g, k)
		}
	}
}

func TestListsThatAreNoCopsFail(t *testing.T) {
	for _, g := range []impl.Graph{graph(1), graph(2), inRow(2), inRow(3), cycle(4, 4), cube(), complete(8)} {
		n := g.Size
		lists := [][]int{
			{}, {0, 0, 0, 0}, {n - 1, n - 1, n - 1, n - 1}, {0, n}, {n}, {-1}, {-1, 0}, {-1, 0, 0}, {0, 0, n}, {n, n, n},
			{math.MaxInt}, {math.MinInt}, {0, math.MaxInt}, {math.MinInt, 0, 0}, make([]int, 1<<20),
		}
		if n > 1 {
			lists = append(lists, []int{1, 0}, []int{1, 1, 0}, []int{1, 0, 0}, []int{0, 1, 0}, []int{0, 0, 1, 1})
		}
		for _, cops := range lists {
			for call, function := range copCalls() {
				checkFails(t, call, function, g, cops)
			}
			for robber := range n {
				checkCopsFail(t, "no cops", g, cops, robber)
			}
		}
	}
}

func TestOtherRobbersAndRoundsFail(t *testing.T) {
	for _, g := range fewGraphs() {
		if g.Size == 0 {
			continue
		}
		last := g.Size - 1
		for _, cops := range [][]int{{0}, {last}, {0, 0}, {0, last}, {0, last, last}} {
			for _, robber := range append(farNumbers(g.Size), 0, last) {
				if slices.Contains(cops, robber) || robber < 0 || robber > last {
					checkCopsFail(t, "another robber", g, cops, robber)
				}
			}
			for robber := range g.Size {
				for _, rounds := range []int{-1, -2, impl.MaxPlay + 1, impl.MaxPlay + 2, 1 << 32, math.MaxInt, math.MinInt} {
					checkFails(t, "PlayCops", impl.PlayCops, g, cops, robber, rounds)
				}
			}
		}
	}
}

// checkPromise4 checks the guarantee of the chapter for a Graph with nodes, between the functions
// alone.
func checkPromise4(t *testing.T, g impl.Graph) {
	t.Helper()
	for k := 1; k <= impl.MaxCops; k++ {
		can, one := impl.CanCatch(g, k)
		times, two := impl.CaptureTimes(g, k)
		sets, three := impl.SafeSets(g, k)
		proof, four := impl.IsCaptureProof(g, k, times)
		evasion, five := impl.IsEvasion(g, k, sets)
		if !one || !two || !three || !four || !five || proof != can || evasion == can {
			t.Error("proof and evasion", g, k, can, proof, evasion)
		}
		if k < impl.MaxCops {
			checkFurtherCop(t, g, k, times)
		}
	}
}

// checkFurtherCop checks that the times are not greater with each further cop.
func checkFurtherCop(t *testing.T, g impl.Graph, k int, times [][]int) {
	t.Helper()
	fewer, one := impl.CopLists(g, k)
	more, two := impl.CopLists(g, k+1)
	table, three := impl.CaptureTimes(g, k+1)
	if !one || !two || !three {
		t.Fatal("no times", g, k)
	}
	for place, cops := range more {
		for i := range cops {
			left := slices.Delete(slices.Clone(cops), i, i+1)
			before, _ := slices.BinarySearchFunc(fewer, left, slices.Compare[[]int])
			for x, time := range table[place] {
				if old := times[before][x]; old >= 0 && (time < 0 || time > old) {
					t.Error("a greater time", g, cops, left, x, time, old)
				}
			}
		}
	}
}

func TestPromise4OneOfProofAndEvasion(t *testing.T) {
	t.Parallel()
	graphs := append(smallGraphs(5)[1:], greatGraphs()[:60]...)
	graphs = append(graphs, eachOf(allGraphs(6), 61)...)
	for _, g := range append(graphs, treeGraphs()[:20]...) {
		checkPromise4(t, g)
	}
}

// tablesOver returns all tables of a form with numbers of a range.
func tablesOver(rows int, columns int, from int, to int) [][][]int {
	var all [][][]int
	for _, list := range listsOver(rows*columns, from, to) {
		all = append(all, slices.Collect(slices.Chunk(list, columns)))
	}
	return all
}

// setsOver returns all lists of so many sets of nodes.
func setsOver(length int, size int) [][][]int {
	subsets := subsetsOf(size)
	var all [][][]int
	for _, list := range listsOver(length, 0, len(subsets)-1) {
		sets := make([][]int, length)
		for i, x := range list {
			sets[i] = subsets[x]
		}
		all = append(all, sets)
	}
	return all
}

// checkAllAnswers compares the checkers for all tables and sets, and checks that those of just one
// kind are there.
func checkAllAnswers(t *testing.T, c copGame, tables [][][]int, all [][][]int) {
	t.Helper()
	proofs, evasions := 0, 0
	for _, table := range tables {
		got, ok := impl.IsCaptureProof(c.g, c.k, table)
		if want := c.isProof(table); !ok || got != want {
			t.Fatal("proof", c.name, table, got, ok)
		}
		if got {
			proofs++
		}
	}
	for _, sets := range all {
		got, ok := impl.IsEvasion(c.g, c.k, sets)
		if want := c.isEvasion(sets); !ok || got != want {
			t.Fatal("evasion", c.name, sets, got, ok)
		}
		if got {
			evasions++
		}
	}
	if place, _ := c.best(); (proofs > 0) != (place >= 0) || (evasions > 0) != (place < 0) {
		t.Error("proofs and evasions", c.name, proofs, evasions)
	}
}

func TestPromise4OfAllTablesAndSets(t *testing.T) {
	t.Parallel()
	for _, c := range copGames(smallGraphs(2)) {
		most := 5 - c.k
		checkAllAnswers(t, c, tablesOver(len(c.lists), c.g.Size, -2, most-1), setsOver(len(c.lists), c.g.Size))
	}
	tables := tablesOver(3, 3, -1, 2)
	for _, g := range []impl.Graph{graph(3), graph(3, 0, 2), inRow(3), cycle(3, 3)} {
		checkAllAnswers(t, copGameBy(g, 1), tables, setsOver(3, 3))
	}
	c := copGameBy(graph(3), 2)
	checkAllAnswers(t, c, nil, setsOver(len(c.lists), 3))
	c = copGameBy(cycle(4, 4), 1)
	checkAllAnswers(t, c, nil, setsOver(len(c.lists), 4))
}

// checkCopsCalls makes all calls of a Graph with some cops, robbers and lists.
func checkCopsCalls(t *testing.T, g impl.Graph) {
	t.Helper()
	checkCall(t, "CopNumber", impl.CopNumber, g)
	for _, k := range []int{-1, 0, 1, 2, 3, 4, math.MaxInt} {
		for name, function := range numberCalls() {
			checkCall(t, name, function, g, k)
		}
		times, _ := impl.CaptureTimes(g, k)
		sets, _ := impl.SafeSets(g, k)
		for name, function := range tableCalls() {
			for _, lists := range [][][]int{times, sets, nil, {{}}, {{0, 1}, {1, 0}}} {
				checkCall(t, name, function, g, k, lists)
			}
		}
	}
	for _, list := range [][]int{nil, {0}, {1}, {1, 1}, {0, 2}, {1, 0}, {0, 0, 3}, {1, 1, 1}, {0, 0, 0, 0}, {7}, {-1}} {
		// The room behind the list is what an append to it would write to.
		room := append(slices.Clone(list), -7, -8)
		cops, behind := room[:len(list)], room[len(list):]
		for name, function := range copCalls() {
			checkCall(t, name, function, g, cops)
		}
		for _, robber := range []int{0, 2, -1, g.Size - 1, g.Size} {
			for name, function := range situationCalls() {
				checkCall(t, name, function, g, cops, robber)
			}
			checkCall(t, "PlayCops", impl.PlayCops, g, cops, robber, 4)
			checkCall(t, "PlayCops", impl.PlayCops, g, cops, robber, -1)
		}
		if !slices.Equal(behind, []int{-7, -8}) {
			t.Fatal("written behind the list", g, list, behind)
		}
	}
}

func TestCopsLeaveTheirArgumentsAlone(t *testing.T) {
	graphs := append(smallGraphs(3), allGraphs(4)[20:30]...)
	graphs = append(append(graphs, greatGraphs()[:5]...), treeGraphs()[:2]...)
	checkWithRoom(t, graphs, checkCopsCalls)
}

// callAllOfCops makes all calls of a Graph with each number of cops and some situations.
func callAllOfCops(g impl.Graph) {
	impl.CopNumber(g)
	for k := 1; k <= impl.MaxCops; k++ {
		lists, _ := impl.CopLists(g, k)
		times, _ := impl.CaptureTimes(g, k)
		sets, _ := impl.SafeSets(g, k)
		impl.CanCatch(g, k)
		impl.BestCops(g, k)
		impl.IsCaptureProof(g, k, times)
		impl.IsEvasion(g, k, sets)
		for i, cops := range lists {
			impl.CopMoves(g, cops)
			impl.GuardedNodes(g, cops)
			if i%10 == 1 {
				impl.TrapsOf(g, cops)
				impl.CopReply(g, cops, i%g.Size)
				impl.RobberReply(g, cops, i%g.Size)
				impl.PlayCops(g, cops, i%g.Size, impl.MaxPlay)
			}
		}
	}
}

func TestCopsReturnInTime(t *testing.T) {
	checkInTime(t, func() {
		for _, g := range append(greatGraphs()[:30], treeGraphs()[:10]...) {
			callAllOfCops(g)
		}
	})
}
