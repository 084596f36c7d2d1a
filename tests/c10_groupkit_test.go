package tests

import (
	"fmt"
	"math"
	"slices"
	"strconv"
	"strings"

	"loop.example/storeofkeys/impl"
)

// entriesOf reads entries with a space between two of them: the term, a point,
// and the id.
func entriesOf(text string) []impl.Entry {
	var log []impl.Entry
	for _, word := range strings.Fields(text) {
		term, id, _ := strings.Cut(word, ".")
		e := impl.Entry{}
		e.Term, _ = strconv.Atoi(term)
		e.Id, _ = strconv.Atoi(id)
		log = append(log, e)
	}
	return log
}

// groupOf returns the group of a leader, a term, and the logs of a text, with a
// / between two of them.
func groupOf(leader, term int, text string) impl.Group {
	g := impl.Group{Leader: leader, Term: term}
	for _, log := range strings.Split(text, "/") {
		g.Logs = append(g.Logs, entriesOf(log))
	}
	return g
}

// entriesText writes entries as entriesOf reads them.
func entriesText(log []impl.Entry) string {
	var words []string
	for _, e := range log {
		words = append(words, fmt.Sprintf("%d.%d", e.Term, e.Id))
	}
	return strings.Join(words, " ")
}

// groupText writes a group.
func groupText(g impl.Group) string {
	var logs []string
	for _, log := range g.Logs {
		logs = append(logs, entriesText(log))
	}
	return fmt.Sprintf("[%d %d %s]", g.Leader, g.Term, strings.Join(logs, "/"))
}

// sameGroup tells whether two groups are the same.
func sameGroup(a, b impl.Group) bool {
	return a.Leader == b.Leader && a.Term == b.Term && slices.EqualFunc(a.Logs, b.Logs, slices.Equal[[]impl.Entry])
}

// noGroup tells whether a group is the zero value.
func noGroup(g impl.Group) bool {
	return sameGroup(g, impl.Group{})
}

// copyGroup returns a group in memory of its own.
func copyGroup(g impl.Group) impl.Group {
	other := impl.Group{Leader: g.Leader, Term: g.Term}
	for _, log := range g.Logs {
		other.Logs = append(other.Logs, append([]impl.Entry{}, log...))
	}
	return other
}

// withLog returns a group with another log for a peer.
func withLog(g impl.Group, peer int, log []impl.Entry) impl.Group {
	other := copyGroup(g)
	other.Logs[peer] = slices.Clone(log)
	return other
}

// wholeLog tells by the document what may be the log of a peer.
func wholeLog(log []impl.Entry, term int) bool {
	for i, e := range log {
		if i > 11 || e.Id < 0 || e.Id >= 100 || e.Term < 1 || term < e.Term {
			return false
		}
		if slices.ContainsFunc(log[:i], func(ahead impl.Entry) bool { return e.Term < ahead.Term }) {
			return false
		}
	}
	return true
}

// wholeGroup tells by the document what is a valid group.
func wholeGroup(g impl.Group) bool {
	if len(g.Logs) == 0 || len(g.Logs) >= 6 || g.Term <= 0 || g.Term >= 10 || g.Leader < 0 || g.Leader >= len(g.Logs) {
		return false
	}
	return !slices.ContainsFunc(g.Logs, func(log []impl.Entry) bool { return !wholeLog(log, g.Term) })
}

// hasFirst tells whether a log has the first entries of another one, so many.
func hasFirst(log, of []impl.Entry, first int) bool {
	return len(log) >= first && len(of) >= first && slices.Equal(log[:first], of[:first])
}

// mostHave tells whether more than half of the peers of a valid group have the
// first entries of the leader.
func mostHave(g impl.Group, first int) bool {
	balance := 0
	for _, log := range g.Logs {
		if hasFirst(log, g.Logs[g.Leader], first) {
			balance++
		} else {
			balance--
		}
	}
	return balance > 0
}

// sureModel tells how many first entries of a valid group are sure, by trying
// each number.
func sureModel(g impl.Group) int {
	sure := 0
	for i, e := range g.Logs[g.Leader] {
		if e.Term == g.Term && mostHave(g, i+1) {
			sure = i + 1
		}
	}
	return sure
}

// writeModel tells what a valid group is behind an id.
func writeModel(g impl.Group, id int) (impl.Group, bool) {
	log := slices.Concat(g.Logs[g.Leader], []impl.Entry{{Term: g.Term, Id: id}})
	if !wholeLog(log, g.Term) {
		return impl.Group{}, false
	}
	return withLog(g, g.Leader, log), true
}

// shipModel tells what a valid group is behind entries that are shipped. Both
// have one more in common exactly if the peer has the next first ones, too.
func shipModel(g impl.Group, to, upto int) (impl.Group, bool) {
	log := g.Logs[g.Leader]
	if to < 0 || to >= len(g.Logs) || to == g.Leader || upto < 0 || upto > len(log) {
		return impl.Group{}, false
	}
	for first := upto + 1; first <= len(log); first++ {
		if hasFirst(g.Logs[to], log, first) {
			return impl.Group{}, false
		}
	}
	return withLog(g, to, log[:upto]), true
}

// votersOf returns the peers of a sum of 2 to each of some of them, the last
// one first, and whether it is one.
func votersOf(peers, sum int) ([]int, bool) {
	var voters []int
	for x := peers - 1; x >= 0; x-- {
		if bit := []int{1, 2, 4, 8, 16}[x]; sum >= bit {
			voters = append(voters, x)
			sum -= bit
		}
	}
	return voters, sum == 0
}

// upTo tells the term of the last entry, and how many entries there are.
func upTo(log []impl.Entry) [2]int {
	if len(log) == 0 {
		return [2]int{}
	}
	return [2]int{log[len(log)-1].Term, len(log)}
}

// mayModel tells whether a peer of a valid group may lead by voters.
func mayModel(g impl.Group, x, sum int) bool {
	voters, ok := votersOf(len(g.Logs), sum)
	if !ok || len(voters) <= len(g.Logs)-len(voters) || !slices.Contains(voters, x) {
		return false
	}
	for _, voter := range voters {
		own, other := upTo(g.Logs[x]), upTo(g.Logs[voter])
		if slices.Compare(own[:], other[:]) < 0 {
			return false
		}
	}
	return true
}

// electModel tells what a valid group is behind voters.
func electModel(g impl.Group, x, sum int) (impl.Group, bool) {
	if g.Term >= 9 || !mayModel(g, x, sum) {
		return impl.Group{}, false
	}
	other := copyGroup(g)
	other.Leader, other.Term = x, g.Term+1
	return other, true
}

// moveModel tells what a valid group is behind a move, and whether it may be done.
func moveModel(g impl.Group, m impl.Move) (impl.Group, bool) {
	var next impl.Group
	ok := false
	if m.Kind == 0 {
		next, ok = writeModel(g, m.A)
	} else if m.Kind == 1 {
		next, ok = shipModel(g, m.A, m.B)
	} else if m.Kind == 2 {
		next, ok = electModel(g, m.A, m.B)
	}
	if !ok {
		return g, false
	}
	return next, true
}

// newGroup tells what a group is ahead of all moves.
func newGroup(n int) impl.Group {
	return groupOf(0, 1, strings.Repeat("/", n-1))
}

// runGroupModel tells the group behind moves, and the entries that were sure,
// each as it first was.
func runGroupModel(n int, moves []impl.Move) (impl.Group, []impl.Entry) {
	g := newGroup(n)
	var told []impl.Entry
	for _, m := range moves {
		g, _ = moveModel(g, m)
		if sure := sureModel(g); sure > len(told) {
			told = append(told, g.Logs[g.Leader][len(told):sure]...)
		}
	}
	return g, told
}

// idsOf returns the ids of entries.
func idsOf(log []impl.Entry) []int {
	var ids []int
	for _, e := range log {
		ids = append(ids, e.Id)
	}
	return ids
}

// moveOf reads a move: w and an id, s, a peer, a : and up to how many, or e, a
// peer, a : and the voters, or any other kind, and two numbers, with a : between
// two of them.
func moveOf(word string) impl.Move {
	kind, numbers := strings.Index("wse", word[:1]), word[1:]
	if kind < 0 {
		first, rest, _ := strings.Cut(word, ":")
		kind, _ = strconv.Atoi(first)
		numbers = rest
	}
	a, b, _ := strings.Cut(numbers, ":")
	m := impl.Move{Kind: kind}
	m.A, _ = strconv.Atoi(a)
	m.B, _ = strconv.Atoi(b)
	return m
}

// movesOf reads moves with a space between two of them.
func movesOf(text string) []impl.Move {
	var moves []impl.Move
	for _, word := range strings.Fields(text) {
		moves = append(moves, moveOf(word))
	}
	return moves
}

// movesText writes moves as movesOf reads them.
func movesText(moves []impl.Move) string {
	var words []string
	for _, m := range moves {
		switch m.Kind {
		case 0:
			words = append(words, fmt.Sprintf("w%d:%d", m.A, m.B))
		case 1:
			words = append(words, fmt.Sprintf("s%d:%d", m.A, m.B))
		case 2:
			words = append(words, fmt.Sprintf("e%d:%d", m.A, m.B))
		default:
			words = append(words, fmt.Sprintf("%d:%d:%d", m.Kind, m.A, m.B))
		}
	}
	return strings.Join(words, " ")
}

// fewLogs returns all logs of at most so many entries of two ids, with terms up
// to one.
func fewLogs(size, term int) [][]impl.Entry {
	all := [][]impl.Entry{nil}
	for at := 0; at < len(all); at++ {
		log := all[at]
		for n := range 2 * term {
			more := append(slices.Clone(log), impl.Entry{Term: 1 + n/2, Id: 99 * (n % 2)})
			if len(log) < size && wholeLog(more, term) {
				all = append(all, more)
			}
		}
	}
	return all
}

// eachGroup calls f with all groups of so many peers at a term, whose logs are of
// a choice, with each leader.
func eachGroup(peers, term int, choice [][]impl.Entry, f func(g impl.Group)) {
	var grow func(g impl.Group)
	grow = func(g impl.Group) {
		if len(g.Logs) == peers {
			for leader := range peers {
				g.Leader = leader
				f(copyGroup(g))
			}
			return
		}
		for _, log := range choice {
			grow(impl.Group{Logs: append(slices.Clone(g.Logs), log), Term: term})
		}
	}
	grow(impl.Group{})
}

// someLog returns at most so many entries of few ids behind first ones, with
// terms up to one.
func someLog(next func(int) int, first []impl.Entry, most, term, ids int) []impl.Entry {
	log := slices.Clone(first)
	for len(log) < most && next(4) > 0 {
		least := max(1, upTo(log)[0])
		jump := min(next(3)*next(2), term-least)
		log = append(log, impl.Entry{Term: least + jump, Id: next(ids)})
	}
	return log
}

// someGroup returns a group of so many peers, whose logs begin as one log does,
// each up to some place of it.
func someGroup(next func(int) int, peers int) impl.Group {
	g := impl.Group{Leader: next(peers), Term: 1 + next(9)}
	trunk := someLog(next, nil, 12, g.Term, 3)
	for range peers {
		log := trunk[:len(trunk)-min(next(4)*next(3), len(trunk))]
		if next(2) == 0 {
			log = someLog(next, log, 12, g.Term, 2+98*next(2))
		}
		g.Logs = append(g.Logs, slices.Clone(log))
	}
	if least := upTo(trunk)[0]; next(2) == 0 && least > 0 && wholeGroup(impl.Group{Logs: g.Logs, Term: least}) {
		g.Term = least
	}
	return g
}

// walkedGroups returns groups of any number of peers, with any logs.
func walkedGroups(count int) []impl.Group {
	next := rolls(239)
	var all []impl.Group
	for i := range count {
		all = append(all, someGroup(next, 1+i%5))
	}
	return all
}

// drawnGroups returns groups that are written out: of one peer, of leaders
// without entries, with entries of old terms alone, with ones behind those of
// the leader, and as long as they may be.
func drawnGroups() []impl.Group {
	long := strings.TrimSpace(strings.Repeat("1.7 ", 12))
	steps := "1.0 1.99 2.0 3.1 4.2 5.3 6.4 6.4 7.5 8.6 9.7 9.7"
	return []impl.Group{
		groupOf(0, 1, ""), groupOf(0, 9, ""), groupOf(0, 1, "1.7"), groupOf(0, 2, "1.7"), groupOf(0, 2, "1.7 2.8"), groupOf(0, 9, long), groupOf(0, 9, steps), groupOf(0, 1, long),
		groupOf(0, 1, "/"), groupOf(1, 1, "1.7/"), groupOf(1, 2, "1.7/"), groupOf(0, 2, "2.7/2.7"), groupOf(0, 2, "1.7 2.7/1.7"), groupOf(1, 2, "1.7 2.7/1.7"),
		groupOf(2, 3, "1.7/1.7 2.8/"), groupOf(0, 3, "1.7/1.7/1.7"), groupOf(0, 1, "1.7/1.7/1.7"), groupOf(1, 2, "1.7 2.8/1.7/1.7 2.8"), groupOf(0, 2, "1.7 2.8/1.8 2.8/2.8"),
		groupOf(0, 2, "1.7 1.8 2.9/1.7 2.9/1.7 1.8"), groupOf(0, 2, "2.7 2.8 2.9/2.7/2.7 2.8"), groupOf(2, 9, steps+"/"+steps+"/"+steps), groupOf(2, 9, steps+"/"+long+"/"+steps),
		groupOf(3, 2, "1.7/1.7/1.7 2.8/1.7 2.8"), groupOf(3, 2, "1.7/1.7 2.8/1.7 2.8/1.7 2.8"), groupOf(0, 1, "///"), groupOf(0, 3, "3.1 3.2/3.1 3.2/3.1/"),
		groupOf(4, 3, "1.1/1.1 2.2/1.1 2.2/1.1/1.1 3.3"), groupOf(0, 4, "1.1 2.2/1.1 2.2/1.1 2.2/1.1/1.1 3.3"), groupOf(0, 4, "1.1 2.2 4.4/1.1 2.2 4.4/1.1 2.2 4.4/1.1/1.1 3.3"),
		groupOf(4, 9, steps+"/"+steps+"/"+long+"//"+steps), groupOf(0, 2, "2.5 2.6 2.7/2.5 2.6 2.7/2.5/2.5 2.6/"), groupOf(0, 1, "////"),
	}
}

// manyGroups calls f with all few groups, drawn ones, and walked ones.
func manyGroups(f func(g impl.Group)) {
	eachGroup(1, 2, fewLogs(4, 2), f)
	eachGroup(2, 1, fewLogs(3, 1), f)
	eachGroup(2, 3, fewLogs(2, 3), f)
	eachGroup(3, 1, fewLogs(2, 1), f)
	eachGroup(3, 2, fewLogs(2, 2), f)
	eachGroup(4, 2, fewLogs(1, 2), f)
	eachGroup(5, 3, [][]impl.Entry{nil, entriesOf("2.7"), entriesOf("2.7 3.8"), entriesOf("3.8")}, f)
	for _, g := range append(drawnGroups(), walkedGroups(4000)...) {
		f(g)
	}
}

// notTerms are numbers that are no term.
var notTerms = []int{-1, 0, 10, 11, 256 + 1, 1 << 32, 1<<32 + 1, math.MaxInt, math.MinInt, math.MinInt + 1}

// notIds are numbers that no entry has.
var notIds = []int{-1, -99, 100, 101, 256, 256 + 7, 1 << 32, 1<<32 + 7, math.MaxInt, math.MinInt, math.MinInt + 7}

// notPeers are numbers that are no peer of any group.
var notPeers = []int{-1, -2, 5, 6, 31, 32, 63, 64, 65, 256, 1 << 32, 1<<32 + 1, math.MaxInt, math.MinInt, math.MinInt + 1}

// groupsNear returns a group with another leader or term, one log more or fewer,
// one entry more or fewer, or another term or id of an entry.
func groupsNear(next func(int) int, g impl.Group) []impl.Group {
	var near []impl.Group
	change := func(f func(g *impl.Group)) {
		other := copyGroup(g)
		f(&other)
		near = append(near, other)
	}
	for _, n := range append([]int{0, 1, 2, 3, 4, 9, g.Term - 1, g.Term + 1}, notTerms...) {
		change(func(g *impl.Group) { g.Term = n })
		change(func(g *impl.Group) { g.Leader = n })
	}
	change(func(g *impl.Group) { g.Logs = append(g.Logs, nil) })
	change(func(g *impl.Group) { g.Logs = g.Logs[:len(g.Logs)-1] })
	peer := next(len(g.Logs))
	change(func(g *impl.Group) { g.Logs[peer] = append(g.Logs[peer], impl.Entry{Term: g.Term, Id: 99}) })
	if size := len(g.Logs[peer]); size > 0 {
		at := next(size)
		change(func(g *impl.Group) { g.Logs[peer] = slices.Delete(g.Logs[peer], at, at+1) })
		for _, n := range append([]int{1, 9, g.Logs[peer][at].Term - 1, g.Logs[peer][at].Term + 1, g.Term, g.Term + 1}, notTerms...) {
			change(func(g *impl.Group) { g.Logs[peer][at].Term = n })
		}
		for _, n := range append([]int{0, 99}, notIds...) {
			change(func(g *impl.Group) { g.Logs[peer][at].Id = n })
		}
	}
	return near
}

// wrongGroups returns groups that are not valid, each for one reason.
func wrongGroups() []impl.Group {
	long := strings.Repeat("1.7 ", 13)
	wrong := []impl.Group{
		{}, {Term: 1}, {Term: 1, Logs: [][]impl.Entry{}}, {Term: 1, Logs: make([][]impl.Entry, 6)}, {Term: 1, Logs: make([][]impl.Entry, 100000)},
		groupOf(1, 1, ""), groupOf(3, 1, "//"), groupOf(5, 1, "////"), groupOf(-1, 1, "////"), groupOf(0, 1, "/////"),
		groupOf(0, 0, ""), groupOf(0, 0, "1.7"), groupOf(0, 10, ""), groupOf(0, 10, "10.7"), groupOf(0, -1, "//"),
		groupOf(0, 1, long), groupOf(0, 1, "1.7/"+long), groupOf(1, 1, long+"/1.7"), groupOf(0, 1, "//"+strings.Repeat(long, 1000)),
		groupOf(0, 1, "2.7"), groupOf(0, 1, "1.7/1.7 2.7"), groupOf(0, 8, "1.7/1.7/9.7"), groupOf(0, 9, "10.7"),
		groupOf(0, 2, "0.7"), groupOf(0, 2, "1.7/0.7 1.7"), groupOf(0, 2, "-1.7"), groupOf(0, 2, "1.7/1.7 0.7/"),
		groupOf(0, 2, "2.7 1.7"), groupOf(0, 9, "1.7/1.7 3.7 2.7"), groupOf(0, 9, "/1.7 9.7 1.7/"), groupOf(1, 9, "1.1 2.2 3.3 4.4 5.5 6.6 7.7 8.8 9.9 8.8/"),
		groupOf(0, 1, "1.100"), groupOf(0, 1, "1.-1"), groupOf(0, 1, "1.7/1.7 1.100 1.7"), groupOf(1, 1, "1.7 1.-1/1.7"),
	}
	for _, n := range notTerms {
		wrong = append(wrong, impl.Group{Logs: make([][]impl.Entry, 1), Term: n}, impl.Group{Logs: make([][]impl.Entry, 3), Term: n})
		wrong = append(wrong, impl.Group{Logs: [][]impl.Entry{{{Term: n, Id: 7}}}, Term: 1}, impl.Group{Logs: [][]impl.Entry{nil, {{Term: n, Id: 7}}}, Term: 9}, impl.Group{Logs: [][]impl.Entry{{{Term: n, Id: 7}}}, Term: n})
	}
	for _, n := range notIds {
		wrong = append(wrong, impl.Group{Logs: [][]impl.Entry{{{Term: 1, Id: n}}}, Term: 1}, impl.Group{Logs: [][]impl.Entry{nil, {{Term: 1, Id: 7}, {Term: 1, Id: n}}}, Term: 9})
	}
	for _, n := range notPeers {
		wrong = append(wrong, impl.Group{Logs: make([][]impl.Entry, 5), Leader: n, Term: 1}, impl.Group{Logs: make([][]impl.Entry, 1), Leader: n, Term: 9})
	}
	return wrong
}

// numbersNear are numbers of peers, of entries and of voters of a group, and
// some that are none.
func numbersNear(g impl.Group) []int {
	numbers := []int{1 << len(g.Logs), 1<<len(g.Logs) + 1, -1 << len(g.Logs)}
	for n := range 32 {
		numbers = append(numbers, n)
	}
	return append(numbers, notPeers...)
}

// someMove returns a move that may often be done by a valid group.
func someMove(next func(int) int, g impl.Group, elects int) impl.Move {
	peers, x := len(g.Logs), next(len(g.Logs))
	entries := len(g.Logs[g.Leader])
	switch {
	case next(20) == 0:
		return impl.Move{Kind: next(6) - 1, A: next(120) - 10, B: next(40) - 4}
	case next(elects) == 0:
		m := impl.Move{Kind: 2, A: x, B: next(1 << peers)}
		for tries := 0; tries < 10 && !mayModel(g, m.A, m.B); tries++ {
			m = impl.Move{Kind: 2, A: next(peers), B: next(1 << peers)}
		}
		return m
	case next(3) == 0 || peers == 1:
		return impl.Move{Kind: 0, A: next(100), B: next(3)}
	default:
		m := impl.Move{Kind: 1, A: x, B: next(entries + 1)}
		for tries := 0; tries < 10; tries++ {
			if _, ok := shipModel(g, m.A, m.B); ok {
				break
			}
			m = impl.Move{Kind: 1, A: next(peers), B: entries - min(entries, next(3)*next(2))}
		}
		return m
	}
}

// someMoves returns so many moves of a group of so many peers.
func someMoves(next func(int) int, peers, size, elects int) []impl.Move {
	g := newGroup(peers)
	var moves []impl.Move
	for range size {
		m := someMove(next, g, elects)
		moves = append(moves, m)
		g, _ = moveModel(g, m)
	}
	return moves
}

// eachMoves calls f with all moves of a choice, at most so many.
func eachMoves(size int, choice []impl.Move, f func(moves []impl.Move)) {
	var grow func(moves []impl.Move)
	grow = func(moves []impl.Move) {
		f(moves)
		for _, m := range choice {
			if len(moves) < size {
				grow(append(slices.Clone(moves), m))
			}
		}
	}
	grow(nil)
}

// manyMoves calls f with all few moves of groups of up to three peers, and with
// walked ones, up to as many as there may be.
func manyMoves(f func(n int, moves []impl.Move)) {
	for i, choice := range []string{
		"w7 w8 e0:1 s0:0 s0:1",
		"w7 w8 s1:1 s1:2 s0:0 s0:1 e0:3 e1:3",
		"w7 s1:1 s2:1 s2:2 s0:0 s0:1 e0:3 e1:6 e2:6",
	} {
		eachMoves(5, movesOf(choice), func(moves []impl.Move) { f(i+1, moves) })
	}
	next := rolls(241)
	for i := range 800 {
		n := 1 + i%5
		size := 30
		if i/5%2 == 0 {
			size = next(31)
		}
		f(n, someMoves(next, n, size, []int{3, 5, 9}[i/10%3]))
	}
}
