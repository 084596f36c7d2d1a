package tests

import (
	"fmt"
	"math"
	"regexp"
	"slices"
	"strconv"
	"strings"

	"loop.example/storeofkeys/impl"
)

// kinds are those by which jobs may be kept.
var kinds = []string{"writes", "reads"}

// notKinds are texts by which no jobs are kept.
var notKinds = []string{"", "write", "read", "writes ", " reads", "Writes", "READS", "reads\x00", "writesreads", "w", "kept", "0", "\xff"}

// actsOf reads acts with a space between two of them: r or w, the party, and the
// thing.
func actsOf(text string) []impl.Act {
	var acts []impl.Act
	for _, word := range strings.Fields(text) {
		acts = append(acts, impl.Act{Tx: int(word[1]) - '0', Thing: int(word[2]) - '0', Write: word[0] == 'w'})
	}
	return acts
}

// actsText writes acts as actsOf reads them, or with all their fields.
func actsText(acts []impl.Act) string {
	var words []string
	for _, a := range acts {
		text := fmt.Sprintf("r%d%d", a.Tx, a.Thing)
		if len(text) > 3 {
			text = fmt.Sprintf("%+v", a)
		}
		if a.Write {
			text = strings.Replace(text, "r", "w", 1)
		}
		words = append(words, text)
	}
	return strings.Join(words, " ")
}

// withAct returns acts with one more behind them.
func withAct(acts []impl.Act, a impl.Act) []impl.Act {
	return append(slices.Clone(acts), a)
}

// wholeAct tells by the document whether an act may be in a schedule.
func wholeAct(a impl.Act) bool {
	return slices.Contains([]int{0, 1, 2, 3}, a.Tx) && slices.Contains([]int{0, 1, 2}, a.Thing)
}

// wholeActs tells by the document what acts are a schedule.
func wholeActs(acts []impl.Act) bool {
	for i, a := range acts {
		if i > 9 || !wholeAct(a) {
			return false
		}
	}
	return true
}

// mayExchange tells whether two acts side by side may be exchanged.
func mayExchange(a, b impl.Act) bool {
	readBoth := !a.Write && !b.Write
	return a.Tx != b.Tx && (a.Thing != b.Thing || readBoth)
}

// isAheadModel tells whether a party is ahead of another one, from the last act on.
func isAheadModel(acts []impl.Act, party, other int) bool {
	for i, later := range slices.Backward(acts) {
		for _, a := range acts[:i] {
			if party != other && a.Tx == party && later.Tx == other && !mayExchange(a, later) {
				return true
			}
		}
	}
	return false
}

// aheadModel tells the sets of the parties that each one is ahead of.
func aheadModel(acts []impl.Act) []int {
	ahead := make([]int, 4)
	for party := range 4 {
		for other, bit := range []int{1, 2, 4, 8} {
			if isAheadModel(acts, party, other) {
				ahead[party] += bit
			}
		}
	}
	return ahead
}

// orderModel tells the order of as many as there are sets, taking always the
// least one that may be next: of those that are left none is ahead of it.
func orderModel(ahead []int) ([]int, bool) {
	order := []int{}
	left := 1<<len(ahead) - 1
	for left != 0 {
		next := -1
		for i := range ahead {
			free := left>>i&1 == 1
			for k := range ahead {
				if left>>k&1 == 1 && ahead[k]>>i&1 == 1 {
					free = false
				}
			}
			if free {
				next = i
				break
			}
		}
		if next < 0 {
			return nil, false
		}
		order = append(order, next)
		left -= 1 << next
	}
	return order, true
}

// allOrders returns all orders of the parties, that with the lesser party at the
// first place where two differ first.
func allOrders() [][]int {
	var all [][]int
	for n := range 256 {
		order := []int{n >> 6, n >> 4 & 3, n >> 2 & 3, n & 3}
		if different(order) == 4 {
			all = append(all, order)
		}
	}
	return all
}

// oneByOne returns the acts of one party behind those of the other, in an order.
func oneByOne(acts []impl.Act, order []int) []impl.Act {
	serial := slices.Clone(acts)
	slices.SortStableFunc(serial, func(a, b impl.Act) int {
		return slices.Index(order, a.Tx) - slices.Index(order, b.Tx)
	})
	return serial
}

// sideBySide tells whether the acts of each party stand side by side.
func sideBySide(acts []impl.Act) bool {
	var parties []int
	for _, a := range acts {
		parties = append(parties, a.Tx)
	}
	parties = slices.Compact(parties)
	return len(parties) == different(parties)
}

// swapModel tells whether a schedule becomes one of parties side by side, by
// trying all exchanges of acts side by side.
func swapModel(acts []impl.Act) bool {
	met := map[string]bool{actsText(acts): true}
	for work := [][]impl.Act{acts}; len(work) > 0; work = work[1:] {
		if sideBySide(work[0]) {
			return true
		}
		for i := 1; i < len(acts); i++ {
			if mayExchange(work[0][i-1], work[0][i]) {
				other := slices.Clone(work[0])
				other[i-1], other[i] = other[i], other[i-1]
				if text := actsText(other); !met[text] {
					met[text] = true
					work = append(work, other)
				}
			}
		}
	}
	return false
}

// sortModel tells the same as swapModel, by bringing the acts of each party
// ahead of those of the later ones, in each order of them.
func sortModel(acts []impl.Act) bool {
	return slices.ContainsFunc(allOrders(), func(order []int) bool {
		sorted := slices.Clone(acts)
		for end := len(sorted); end > 1; end-- {
			for i := 1; i < end; i++ {
				a, b := sorted[i-1], sorted[i]
				if slices.Index(order, a.Tx) <= slices.Index(order, b.Tx) {
					continue
				}
				if !mayExchange(a, b) {
					return false
				}
				sorted[i-1], sorted[i] = b, a
			}
		}
		return true
	})
}

// lastWriter tells which party wrote a thing last, -1 if none did.
func lastWriter(acts []impl.Act, thing int) int {
	for _, a := range slices.Backward(acts) {
		if a.Write && a.Thing == thing {
			return a.Tx
		}
	}
	return -1
}

// readsModel tells what ReadsOf does.
func readsModel(acts []impl.Act) []int {
	var reads []int
	for i, a := range acts {
		if a.Write {
			reads = append(reads, -2)
		} else {
			reads = append(reads, lastWriter(acts[:i], a.Thing))
		}
	}
	return append(reads, lastWriter(acts, 0), lastWriter(acts, 1), lastWriter(acts, 2))
}

// readsByParty tells what each party reads, act by act, and who writes last.
// The acts of one party stay in order, however they are mixed with others.
func readsByParty(acts []impl.Act) string {
	reads := readsModel(acts)
	var texts [5]string
	for i, n := range reads {
		party := 4
		if i < len(acts) {
			party = acts[i].Tx
		}
		texts[party] += strconv.Itoa(n) + " "
	}
	return strings.Join(texts[:], "|")
}

// viewModel tells the first order of parties that reads the same.
func viewModel(acts []impl.Act) ([]int, bool) {
	for _, order := range allOrders() {
		if readsByParty(oneByOne(acts, order)) == readsByParty(acts) {
			return order, true
		}
	}
	return nil, false
}

// everyAct returns every act of the first parties with the first things.
func everyAct(parties, things int) []impl.Act {
	var all []impl.Act
	for party := range parties {
		for thing := range things {
			all = append(all, impl.Act{Tx: party, Thing: thing}, impl.Act{Tx: party, Thing: thing, Write: true})
		}
	}
	return all
}

// eachSchedule calls f with all schedules of at most so many acts of a choice.
func eachSchedule(size int, choice []impl.Act, f func(acts []impl.Act)) {
	var grow func(acts []impl.Act)
	grow = func(acts []impl.Act) {
		f(acts)
		for _, a := range choice {
			if len(acts) < size {
				grow(withAct(acts, a))
			}
		}
	}
	grow(nil)
}

// someActs returns so many acts of the first parties with the first things, of
// which about one of so many writes.
func someActs(next func(int) int, size, parties, things, writes int) []impl.Act {
	var acts []impl.Act
	for range size {
		acts = append(acts, impl.Act{Tx: next(parties), Thing: next(things), Write: next(writes) == 0})
	}
	return acts
}

// walkedActs returns schedules of any number of acts, of one party and one thing
// up to all of them.
func walkedActs(count int) [][]impl.Act {
	next := rolls(211)
	var all [][]impl.Act
	for i := range count {
		all = append(all, someActs(next, next(11), 1+i%4, 1+i/4%3, 1+i/12%6))
	}
	return all
}

// fullActs returns as many acts as there may be: of all parties one behind the
// other, mixed, of one party, with one thing, and all of one kind.
func fullActs() [][]impl.Act {
	var all [][]impl.Act
	for _, text := range []string{
		"w00 r00 w10 r10 w20 r20 w30 r30 w31 r31",
		"w30 r30 w20 r20 w10 r10 w00 r00 w01 r02",
		"w00 w11 w20 w31 r00 r11 r20 r31 r02 r12",
		"w00 w10 w20 w30 w00 w10 w20 w30 w00 w10",
		"r00 r10 r20 r30 r00 r10 r20 r30 r00 r10",
		"w20 r21 r20 w22 r22 w21 r20 w20 r20 r21",
		"r32 w02 w12 w22 w32 w00 w10 w20 w30 r31",
		"r12 r12 r12 r12 r12 r12 r12 r12 r12 w02",
		"w00 r10 w11 r21 w22 r32 w31 w21 w30 w32",
	} {
		all = append(all, actsOf(text))
	}
	return all
}

// manyActs calls f with all few acts, also of one thing alone, and of two
// parties, with walked ones, and with as many as there may be.
func manyActs(f func(acts []impl.Act)) {
	eachSchedule(3, everyAct(4, 3), f)
	eachSchedule(4, everyAct(4, 1), f)
	eachSchedule(5, everyAct(2, 2)[:6], f)
	for _, acts := range append(fullActs(), walkedActs(4000)...) {
		f(acts)
	}
}

// notParties are numbers that are neither a party nor a thing.
var notParties = []int{-1, 4, 5, 8, 64, 256, 256 + 1, 1 << 32, 1<<32 + 1, math.MaxInt, math.MinInt, math.MinInt + 1}

// actsNear returns an act with another party or thing, or that writes or not.
func actsNear(a impl.Act) []impl.Act {
	near := []impl.Act{{Tx: a.Tx, Thing: a.Thing, Write: !a.Write}}
	for _, n := range append([]int{0, 1, 2, 3}, notParties...) {
		near = append(near, impl.Act{Tx: n, Thing: a.Thing, Write: a.Write}, impl.Act{Tx: a.Tx, Thing: n, Write: a.Write})
	}
	return near
}

// wrongActs returns acts that are no schedule, each for one reason.
func wrongActs() [][]impl.Act {
	wrong := [][]impl.Act{make([]impl.Act, 11), make([]impl.Act, 100000)}
	for _, text := range []string{"r40", "w40", "r03", "w03", "w/0", "r0/", "r33", "w90"} {
		wrong = append(wrong, actsOf(text))
	}
	for _, n := range notParties {
		wrong = append(wrong, []impl.Act{{Tx: n}}, []impl.Act{{Tx: n, Write: true}}, []impl.Act{{Thing: n}}, []impl.Act{{Thing: n, Write: true}}, []impl.Act{{Tx: n, Thing: n}})
	}
	wrong = append(wrong, []impl.Act{{Thing: 3}})
	for _, acts := range slices.Clone(wrong) {
		wrong = append(wrong, slices.Concat(actsOf("w00 r10"), acts), slices.Concat(acts, actsOf("w00 r10")), slices.Concat(actsOf("r00 w10"), acts, actsOf("r32 w00")))
	}
	for _, acts := range fullActs() {
		wrong = append(wrong, withAct(acts, impl.Act{}), withAct(acts, acts[9]), slices.Repeat(acts, 2))
	}
	return wrong
}

// jobPattern is a job as jobsOf reads it.
var jobPattern = regexp.MustCompile(`^([0-9]+)-([0-9]+)(?:r([0-2]+))?(?:w([0-2]+))?$`)

// jobsOf reads jobs with a space between two of them: the times from and up to
// which it goes with a - between them, r and the things that it reads, if there
// are any, and w and the things that it writes, if there are any.
func jobsOf(text string) []impl.Job {
	var jobs []impl.Job
	for _, word := range strings.Fields(text) {
		parts := jobPattern.FindStringSubmatch(word)
		start, _ := strconv.Atoi(parts[1])
		end, _ := strconv.Atoi(parts[2])
		jobs = append(jobs, impl.Job{Start: start, End: end, Reads: setOf(parts[3]), Writes: setOf(parts[4])})
	}
	return jobs
}

// setOf returns the set of some things.
func setOf(things string) int {
	set := 0
	for _, thing := range things {
		set += []int{1, 2, 4}[thing-'0']
	}
	return set
}

// thingsOf returns the things of a set.
func thingsOf(set int) []int {
	return [][]int{{}, {0}, {1}, {0, 1}, {2}, {0, 2}, {1, 2}, {0, 1, 2}}[set]
}

// jobsText writes jobs with all their fields.
func jobsText(jobs []impl.Job) string {
	return fmt.Sprintf("%+v", jobs)
}

// wholeJob tells by the document whether a job may be among others.
func wholeJob(j impl.Job) bool {
	times := j.Start >= 0 && j.Start < j.End && j.End < 21
	return times && j.Reads >= 0 && j.Reads < 8 && j.Writes >= 0 && j.Writes < 8
}

// mayStandBy tells whether a job may stand behind valid ones, however many these are.
func mayStandBy(jobs []impl.Job, j impl.Job) bool {
	return wholeJob(j) && !slices.ContainsFunc(jobs, func(other impl.Job) bool { return other.End == j.End })
}

// wholeJobs tells by the document what jobs are valid.
func wholeJobs(jobs []impl.Job) bool {
	for i, j := range jobs {
		if i > 5 || !mayStandBy(jobs[:i], j) {
			return false
		}
	}
	return true
}

// share tells whether two sets have a thing in common.
func share(a, b int) bool {
	return slices.ContainsFunc(thingsOf(a), func(thing int) bool { return slices.Contains(thingsOf(b), thing) })
}

// keptJob tells whether a job is kept: no other one is that hits it.
func keptJob(jobs []impl.Job, kind string, i int) bool {
	set := jobs[i].Writes
	if kind == "reads" {
		set = jobs[i].Reads
	}
	for k, other := range jobs {
		within := other.End > jobs[i].Start && other.End < jobs[i].End
		if within && share(other.Writes, set) && keptJob(jobs, kind, k) {
			return false
		}
	}
	return true
}

// keptJobs tells for each job whether it is kept.
func keptJobs(jobs []impl.Job, kind string) []bool {
	var all []bool
	for i := range jobs {
		all = append(all, keptJob(jobs, kind, i))
	}
	return all
}

// aheadJob tells whether a job stands ahead of another one, if both are kept.
func aheadJob(a, b impl.Job) bool {
	if a.End < b.End && share(a.Writes, b.Writes) {
		return true
	}
	if a.End <= b.Start && share(a.Writes, b.Reads) {
		return true
	}
	return a.Start < b.End && share(a.Reads, b.Writes)
}

// jobOrderModel tells the order of jobs by a kind.
func jobOrderModel(jobs []impl.Job, kind string) ([]int, bool) {
	ahead := make([]int, len(jobs))
	for i, a := range jobs {
		for k, b := range jobs {
			if i != k && keptJob(jobs, kind, i) && keptJob(jobs, kind, k) && aheadJob(a, b) {
				ahead[i] += 1 << k
			}
		}
	}
	return orderModel(ahead)
}

// readAtOnce tells for each job that is kept, and each thing that it reads, whose
// write it reads, that of the last one that ended up to its start, and behind
// them who writes each thing last.
func readAtOnce(jobs []impl.Job, there []bool) string {
	writer := func(thing, upTo int) int {
		last := -1
		for i, j := range jobs {
			if there[i] && j.End <= upTo && slices.Contains(thingsOf(j.Writes), thing) && (last < 0 || j.End > jobs[last].End) {
				last = i
			}
		}
		return last
	}
	var reads []int
	for i, j := range jobs {
		for _, thing := range thingsOf(j.Reads) {
			if there[i] {
				reads = append(reads, writer(thing, j.Start))
			}
		}
	}
	return fmt.Sprint(reads, writer(0, 20), writer(1, 20), writer(2, 20))
}

// readInOrder tells the same when the jobs that are kept go one after the other.
func readInOrder(jobs []impl.Job, there []bool, order []int) string {
	last := [3]int{-1, -1, -1}
	read := make([][]int, len(jobs))
	for _, i := range order {
		if !there[i] {
			continue
		}
		for _, thing := range thingsOf(jobs[i].Reads) {
			read[i] = append(read[i], last[thing])
		}
		for _, thing := range thingsOf(jobs[i].Writes) {
			last[thing] = i
		}
	}
	return fmt.Sprint(slices.Concat(read...), last[0], last[1], last[2])
}

// everyJob returns every job of some spans whose sets are the lowest ones.
func everyJob(spans string, sets int) []impl.Job {
	var all []impl.Job
	for _, span := range jobsOf(spans) {
		for n := range sets * sets {
			all = append(all, impl.Job{Start: span.Start, End: span.End, Reads: n / sets, Writes: n % sets})
		}
	}
	return all
}

// eachJobs calls f with all valid jobs, at most so many of a choice.
func eachJobs(size int, choice []impl.Job, f func(jobs []impl.Job)) {
	var grow func(jobs []impl.Job)
	grow = func(jobs []impl.Job) {
		f(jobs)
		for _, j := range choice {
			if len(jobs) < size && mayStandBy(jobs, j) {
				grow(append(slices.Clone(jobs), j))
			}
		}
	}
	grow(nil)
}

// someJobs returns at most so many valid jobs, of times up to one, with fewer
// things the higher few is.
func someJobs(next func(int) int, size, times, few int) []impl.Job {
	things := func() int {
		set := 0
		for _, bit := range []int{1, 2, 4} {
			if next(few) == 0 {
				set += bit
			}
		}
		return set
	}
	var jobs []impl.Job
	for range 4 * size {
		end := 1 + next(times)
		j := impl.Job{Start: next(end), End: end, Reads: things(), Writes: things()}
		if len(jobs) < size && mayStandBy(jobs, j) {
			jobs = append(jobs, j)
		}
	}
	return jobs
}

// fullJobs returns as many jobs as there may be: one behind the other, all at
// once, and so that some are kept and some are not.
func fullJobs() [][]impl.Job {
	var all [][]impl.Job
	for _, text := range []string{
		"0-1r0w0 1-2r0w0 2-3r0w0 3-4r0w0 4-5r0w0 5-20r0w0",
		"19-20r0w0 18-19r0w0 17-18r0w0 16-17r0w0 15-16r0w0 0-15r0w0",
		"0-15r012w012 0-16r012w012 0-17r012w012 0-18r012w012 0-19r012w012 0-20r012w012",
		"0-6r0w1 0-5r1w2 0-4r2w0 0-3r0w1 0-2r1w2 0-1r2w0",
		"0-20 1-19 2-18 3-17 4-16 5-15",
		"0-2w0 1-3w0 2-4w0 3-5w0 4-6w0 5-7w0",
		"0-2r0w1 1-3r1w0 2-4r0w1 3-5r1w0 4-6r0w1 5-7r1w0",
	} {
		all = append(all, jobsOf(text))
	}
	return all
}

// walkedJobs returns valid jobs of any number.
func walkedJobs(count int) [][]impl.Job {
	next := rolls(223)
	all := fullJobs()
	for i := range count {
		all = append(all, someJobs(next, next(7), []int{6, 8, 12, 20}[i%4], 1+i/4%5))
	}
	return all
}

// manyJobs calls f with all few jobs, with walked ones, and with as many as there
// may be.
func manyJobs(f func(jobs []impl.Job)) {
	eachJobs(2, everyJob("0-1 0-2 0-3 1-2 1-3 2-3 2-20 19-20", 4), f)
	eachJobs(3, everyJob("0-1 0-2 0-3 1-2 1-3 2-3", 2), f)
	for _, jobs := range walkedJobs(4000) {
		f(jobs)
	}
}

// notSets are numbers that are no set of things.
var notSets = []int{-1, -8, 8, 9, 16, 256, 256 + 1, 1 << 32, 1<<32 + 1, math.MaxInt, math.MinInt}

// jobsNear returns a job with another time or set.
func jobsNear(j impl.Job) []impl.Job {
	var near []impl.Job
	change := func(f func(j *impl.Job)) {
		other := j
		f(&other)
		near = append(near, other)
	}
	for _, n := range append([]int{0, 1, 7}, notSets...) {
		change(func(j *impl.Job) { j.Reads = n })
		change(func(j *impl.Job) { j.Writes = n })
	}
	for _, n := range append([]int{0, 1, 19, 20, j.Start - 1, j.Start + 1, j.End - 1, j.End + 1, j.Start, j.End}, notTimes...) {
		change(func(j *impl.Job) { j.Start = n })
		change(func(j *impl.Job) { j.End = n })
	}
	return near
}

// wrongJobs returns jobs that are not valid, each for one reason.
func wrongJobs() [][]impl.Job {
	wrong := [][]impl.Job{make([]impl.Job, 1), make([]impl.Job, 6), make([]impl.Job, 7), make([]impl.Job, 100000)}
	for _, text := range []string{
		"0-0", "1-1", "20-20", "2-1", "20-0", "20-1", "0-21", "20-21", "19-21", "21-22", "0-256",
		"0-1 0-1", "0-2 1-2", "1-2r0 0-2w0", "0-3 0-2 0-3", "5-20 6-19 7-20", "0-1 0-2 0-3 0-4 0-5 4-5",
	} {
		wrong = append(wrong, jobsOf(text))
	}
	for _, n := range notSets {
		wrong = append(wrong, []impl.Job{{End: 7, Reads: n}}, []impl.Job{{End: 7, Writes: n}}, []impl.Job{{End: 7, Reads: n, Writes: n}})
	}
	for _, n := range notTimes {
		wrong = append(wrong, []impl.Job{{Start: n, End: 7}}, []impl.Job{{End: n}}, []impl.Job{{Start: n, End: n}})
		if n < math.MaxInt {
			wrong = append(wrong, []impl.Job{{Start: n, End: n + 1}})
		}
	}
	for _, jobs := range slices.Clone(wrong) {
		wrong = append(wrong, slices.Concat(jobsOf("0-9w0 3-11r0"), jobs), slices.Concat(jobs, jobsOf("0-9w0 3-11r0")), slices.Concat(jobsOf("9-12r1"), jobs, jobsOf("10-13w1")))
	}
	for _, jobs := range fullJobs() {
		wrong = append(wrong, append(slices.Clone(jobs), impl.Job{Start: 2, End: 8}), append([]impl.Job{{End: 9}}, jobs...), slices.Repeat(jobs, 2))
	}
	return wrong
}
