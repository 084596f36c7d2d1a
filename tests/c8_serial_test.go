package tests

import (
	"math"
	"slices"
	"testing"

	"loop.example/storeofkeys/impl"
)

// checkActs compares ValidActs with the document, and returns what that tells.
func checkActs(t *testing.T, acts []impl.Act) bool {
	t.Helper()
	want := wholeActs(acts)
	if impl.ValidActs(acts) != want {
		t.Errorf("ValidActs(%.300s) is not %v", actsText(acts), want)
	}
	return want
}

// TestP59SchedulesCanBeCut cuts schedules at each place, and changes each one of
// their acts, so that they are valid still, or not.
func TestP59SchedulesCanBeCut(t *testing.T) {
	manyActs(func(acts []impl.Act) {
		for at := range len(acts) + 1 {
			if !impl.ValidActs(acts[:at]) {
				t.Fatalf("%s: cut at %d it is no schedule", actsText(acts), at)
			}
		}
	})
	valid := map[bool]int{}
	for _, acts := range append(fullActs(), walkedActs(200)...) {
		for at, a := range acts {
			for _, near := range actsNear(a) {
				other := slices.Clone(acts)
				other[at] = near
				valid[checkActs(t, other)]++
				valid[checkActs(t, other[:at+1])]++
			}
		}
	}
	if valid[true] < 1000 || valid[false] < 1000 {
		t.Errorf("%d are valid, %d are not", valid[true], valid[false])
	}
}

// TestP59MostActs puts acts one behind the other, up to more than there may be.
func TestP59MostActs(t *testing.T) {
	for _, a := range everyAct(4, 3) {
		var acts []impl.Act
		for size := range 40 {
			if checkActs(t, acts) != (size <= 10) {
				t.Errorf("%d acts are a schedule, or are none", size)
			}
			acts = append(acts, a)
		}
	}
	for _, acts := range fullActs() {
		if len(acts) != 10 || !impl.ValidActs(acts) || impl.ValidActs(withAct(acts, acts[0])) {
			t.Errorf("%s is no schedule, or is one with one more", actsText(acts))
		}
	}
	if !impl.ValidActs(nil) || !impl.ValidActs([]impl.Act{}) {
		t.Error("no acts are no schedule")
	}
}

// TestWrongActs checks every function on acts that are no schedule.
func TestWrongActs(t *testing.T) {
	for _, acts := range wrongActs() {
		if impl.ValidActs(acts) || wholeActs(acts) {
			t.Errorf("ValidActs(%.300s) is %v", actsText(acts), impl.ValidActs(acts))
		}
		if got := impl.AheadOf(acts); len(got) != 0 {
			t.Errorf("AheadOf(%.300s) = %v", actsText(acts), got)
		}
		if got, ok := impl.OrderOf(acts); ok || len(got) != 0 {
			t.Errorf("OrderOf(%.300s) = %v, %v", actsText(acts), got, ok)
		}
		if impl.MaySwap(acts) {
			t.Errorf("MaySwap(%.300s) is true", actsText(acts))
		}
		if got := impl.ReadsOf(acts); len(got) != 0 {
			t.Errorf("ReadsOf(%.300s) = %v", actsText(acts), got)
		}
		if got, ok := impl.ViewOrder(acts); ok || len(got) != 0 {
			t.Errorf("ViewOrder(%.300s) = %v, %v", actsText(acts), got, ok)
		}
	}
}

// TestP60TurnedSchedules turns schedules round.
func TestP60TurnedSchedules(t *testing.T) {
	both := 0
	manyActs(func(acts []impl.Act) {
		turned := slices.Clone(acts)
		slices.Reverse(turned)
		ahead, back := impl.AheadOf(acts), impl.AheadOf(turned)
		if want := aheadModel(acts); !slices.Equal(ahead, want) || len(back) != 4 {
			t.Fatalf("AheadOf(%s) = %v, want %v, and turned it is %v", actsText(acts), ahead, want, back)
		}
		for party := range 4 {
			if ahead[party]>>party&1 != 0 || ahead[party] < 0 || ahead[party] > 15 {
				t.Errorf("AheadOf(%s) = %v: %d is ahead of itself, or of others than parties", actsText(acts), ahead, party)
			}
			for other := range 4 {
				if ahead[party]>>other&1 != back[other]>>party&1 {
					t.Errorf("AheadOf(%s) = %v, and turned it is %v", actsText(acts), ahead, back)
				}
				if party < other && ahead[party]>>other&1 == 1 && ahead[other]>>party&1 == 1 {
					both++
				}
			}
		}
	})
	if both < 1000 {
		t.Errorf("only %d times two parties are ahead of each other", both)
	}
}

// TestP60Examples checks who is ahead in schedules written out.
func TestP60Examples(t *testing.T) {
	tests := []struct {
		acts string
		want []int
	}{
		{"", []int{0, 0, 0, 0}},
		{"w00", []int{0, 0, 0, 0}},
		{"w00 r00 w00", []int{0, 0, 0, 0}},
		{"w31 r31 w30 w32 r30", []int{0, 0, 0, 0}},
		{"r00 r10 r20 r30", []int{0, 0, 0, 0}},
		{"w00 w11 w22", []int{0, 0, 0, 0}},
		{"w00 r10", []int{2, 0, 0, 0}},
		{"r00 w10", []int{2, 0, 0, 0}},
		{"w00 w10", []int{2, 0, 0, 0}},
		{"w00 r11", []int{0, 0, 0, 0}},
		{"w10 r00", []int{0, 1, 0, 0}},
		{"r00 w10 w00", []int{2, 1, 0, 0}},
		{"w00 w10 w20 w30", []int{14, 12, 8, 0}},
		{"w30 w20 w10 w00", []int{0, 1, 3, 7}},
		{"w02 r12 r22 r32", []int{14, 0, 0, 0}},
		{"r02 r12 r22 w32", []int{8, 8, 8, 0}},
		{"w00 w10 w20 w30 w00", []int{14, 13, 9, 1}},
		{"w00 w10 w11 w21 w22 w02", []int{2, 4, 1, 0}},
		{"w31 w02 r22 w11", []int{4, 0, 0, 2}},
		{"w00 r11 w10 r01", []int{2, 0, 0, 0}},
		{"r32 w02 w12 w22 w32 w00 w10 w20 w30 r31", []int{14, 12, 8, 7}},
	}
	for _, test := range tests {
		if got := impl.AheadOf(actsOf(test.acts)); !slices.Equal(got, test.want) {
			t.Errorf("AheadOf(%s) = %v, want %v", test.acts, got, test.want)
		}
	}
}

// checkOrder compares OrderOf and MaySwap with the document, and reports whether
// there is an order.
func checkOrder(t *testing.T, acts []impl.Act) bool {
	t.Helper()
	ahead := impl.AheadOf(acts)
	got, ok := impl.OrderOf(acts)
	if want, fine := orderModel(aheadModel(acts)); ok != fine || !slices.Equal(got, want) {
		t.Fatalf("OrderOf(%s) = %v, %v, want %v, %v", actsText(acts), got, ok, want, fine)
	}
	if may := impl.MaySwap(acts); may != ok || may != sortModel(acts) {
		t.Errorf("MaySwap(%s) is %v", actsText(acts), may)
	}
	if !ok {
		return false
	}
	for party := range 4 {
		if !slices.Contains(got, party) || len(got) != 4 {
			t.Fatalf("OrderOf(%s) = %v has no %d", actsText(acts), got, party)
		}
		for other := range 4 {
			if ahead[party]>>other&1 == 1 && slices.Index(got, party) > slices.Index(got, other) {
				t.Errorf("OrderOf(%s) = %v, but %d is ahead of %d", actsText(acts), got, party, other)
			}
		}
	}
	return true
}

// TestP61OrdersGoWithWhatIsAhead orders the parties of schedules.
func TestP61OrdersGoWithWhatIsAhead(t *testing.T) {
	ordered := map[bool]int{}
	orders := map[[4]int]int{}
	manyActs(func(acts []impl.Act) {
		ordered[checkOrder(t, acts)]++
		if got, ok := impl.OrderOf(acts); ok {
			orders[[4]int(got)]++
		}
	})
	if ordered[true] < 1000 || ordered[false] < 1000 || len(orders) != 24 {
		t.Errorf("%d have an order, %d have none, and the orders are %v", ordered[true], ordered[false], orders)
	}
}

// TestP61ExchangesAreTried tries all exchanges of schedules.
func TestP61ExchangesAreTried(t *testing.T) {
	may := map[bool]int{}
	check := func(acts []impl.Act) {
		want := swapModel(acts)
		if impl.MaySwap(acts) != want {
			t.Errorf("MaySwap(%s) is not %v", actsText(acts), want)
		}
		may[want]++
	}
	eachSchedule(4, everyAct(4, 1), check)
	eachSchedule(4, everyAct(2, 2), check)
	for _, acts := range walkedActs(1500) {
		check(acts[:min(6, len(acts))])
	}
	if may[true] < 100 || may[false] < 100 {
		t.Errorf("%d may be exchanged, %d may not", may[true], may[false])
	}
}

// TestP61Examples orders the parties of schedules written out. Without an order
// there are no exchanges.
func TestP61Examples(t *testing.T) {
	tests := []struct {
		acts string
		want []int
	}{
		{"", []int{0, 1, 2, 3}},
		{"w31 r31 w30", []int{0, 1, 2, 3}},
		{"r30 r20 r00", []int{0, 1, 2, 3}},
		{"w00 w10 w20 w30", []int{0, 1, 2, 3}},
		{"w30 w20 w10 w00", []int{3, 2, 1, 0}},
		{"w30 r00", []int{1, 2, 3, 0}},
		{"w20 w00", []int{1, 2, 0, 3}},
		{"w20 w10", []int{0, 2, 1, 3}},
		{"w30 r10 r00 r20", []int{3, 0, 1, 2}},
		{"w31 w02 r22 w11", []int{0, 2, 3, 1}},
		{"w10 w31 r21 r00", []int{1, 0, 3, 2}},
		{"w00 r10 r00 r10", []int{0, 1, 2, 3}},
		{"r10 w00 w01 r10 r22", nil},
		{"w00 r11 w10 r01", []int{0, 1, 2, 3}},
		{"r00 w10 w00", nil},
		{"w00 r10 w00", nil},
		{"r00 w10 w00 w20", nil},
		{"w00 r10 w11 r01", nil},
		{"w00 w10 w11 w21 w22 w02", nil},
		{"w00 r10 w11 r21 w22 r32 w30 r00", nil},
		{"w00 r10 w11 r21 w22 r32 w30 r30", []int{0, 1, 2, 3}},
		{"w00 r10 w11 r21 w22 r32 w31", []int{0, 1, 2, 3}},
		{"w30 r20 w21 r11 w12 r02", []int{3, 2, 1, 0}},
	}
	for _, test := range tests {
		acts := actsOf(test.acts)
		if got, ok := impl.OrderOf(acts); ok != (test.want != nil) || !slices.Equal(got, test.want) {
			t.Errorf("OrderOf(%s) = %v, %v, want %v", test.acts, got, ok, test.want)
		}
		if may := impl.MaySwap(acts); may != (test.want != nil) {
			t.Errorf("MaySwap(%s) is %v", test.acts, may)
		}
	}
}

// TestP61OnePartyAndOneThing orders schedules of each party alone, and checks
// those of two parties with one thing.
func TestP61OnePartyAndOneThing(t *testing.T) {
	for party := range 4 {
		eachSchedule(4, everyAct(4, 3)[6*party:6*party+6], func(acts []impl.Act) {
			if got, ok := impl.OrderOf(acts); !ok || !slices.Equal(got, []int{0, 1, 2, 3}) || !slices.Equal(impl.AheadOf(acts), make([]int, 4)) {
				t.Errorf("OrderOf(%s) = %v, %v, and AheadOf is %v", actsText(acts), got, ok, impl.AheadOf(acts))
			}
			if got, ok := impl.ViewOrder(acts); !ok || !slices.Equal(got, []int{0, 1, 2, 3}) {
				t.Errorf("ViewOrder(%s) = %v, %v", actsText(acts), got, ok)
			}
		})
	}
	for thing := range 3 {
		for _, text := range []string{"r00 w10 w00", "w00 r10 w00", "w00 w10 r00", "w00 w10 w00"} {
			acts := actsOf(text)
			for i := range acts {
				acts[i].Thing = thing
			}
			if impl.MaySwap(acts) || !slices.Equal(impl.AheadOf(acts), []int{2, 1, 0, 0}) {
				t.Errorf("MaySwap(%s) is true, or AheadOf is not: %v", actsText(acts), impl.AheadOf(acts))
			}
		}
	}
}

// TestP62WhatMayBeExchanged reads schedules that may be exchanged, and cuts them.
func TestP62WhatMayBeExchanged(t *testing.T) {
	may := 0
	manyActs(func(acts []impl.Act) {
		if !impl.MaySwap(acts) {
			return
		}
		if _, ok := impl.ViewOrder(acts); !ok {
			t.Errorf("ViewOrder(%s) is not there", actsText(acts))
		}
		for at := range acts {
			if !impl.MaySwap(acts[:at]) {
				t.Errorf("MaySwap(%s) is false", actsText(acts[:at]))
			}
		}
		order, _ := impl.OrderOf(acts)
		if serial := oneByOne(acts, order); readsByParty(serial) != readsByParty(acts) {
			t.Errorf("%s reads otherwise by OrderOf %v", actsText(acts), order)
		}
		may++
	})
	if may < 1000 {
		t.Errorf("only %d may be exchanged", may)
	}
}

// TestP63ReadsComeFromWrites checks whose write each act reads.
func TestP63ReadsComeFromWrites(t *testing.T) {
	own, other := 0, 0
	manyActs(func(acts []impl.Act) {
		got := impl.ReadsOf(acts)
		if want := readsModel(acts); !slices.Equal(got, want) || len(got) != len(acts)+3 {
			t.Fatalf("ReadsOf(%s) = %v, want %v", actsText(acts), got, want)
		}
		for i, a := range acts {
			if a.Write != (got[i] == -2) {
				t.Errorf("ReadsOf(%s) = %v: act %d", actsText(acts), got, i)
			}
			writers := map[int]bool{}
			for _, ahead := range acts[:i] {
				if ahead.Write && ahead.Thing == a.Thing {
					writers[ahead.Tx] = true
				}
			}
			if !a.Write && got[i] == -1 != (len(writers) == 0) || !a.Write && got[i] != -1 && !writers[got[i]] {
				t.Errorf("ReadsOf(%s) = %v: act %d reads what nobody writes", actsText(acts), got, i)
			}
			switch {
			case got[i] == a.Tx:
				own++
			case got[i] >= 0:
				other++
			}
		}
	})
	if own < 1000 || other < 1000 {
		t.Errorf("only %d read their own writes, and %d those of others", own, other)
	}
}

// TestP63Examples checks what is read of schedules written out.
func TestP63Examples(t *testing.T) {
	tests := []struct {
		acts string
		want []int
	}{
		{"", []int{-1, -1, -1}},
		{"r00", []int{-1, -1, -1, -1}},
		{"w00", []int{-2, 0, -1, -1}},
		{"w32", []int{-2, -1, -1, 3}},
		{"w10 r10", []int{-2, 1, 1, -1, -1}},
		{"r10 w10 r10", []int{-1, -2, 1, 1, -1, -1}},
		{"w10 r00 w01", []int{-2, 1, -2, 1, 0, -1}},
		{"w10 r11 r12", []int{-2, -1, -1, 1, -1, -1}},
		{"w10 w20 r30 w30 r00 r11", []int{-2, -2, 2, -2, 3, -1, 3, -1, -1}},
		{"r12 w12 r12 w02 r12 r32", []int{-1, -2, 1, -2, 0, 0, -1, -1, 0}},
		{"w00 w11 w20 w31 r00 r11 r20 r31 r02 r12", []int{-2, -2, -2, -2, 2, 3, 2, 3, -1, -1, 2, 3, -1}},
	}
	for _, test := range tests {
		if got := impl.ReadsOf(actsOf(test.acts)); !slices.Equal(got, test.want) {
			t.Errorf("ReadsOf(%s) = %v, want %v", test.acts, got, test.want)
		}
	}
}

// TestP64OrdersThatReadTheSame does schedules one party after the other by their
// orders.
func TestP64OrdersThatReadTheSame(t *testing.T) {
	views := map[[2]bool]int{}
	otherOrder := 0
	orders := map[[4]int]int{}
	manyActs(func(acts []impl.Act) {
		got, ok := impl.ViewOrder(acts)
		if want, fine := viewModel(acts); ok != fine || !slices.Equal(got, want) {
			t.Fatalf("ViewOrder(%s) = %v, %v, want %v, %v", actsText(acts), got, ok, want, fine)
		}
		views[[2]bool{ok, impl.MaySwap(acts)}]++
		if !ok {
			return
		}
		orders[[4]int(got)]++
		was, is := impl.ReadsOf(acts), impl.ReadsOf(oneByOne(acts, got))
		if !slices.Equal(was[len(acts):], is[len(acts):]) {
			t.Errorf("%s has other last writes by ViewOrder %v", actsText(acts), got)
		}
		slices.Sort(was)
		slices.Sort(is)
		if !slices.Equal(was, is) {
			t.Errorf("%s has other parties read by ViewOrder %v", actsText(acts), got)
		}
		if swapped, may := impl.OrderOf(acts); may && !slices.Equal(swapped, got) {
			otherOrder++
		}
	})
	if views[[2]bool{true, true}] < 1000 || views[[2]bool{true, false}] < 50 || views[[2]bool{false, false}] < 1000 {
		t.Errorf("orders that are there, and exchanges that may be: %v", views)
	}
	if otherOrder < 100 || len(orders) != 24 {
		t.Errorf("only %d orders are other ones than those of exchanges, and the orders are %v", otherOrder, orders)
	}
}

// TestP64Examples checks the orders that read the same of schedules written out.
func TestP64Examples(t *testing.T) {
	tests := []struct {
		acts string
		want []int
	}{
		{"", []int{0, 1, 2, 3}},
		{"r30 r20 r00", []int{0, 1, 2, 3}},
		{"w10 r00", []int{1, 0, 2, 3}},
		{"r10 w00", []int{1, 0, 2, 3}},
		{"w30 r00", []int{1, 2, 3, 0}},
		{"w10 w00", []int{1, 0, 2, 3}},
		{"w10 w00 w20", []int{0, 1, 2, 3}},
		{"w30 w20 w10 w00", []int{1, 2, 3, 0}},
		{"r00 w10 w00 w20", []int{0, 1, 2, 3}},
		{"r10 w00 w10 w30", []int{1, 0, 2, 3}},
		{"r00 w10 w00", nil},
		{"w10 w00 r10", nil},
		{"w00 w10 w00", []int{1, 0, 2, 3}},
		{"w00 w10 w00 r20", []int{1, 0, 2, 3}},
		{"w00 r10 w00", []int{0, 1, 2, 3}},
		{"w20 r10 w00 r30", []int{2, 1, 0, 3}},
		{"w30 r20 w21 r11 w12 r02", []int{3, 2, 1, 0}},
		{"w00 r10 w11 r01", nil},
		{"w00 r10 r10 w10 r00", nil},
		{"w00 r10 w20 r30 r22 w32", []int{0, 1, 2, 3}},
		{"w00 r10 w20 r30 r22 w32 w00", []int{2, 3, 0, 1}},
		{"w00 r10 w20 r30 r32 w22", nil},
	}
	for _, test := range tests {
		if got, ok := impl.ViewOrder(actsOf(test.acts)); ok != (test.want != nil) || !slices.Equal(got, test.want) {
			t.Errorf("ViewOrder(%s) = %v, %v, want %v", test.acts, got, ok, test.want)
		}
	}
}

// checkJobs compares ValidJobs with the document, and returns what that tells.
func checkJobs(t *testing.T, jobs []impl.Job) bool {
	t.Helper()
	want := wholeJobs(jobs)
	if impl.ValidJobs(jobs) != want {
		t.Errorf("ValidJobs(%.300s) is not %v", jobsText(jobs), want)
	}
	return want
}

// TestP65JobsCanBeLeftOut leaves out the last jobs, and each one, and changes
// each one, so that they are valid still, or not.
func TestP65JobsCanBeLeftOut(t *testing.T) {
	manyJobs(func(jobs []impl.Job) {
		for at := range jobs {
			without := slices.Delete(slices.Clone(jobs), at, at+1)
			if !impl.ValidJobs(jobs[:at]) || !impl.ValidJobs(without) {
				t.Fatalf("%s: cut at %d they are not valid", jobsText(jobs), at)
			}
		}
		if !impl.ValidJobs(jobs) {
			t.Errorf("%s is not valid", jobsText(jobs))
		}
	})
	valid := map[bool]int{}
	for _, jobs := range walkedJobs(300) {
		for at, j := range jobs {
			for _, near := range jobsNear(j) {
				other := slices.Clone(jobs)
				other[at] = near
				valid[checkJobs(t, other)]++
				valid[checkJobs(t, other[:at+1])]++
			}
		}
	}
	if valid[true] < 1000 || valid[false] < 1000 {
		t.Errorf("%d are valid, %d are not", valid[true], valid[false])
	}
}

// TestP65Examples checks jobs written out, and as many as there may be, and
// those that end at once with others, or when they start.
func TestP65Examples(t *testing.T) {
	for _, text := range []string{
		"", "0-1", "0-20", "19-20", "0-1r012w012", "0-2 0-1", "0-2 1-3 2-4", "5-6 5-7 5-8", "3-4r0 0-3w0", "19-20 18-19 0-18",
	} {
		if !impl.ValidJobs(jobsOf(text)) {
			t.Errorf("%q is not valid", text)
		}
	}
	if !impl.ValidJobs(nil) || !impl.ValidJobs([]impl.Job{}) {
		t.Error("no jobs are not valid")
	}
	for _, jobs := range fullJobs() {
		more := append(slices.Clone(jobs), impl.Job{Start: 7, End: 14})
		if len(jobs) != 6 || !impl.ValidJobs(jobs) || impl.ValidJobs(more) || !impl.ValidJobs(more[1:]) {
			t.Errorf("%s is not valid, or is so with one more", jobsText(jobs))
		}
	}
	for at := range 22 {
		for other := range 22 {
			checkJobs(t, []impl.Job{{Start: at, End: other}})
			checkJobs(t, []impl.Job{{End: at}, {End: other}})
			checkJobs(t, []impl.Job{{End: at}, {End: 6}, {Start: 4, End: other}})
			checkJobs(t, []impl.Job{{Start: 1, End: 6}, {Start: 2, End: at}, {Start: other, End: 20}})
		}
	}
	for reads := range 10 {
		for writes := range 10 {
			checkJobs(t, []impl.Job{{End: 2, Reads: reads - 1, Writes: writes - 1}})
		}
	}
}

// TestWrongJobs checks every function on jobs that are not valid, and on kinds
// that are none.
func TestWrongJobs(t *testing.T) {
	check := func(jobs []impl.Job, kind string) {
		if got := impl.KeptBy(jobs, kind); len(got) != 0 {
			t.Errorf("KeptBy(%.300s, %q) = %v", jobsText(jobs), kind, got)
		}
		if got, ok := impl.JobOrder(jobs, kind); ok || len(got) != 0 {
			t.Errorf("JobOrder(%.300s, %q) = %v, %v", jobsText(jobs), kind, got, ok)
		}
	}
	for _, jobs := range wrongJobs() {
		if impl.ValidJobs(jobs) || wholeJobs(jobs) {
			t.Errorf("ValidJobs(%.300s) is %v", jobsText(jobs), impl.ValidJobs(jobs))
		}
		for _, kind := range append(notKinds, kinds...) {
			check(jobs, kind)
		}
	}
	for _, jobs := range append(walkedJobs(200), nil, jobsOf("0-1"), jobsOf("0-3r0w1 1-2r1w0")) {
		for _, kind := range notKinds {
			check(jobs, kind)
		}
	}
}

// checkKeptBy compares KeptBy with the document, and returns it.
func checkKeptBy(t *testing.T, jobs []impl.Job, kind string) []bool {
	t.Helper()
	got := impl.KeptBy(jobs, kind)
	if want := keptJobs(jobs, kind); !slices.Equal(got, want) {
		t.Fatalf("KeptBy(%s, %s) = %v, want %v", jobsText(jobs), kind, got, want)
	}
	first := -1
	for i, j := range jobs {
		if first < 0 || j.End < jobs[first].End {
			first = i
		}
	}
	if first >= 0 && !got[first] {
		t.Errorf("KeptBy(%s, %s) = %v, but %d is the first one to end", jobsText(jobs), kind, got, first)
	}
	return got
}

// TestP66NoTwoThatAreKept keeps jobs by what they write, and by what they read.
func TestP66NoTwoThatAreKept(t *testing.T) {
	all := map[bool]int{}
	manyJobs(func(jobs []impl.Job) {
		for _, kind := range kinds {
			for _, there := range checkKeptBy(t, jobs, kind) {
				all[there]++
			}
		}
		there := impl.KeptBy(jobs, "writes")
		for i, a := range jobs {
			for k, b := range jobs {
				if i < k && there[i] && there[k] && a.Start < b.End && b.Start < a.End && share(a.Writes, b.Writes) {
					t.Errorf("KeptBy(%s, writes) = %v: %d and %d write the same at once", jobsText(jobs), there, i, k)
				}
			}
		}
	})
	if all[true] < 1000 || all[false] < 1000 {
		t.Errorf("%d are kept, %d are not", all[true], all[false])
	}
}

// TestP66Examples checks which jobs written out are kept, as a 1 for each one
// that is, and a 0 for each other one, by what they write, and by what they read.
func TestP66Examples(t *testing.T) {
	tests := []struct{ jobs, writes, reads string }{
		{"", "", ""},
		{"0-1", "1", "1"},
		{"0-20r012w012", "1", "1"},
		{"0-2w0 1-3w0", "10", "11"},
		{"1-3w0 0-2w0", "01", "11"},
		{"0-2w0 2-3w0", "11", "11"},
		{"2-3w0 0-2w0", "11", "11"},
		{"0-2w0 2-3r0", "11", "11"},
		{"0-2w0 1-3r0", "11", "10"},
		{"1-3r0 0-2w0", "11", "01"},
		{"0-2r0 1-3w0", "11", "11"},
		{"0-2r0 1-3r0", "11", "11"},
		{"0-2w1 1-3r0w0", "11", "11"},
		{"0-2w01 1-3r12w12", "10", "10"},
		{"0-2w0 1-3w0 2-4w0", "101", "111"},
		{"0-2w0 0-3w01 0-4w1", "101", "111"},
		{"0-4w1 0-3w01 0-2w0", "101", "111"},
		{"0-2w0 0-3r0w1 0-4r1", "111", "101"},
		{"0-1w0 0-2r0w0 1-3r0w0", "101", "101"},
		{"0-20r2w2 18-19r2w2", "01", "01"},
		{"0-1w0 2-3w1 1-4r01w2", "111", "110"},
		{"5-7w2 0-1w2 6-9w2 7-8r2w2", "1101", "1111"},
		{"0-15r012w012 0-16r012w012 0-17r012w012 0-18r012w012 0-19r012w012 0-20r012w012", "100000", "100000"},
		{"0-2w0 1-3w0 2-4w0 3-5w0 4-6w0 5-7w0", "101010", "111111"},
		{"0-2r0w1 1-3r1w0 2-4r0w1 3-5r1w0 4-6r0w1 5-7r1w0", "111111", "101010"},
	}
	for _, test := range tests {
		for i, want := range []string{test.writes, test.reads} {
			text := ""
			for _, there := range impl.KeptBy(jobsOf(test.jobs), kinds[i]) {
				text += map[bool]string{true: "1", false: "0"}[there]
			}
			if text != want {
				t.Errorf("KeptBy(%s, %s) = %s, want %s", test.jobs, kinds[i], text, want)
			}
		}
	}
}

// checkJobOrder compares JobOrder with the document, and reports whether there
// is an order.
func checkJobOrder(t *testing.T, jobs []impl.Job, kind string) bool {
	t.Helper()
	got, ok := impl.JobOrder(jobs, kind)
	if want, fine := jobOrderModel(jobs, kind); ok != fine || !slices.Equal(got, want) {
		t.Fatalf("JobOrder(%s, %s) = %v, %v, want %v, %v", jobsText(jobs), kind, got, ok, want, fine)
	}
	if !ok {
		return false
	}
	for i := range jobs {
		if len(got) != len(jobs) || !slices.Contains(got, i) {
			t.Errorf("JobOrder(%s, %s) = %v has no %d", jobsText(jobs), kind, got, i)
		}
	}
	there := impl.KeptBy(jobs, kind)
	if is, was := readInOrder(jobs, there, got), readAtOnce(jobs, there); is != was {
		t.Errorf("JobOrder(%s, %s) = %v reads %s, and at once %s", jobsText(jobs), kind, got, is, was)
	}
	return true
}

// TestP67WhatIsKeptByItsReads orders the jobs that are kept by what they read,
// and by what they write.
func TestP67WhatIsKeptByItsReads(t *testing.T) {
	ordered := map[bool]int{}
	moved := 0
	manyJobs(func(jobs []impl.Job) {
		if !checkJobOrder(t, jobs, "reads") {
			t.Errorf("JobOrder(%s, reads) is not there", jobsText(jobs))
		}
		ordered[checkJobOrder(t, jobs, "writes")]++
		if order, _ := impl.JobOrder(jobs, "reads"); !slices.IsSorted(order) {
			moved++
		}
	})
	if ordered[true] < 1000 || ordered[false] < 200 || moved < 1000 {
		t.Errorf("by what they write %d have an order, %d have none, and by what they read %d are not as they stand", ordered[true], ordered[false], moved)
	}
}

// TestP67Examples checks the orders of jobs written out, by what they write, and
// by what they read.
func TestP67Examples(t *testing.T) {
	tests := []struct {
		jobs          string
		writes, reads []int
	}{
		{"", []int{}, []int{}},
		{"0-1r0w0", []int{0}, []int{0}},
		{"0-3 0-2 0-1", []int{0, 1, 2}, []int{0, 1, 2}},
		{"3-4r0 0-3w0", []int{1, 0}, []int{1, 0}},
		{"3-4r0 0-2w0", []int{1, 0}, []int{1, 0}},
		{"0-2w0 1-3w0", []int{0, 1}, []int{0, 1}},
		{"1-3w0 0-2w0", []int{0, 1}, []int{1, 0}},
		{"2-3w0 0-2w0", []int{1, 0}, []int{1, 0}},
		{"1-2w0 0-5r0", []int{1, 0}, []int{0, 1}},
		{"0-5r0 1-2w0", []int{0, 1}, []int{0, 1}},
		{"0-5w0 1-2r0", []int{1, 0}, []int{1, 0}},
		{"5-6w0 0-1r0", []int{1, 0}, []int{1, 0}},
		{"0-2w0 2-5r0", []int{0, 1}, []int{0, 1}},
		{"0-2w0 1-5r0", []int{1, 0}, []int{0, 1}},
		{"0-2w0 0-5r1", []int{0, 1}, []int{0, 1}},
		{"2-3r0 0-4 0-1w0", []int{1, 2, 0}, []int{1, 2, 0}},
		{"4-6r2 3-4w1 1-3w2 0-7", []int{1, 2, 0, 3}, []int{1, 2, 0, 3}},
		{"0-2r01w0 1-3r01w1", nil, []int{0, 1}},
		{"1-3r01w1 0-2r01w0", nil, []int{0, 1}},
		{"0-4r0w1 0-5r1w2 0-6r2w0", nil, []int{0, 1, 2}},
		{"5-6r0 0-1w1 1-2r1w0 0-4", []int{1, 2, 0, 3}, []int{1, 2, 0, 3}},
		{"19-20r0w0 18-19r0w0 17-18r0w0 16-17r0w0 15-16r0w0 0-15r0w0", []int{5, 4, 3, 2, 1, 0}, []int{5, 4, 3, 2, 1, 0}},
		{"0-15r012w012 0-16r012w012 0-17r012w012 0-18r012w012 0-19r012w012 0-20r012w012", []int{0, 1, 2, 3, 4, 5}, []int{0, 1, 2, 3, 4, 5}},
	}
	for _, test := range tests {
		for i, want := range [][]int{test.writes, test.reads} {
			if got, ok := impl.JobOrder(jobsOf(test.jobs), kinds[i]); ok != (want != nil) || !slices.Equal(got, want) {
				t.Errorf("JobOrder(%s, %s) = %v, %v, want %v", test.jobs, kinds[i], got, ok, want)
			}
		}
	}
}

// TestSchedulesAreFresh checks that results share no memory with arguments, nor
// with each other, and that arguments stay, with what is behind them.
func TestSchedulesAreFresh(t *testing.T) {
	for i, given := range walkedActs(300) {
		acts, jobs := roomy(given), roomy(walkedJobs(300)[i])
		wasActs, wasJobs := slices.Clone(acts[:cap(acts)]), slices.Clone(jobs[:cap(jobs)])
		var all [][]int
		for range 2 {
			order, _ := impl.OrderOf(acts)
			view, _ := impl.ViewOrder(acts)
			byWrites, _ := impl.JobOrder(jobs, "writes")
			byReads, _ := impl.JobOrder(jobs, "reads")
			all = append(all, impl.AheadOf(acts), order, impl.ReadsOf(acts), view, byWrites, byReads)
		}
		byWrites, byReads := impl.KeptBy(jobs, "writes"), impl.KeptBy(jobs, "reads")
		impl.MaySwap(acts)
		if !impl.ValidActs(acts) || !impl.ValidJobs(jobs) || !slices.Equal(acts[:cap(acts)], wasActs) || !slices.Equal(jobs[:cap(jobs)], wasJobs) {
			t.Fatalf("arguments are now %s and %s", actsText(acts), jobsText(jobs))
		}
		apart := listsApart(func(i int) int { return math.MinInt + i }, all...)
		if !listsApart(func(i int) bool { return i == 1 }, byWrites, byReads) || !apart {
			t.Errorf("%s and %s: results share memory", actsText(acts), jobsText(jobs))
		}
	}
}
