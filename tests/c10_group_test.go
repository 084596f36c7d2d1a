package tests

import (
	"math"
	"runtime"
	"slices"
	"strings"
	"sync"
	"testing"

	"loop.example/storeofkeys/impl"
)

// checkGroup compares ValidGroup with the document, and returns what that tells.
func checkGroup(t *testing.T, g impl.Group) bool {
	t.Helper()
	want := wholeGroup(g)
	if impl.ValidGroup(g) != want {
		t.Errorf("ValidGroup(%.300s) is not %v", groupText(g), want)
	}
	return want
}

// TestP74PeersMayLead has each peer lead groups, and each one that is none, and
// changes groups so that they are valid still, or not.
func TestP74PeersMayLead(t *testing.T) {
	next := rolls(251)
	valid := map[bool]int{}
	manyGroups(func(g impl.Group) {
		if !checkGroup(t, g) {
			t.Fatalf("%s is not valid", groupText(g))
		}
		for leader := range 7 {
			other := impl.Group{Logs: g.Logs, Leader: leader, Term: g.Term}
			if impl.ValidGroup(other) != (leader < len(g.Logs)) {
				t.Errorf("ValidGroup(%s) is %v", groupText(other), leader >= len(g.Logs))
			}
		}
		if next(6) > 0 {
			return
		}
		for _, near := range groupsNear(next, g) {
			valid[checkGroup(t, near)]++
		}
	})
	if valid[true] < 1000 || valid[false] < 1000 {
		t.Errorf("%d are valid, %d are not", valid[true], valid[false])
	}
}

// TestP74Examples checks groups written out, up to as many peers, entries and
// terms as there may be.
func TestP74Examples(t *testing.T) {
	for _, g := range drawnGroups() {
		if !checkGroup(t, g) {
			t.Errorf("%s is not valid", groupText(g))
		}
	}
	for peers := range 8 {
		for size := range 15 {
			g := impl.Group{Term: 9}
			for range peers {
				g.Logs = append(g.Logs, slices.Repeat(entriesOf("4.7"), size))
			}
			if checkGroup(t, g) != (peers >= 1 && peers <= 5 && size <= 12) {
				t.Errorf("%d peers with %d entries are valid, or are not", peers, size)
			}
		}
	}
	for term := -2; term < 13; term++ {
		for own := -2; own < 13; own++ {
			for id := -2; id < 103; id += 1 + id/4*4 {
				checkGroup(t, impl.Group{Logs: [][]impl.Entry{nil, {{Term: own, Id: id}}}, Term: term})
				checkGroup(t, impl.Group{Logs: [][]impl.Entry{{{Term: 4, Id: 5}, {Term: own, Id: id}, {Term: 8, Id: 5}}}, Term: term})
			}
		}
	}
}

// TestWrongGroups checks every function on groups that are not valid.
func TestWrongGroups(t *testing.T) {
	for _, g := range wrongGroups() {
		if checkGroup(t, g) {
			t.Errorf("%.300s is valid", groupText(g))
		}
		if got := impl.SureOf(g); got != -1 {
			t.Errorf("SureOf(%.300s) = %d", groupText(g), got)
		}
		for _, x := range []int{-1, 0, 1, 2, 4, 5, 7} {
			for _, n := range []int{0, 1, 3, 7, 31} {
				if impl.MayLead(g, x, n) {
					t.Errorf("MayLead(%.300s, %d, %d) is true", groupText(g), x, n)
				}
				if got, ok := impl.ElectLeader(g, x, n); ok || !noGroup(got) {
					t.Errorf("ElectLeader(%.300s, %d, %d) = %s, %v", groupText(g), x, n, groupText(got), ok)
				}
				if got, ok := impl.ShipTo(g, x, n); ok || !noGroup(got) {
					t.Errorf("ShipTo(%.300s, %d, %d) = %s, %v", groupText(g), x, n, groupText(got), ok)
				}
			}
			if got, ok := impl.WriteGroup(g, x); ok || !noGroup(got) {
				t.Errorf("WriteGroup(%.300s, %d) = %s, %v", groupText(g), x, groupText(got), ok)
			}
		}
	}
}

// TestP75NewGroupsAreSureOfNothing makes groups of each number of peers, and of
// numbers that no group has.
func TestP75NewGroupsAreSureOfNothing(t *testing.T) {
	for n := 1; n <= 5; n++ {
		g := impl.NewGroup(n)
		if !sameGroup(g, newGroup(n)) || len(g.Logs) != n || !impl.ValidGroup(g) {
			t.Errorf("NewGroup(%d) = %s", n, groupText(g))
		}
		if sure := impl.SureOf(g); sure != 0 {
			t.Errorf("NewGroup(%d) is sure of %d", n, sure)
		}
		for x := range n {
			if all := 1<<n - 1; !impl.MayLead(g, x, all) {
				t.Errorf("MayLead(NewGroup(%d), %d, %d) is false", n, x, all)
			}
			for voters := range 1 << n {
				if sum, _ := votersOf(n, voters); impl.MayLead(g, x, voters) != (slices.Contains(sum, x) && 2*len(sum) > n) {
					t.Errorf("MayLead(NewGroup(%d), %d, %d) is not by any of most", n, x, voters)
				}
			}
		}
	}
	for _, n := range append([]int{-5, -1, 0, 6, 7, 10, 256 + 3, 1<<32 + 3}, notPeers...) {
		if n == 5 {
			continue
		}
		if g := impl.NewGroup(n); !noGroup(g) {
			t.Errorf("NewGroup(%d) = %.300s", n, groupText(g))
		}
	}
}

// TestP76WritingMakesNothingUnsure writes ids, and numbers that are none, to
// groups.
func TestP76WritingMakesNothingUnsure(t *testing.T) {
	written := map[bool]int{}
	surer := 0
	manyGroups(func(g impl.Group) {
		for _, id := range append([]int{0, 7, 99}, notIds...) {
			got, ok := impl.WriteGroup(g, id)
			want, fine := writeModel(g, id)
			if ok != fine || !sameGroup(got, want) {
				t.Fatalf("WriteGroup(%s, %d) = %s, %v, want %s, %v", groupText(g), id, groupText(got), ok, groupText(want), fine)
			}
			if !ok {
				if id == 7 {
					written[false]++
				}
				continue
			}
			written[true]++
			if was, is := impl.SureOf(g), impl.SureOf(got); was < 0 || is < was || !impl.ValidGroup(got) {
				t.Errorf("WriteGroup(%s, %d) = %s is sure of %d, after %d", groupText(g), id, groupText(got), is, was)
			} else if is > was {
				surer++
			}
			if len(got.Logs[g.Leader]) != len(g.Logs[g.Leader])+1 {
				t.Errorf("WriteGroup(%s, %d) = %s", groupText(g), id, groupText(got))
			}
		}
	})
	if written[true] < 1000 || written[false] < 50 || surer < 100 {
		t.Errorf("%d are written, %d are not, and %d make more sure", written[true], written[false], surer)
	}
}

// TestP76Examples writes ids to groups written out, as long as there may be
// more entries.
func TestP76Examples(t *testing.T) {
	tests := []struct {
		g    impl.Group
		id   int
		want string
	}{
		{groupOf(0, 1, ""), 7, "[0 1 1.7]"},
		{groupOf(0, 1, "1.7"), 7, "[0 1 1.7 1.7]"},
		{groupOf(0, 9, "1.7"), 0, "[0 9 1.7 9.0]"},
		{groupOf(1, 3, "1.7/1.7 2.8/"), 99, "[1 3 1.7/1.7 2.8 3.99/]"},
		{groupOf(2, 3, "1.7/1.7 2.8/"), 99, "[2 3 1.7/1.7 2.8/3.99]"},
		{groupOf(0, 2, "/2.7"), 7, "[0 2 2.7/2.7]"},
		{groupOf(4, 2, "1.1/1.1/1.1/1.1/"), 2, "[4 2 1.1/1.1/1.1/1.1/2.2]"},
	}
	for _, test := range tests {
		if got, ok := impl.WriteGroup(test.g, test.id); !ok || groupText(got) != test.want {
			t.Errorf("WriteGroup(%s, %d) = %s, %v, want %s", groupText(test.g), test.id, groupText(got), ok, test.want)
		}
	}
	for peers := 1; peers <= 5; peers++ {
		g := newGroup(peers)
		for size := range 15 {
			got, ok := impl.WriteGroup(g, 7)
			if ok != (size < 12) || !ok && !noGroup(got) {
				t.Errorf("WriteGroup of %d peers with %d entries = %s, %v", peers, size, groupText(got), ok)
			}
			if ok {
				g = got
			}
		}
		if len(g.Logs[0]) != 12 {
			t.Errorf("there are %d entries", len(g.Logs[0]))
		}
	}
	full := groupOf(1, 1, "/1.1/"+strings.Repeat("1.7 ", 12))
	if got, ok := impl.WriteGroup(full, 5); !ok || len(got.Logs[1]) != 2 {
		t.Errorf("WriteGroup(%s, 5) = %s, %v", groupText(full), groupText(got), ok)
	}
}

// TestP77ShippingMakesNothingUnsure ships entries of groups, as many as there
// are, more, and fewer, to each peer, and to numbers that are none.
func TestP77ShippingMakesNothingUnsure(t *testing.T) {
	shipped := map[bool]int{}
	surer, lost := 0, 0
	check := func(g impl.Group, to, upto int) {
		got, ok := impl.ShipTo(g, to, upto)
		want, fine := shipModel(g, to, upto)
		if ok != fine || !sameGroup(got, want) {
			t.Fatalf("ShipTo(%s, %d, %d) = %s, %v, want %s, %v", groupText(g), to, upto, groupText(got), ok, groupText(want), fine)
		}
		shipped[ok]++
		if !ok {
			return
		}
		if was, is := impl.SureOf(g), impl.SureOf(got); was < 0 || is < was || !impl.ValidGroup(got) {
			t.Errorf("ShipTo(%s, %d, %d) = %s is sure of %d, after %d", groupText(g), to, upto, groupText(got), is, was)
		} else if is > was {
			surer++
		}
		if log := g.Logs[g.Leader]; len(got.Logs[to]) != upto || !hasFirst(got.Logs[to], log, upto) {
			t.Errorf("ShipTo(%s, %d, %d) = %s", groupText(g), to, upto, groupText(got))
		}
		if len(g.Logs[to]) > upto {
			lost++
		}
	}
	manyGroups(func(g impl.Group) {
		entries := len(g.Logs[g.Leader])
		for to := -1; to <= len(g.Logs); to++ {
			for upto := -1; upto < entries+2; upto++ {
				check(g, to, upto)
			}
		}
	})
	for _, g := range walkedGroups(200) {
		for _, n := range notPeers {
			check(g, n, 0)
			check(g, n, len(g.Logs[g.Leader]))
			check(g, 0, n)
			check(g, len(g.Logs)-1, n)
			check(g, n, n)
		}
	}
	if shipped[true] < 1000 || shipped[false] < 1000 || surer < 1000 || lost < 1000 {
		t.Errorf("%d are shipped, %d are not, %d make more sure, and of %d some entries are lost", shipped[true], shipped[false], surer, lost)
	}
}

// TestP77Examples ships entries of groups written out; where there is "" they
// may not be shipped.
func TestP77Examples(t *testing.T) {
	tests := []struct {
		g        impl.Group
		to, upto int
		want     string
	}{
		{groupOf(0, 1, ""), 0, 0, ""},
		{groupOf(0, 1, "1.7"), 0, 1, ""},
		{groupOf(0, 1, "1.7"), 1, 1, ""},
		{groupOf(0, 1, "/"), 1, 0, "[0 1 /]"},
		{groupOf(0, 1, "/"), 1, 1, ""},
		{groupOf(0, 1, "1.7/"), 1, 0, "[0 1 1.7/]"},
		{groupOf(0, 1, "1.7/"), 1, 1, "[0 1 1.7/1.7]"},
		{groupOf(0, 1, "1.7/"), 1, 2, ""},
		{groupOf(0, 1, "1.7/"), 1, -1, ""},
		{groupOf(0, 1, "1.7/1.7"), 1, 0, ""},
		{groupOf(0, 1, "1.7/1.7"), 1, 1, "[0 1 1.7/1.7]"},
		{groupOf(0, 1, "1.7/1.8"), 1, 0, "[0 1 1.7/]"},
		{groupOf(0, 1, "1.7/1.8"), 1, 1, "[0 1 1.7/1.7]"},
		{groupOf(0, 2, "2.7/1.7"), 1, 0, "[0 2 2.7/]"},
		{groupOf(1, 2, "1.7/"), 0, 0, "[1 2 /]"},
		{groupOf(1, 2, "1.7 2.8/"), 0, 0, "[1 2 /]"},
		{groupOf(1, 2, "1.7/2.7"), 0, 1, "[1 2 2.7/2.7]"},
		{groupOf(0, 1, "1.7/1.7 1.8"), 1, 1, "[0 1 1.7/1.7]"},
		{groupOf(0, 1, "1.7/1.7 1.8"), 1, 0, ""},
		{groupOf(0, 1, "1.7 1.8 1.9/1.7/1.7 1.8"), 2, 1, ""},
		{groupOf(0, 1, "1.7 1.8 1.9/1.7/1.7 1.8"), 2, 2, "[0 1 1.7 1.8 1.9/1.7/1.7 1.8]"},
		{groupOf(0, 1, "1.7 1.8 1.9/1.7/1.7 1.8"), 1, 2, "[0 1 1.7 1.8 1.9/1.7 1.8/1.7 1.8]"},
		{groupOf(0, 2, "1.7 2.8 2.9/1.7 1.8 2.9/"), 1, 0, ""},
		{groupOf(0, 2, "1.7 2.8 2.9/1.7 1.8 2.9/"), 1, 1, "[0 2 1.7 2.8 2.9/1.7/]"},
		{groupOf(0, 2, "1.7 2.8 2.9/1.7 1.8 2.9/"), 1, 3, "[0 2 1.7 2.8 2.9/1.7 2.8 2.9/]"},
		{groupOf(2, 3, "1.1/1.1 2.2/1.1 3.3/1.1 2.2 2.2 2.2/"), 3, 2, "[2 3 1.1/1.1 2.2/1.1 3.3/1.1 3.3/]"},
		{groupOf(2, 3, "1.1/1.1 2.2/1.1 3.3/1.1 2.2 2.2 2.2/"), 4, 2, "[2 3 1.1/1.1 2.2/1.1 3.3/1.1 2.2 2.2 2.2/1.1 3.3]"},
		{groupOf(2, 3, "1.1/1.1 2.2/1.1 3.3/1.1 2.2 2.2 2.2/"), 2, 2, ""},
		{groupOf(2, 3, "1.1/1.1 2.2/1.1 3.3/1.1 2.2 2.2 2.2/"), 5, 2, ""},
	}
	for _, test := range tests {
		got, ok := impl.ShipTo(test.g, test.to, test.upto)
		if ok != (test.want != "") || ok && groupText(got) != test.want || !ok && !noGroup(got) {
			t.Errorf("ShipTo(%s, %d, %d) = %s, %v, want %s", groupText(test.g), test.to, test.upto, groupText(got), ok, test.want)
		}
	}
}

// TestP78WhatIsSureIsWithMoreThanHalf counts the peers that have what is sure.
func TestP78WhatIsSureIsWithMoreThanHalf(t *testing.T) {
	counts := map[int]int{}
	old := 0
	manyGroups(func(g impl.Group) {
		sure, log := impl.SureOf(g), g.Logs[g.Leader]
		if want := sureModel(g); sure != want {
			t.Fatalf("SureOf(%s) = %d, want %d", groupText(g), sure, want)
		}
		counts[sure]++
		if sure == 0 {
			if len(log) > 0 && log[len(log)-1].Term < g.Term && mostHave(g, len(log)) {
				old++
			}
			return
		}
		having := 0
		for _, other := range g.Logs {
			if hasFirst(other, log, sure) {
				having++
			}
		}
		if 2*having <= len(g.Logs) || log[sure-1].Term != g.Term {
			t.Errorf("SureOf(%s) = %d, but %d have them", groupText(g), sure, having)
		}
	})
	for sure := range 13 {
		if counts[sure] < 10 || old < 1000 {
			t.Errorf("%d groups are sure of %d, and %d only have entries of old terms with most", counts[sure], sure, old)
		}
	}
}

// TestP78Examples checks how many entries of groups written out are sure.
func TestP78Examples(t *testing.T) {
	long := strings.Repeat("1.7 ", 12)
	tests := []struct {
		g    impl.Group
		want int
	}{
		{groupOf(0, 1, ""), 0}, {groupOf(0, 9, ""), 0},
		{groupOf(0, 1, "1.7"), 1}, {groupOf(0, 2, "1.7"), 0}, {groupOf(0, 2, "1.7 2.8"), 2}, {groupOf(0, 3, "1.7 2.8"), 0},
		{groupOf(0, 1, long), 12}, {groupOf(0, 2, long), 0}, {groupOf(0, 9, "1.1 9.9"), 2},
		{groupOf(0, 1, "1.7/"), 0}, {groupOf(1, 1, "1.7/"), 0}, {groupOf(0, 1, "1.7/1.7"), 1}, {groupOf(0, 1, "1.7 1.8/1.7"), 1}, {groupOf(1, 1, "1.7 1.8/1.7"), 1},
		{groupOf(0, 1, "1.7/1.8"), 0}, {groupOf(0, 2, "2.7/1.7"), 0}, {groupOf(0, 2, "1.7/1.7"), 0}, {groupOf(0, 2, "1.7 2.8/1.7"), 0}, {groupOf(0, 2, "1.7 2.8/1.7 2.8"), 2},
		{groupOf(0, 1, "1.7//"), 0}, {groupOf(0, 1, "1.7/1.7/"), 1}, {groupOf(2, 1, "1.7/1.7/"), 0}, {groupOf(1, 2, "2.7//2.7"), 0},
		{groupOf(0, 1, "1.7 1.8 1.9/1.7 1.8/1.7"), 2}, {groupOf(1, 1, "1.7 1.8 1.9/1.7 1.8/1.7"), 2}, {groupOf(2, 1, "1.7 1.8 1.9/1.7 1.8/1.7"), 1},
		{groupOf(0, 2, "1.7 2.8 2.9/1.7 2.8/1.7"), 2}, {groupOf(2, 2, "1.7 2.8 2.9/1.7 2.8/1.7"), 0}, {groupOf(0, 2, "1.7 1.8 2.9/1.7 1.8/1.7 1.8"), 0},
		{groupOf(0, 2, "2.7 2.8/2.9 2.8/2.9 2.8"), 0}, {groupOf(0, 2, "1.7 2.8/2.8/1.7 2.8"), 2},
		{groupOf(0, 1, "1.7/1.7//"), 0}, {groupOf(0, 1, "1.7/1.7/1.7/"), 1}, {groupOf(3, 1, "1.7/1.7/1.8/1.7 1.8"), 1},
		{groupOf(0, 1, "1.7/1.7///"), 0}, {groupOf(0, 1, "1.7/1.7/1.7//"), 1}, {groupOf(0, 3, "2.2 3.1 3.2/2.2 3.1 3.2/2.2 3.1/2.2/2.2"), 2},
		{groupOf(0, 3, "2.2 3.1 3.2/2.2 3.1 3.2/2.2/2.2/2.2"), 0},
		{groupOf(0, 4, "1.1 2.2/1.1 2.2/1.1 2.2/1.1/1.1 3.3"), 0}, {groupOf(0, 4, "1.1 2.2 4.4/1.1 2.2 4.4/1.1 2.2 4.4/1.1/1.1 3.3"), 3},
	}
	for _, test := range tests {
		if got := impl.SureOf(test.g); got != test.want {
			t.Errorf("SureOf(%s) = %d, want %d", groupText(test.g), got, test.want)
		}
	}
}

// TestP79WhoMayLeadIsBehindNoVoter tries all voters for each peer of groups, and
// numbers that are neither.
func TestP79WhoMayLeadIsBehindNoVoter(t *testing.T) {
	may := map[bool]int{}
	check := func(g impl.Group, x, voters int) bool {
		got := impl.MayLead(g, x, voters)
		if want := mayModel(g, x, voters); got != want {
			t.Fatalf("MayLead(%s, %d, %d) is not %v", groupText(g), x, voters, want)
		}
		return got
	}
	manyGroups(func(g impl.Group) {
		most := len(g.Logs)/2 + 1
		for x := -1; x <= len(g.Logs); x++ {
			for voters := -1; voters <= 1<<len(g.Logs); voters++ {
				leads := check(g, x, voters)
				may[leads]++
				for without := range len(g.Logs) {
					fewer, _ := votersOf(len(g.Logs), voters&^(1<<without))
					if leads && without != x && len(fewer) >= most && !impl.MayLead(g, x, voters&^(1<<without)) {
						t.Errorf("MayLead(%s, %d, %d) is true, but not without %d", groupText(g), x, voters, without)
					}
				}
			}
		}
	})
	for _, g := range append(drawnGroups(), walkedGroups(200)...) {
		for _, n := range numbersNear(g) {
			for _, other := range append(notPeers, 0, 1, 1<<len(g.Logs)-1, 1<<len(g.Logs), 1<<62) {
				check(g, n, other)
				check(g, other, n)
			}
		}
	}
	if may[true] < 1000 || may[false] < 1000 {
		t.Errorf("%d may lead, %d may not", may[true], may[false])
	}
}

// TestP79Examples checks who may lead groups written out: by each sum of voters,
// those that may.
func TestP79Examples(t *testing.T) {
	tests := []struct {
		g      impl.Group
		voters int
		want   []int
	}{
		{groupOf(0, 1, ""), 0, nil}, {groupOf(0, 1, ""), 1, []int{0}}, {groupOf(0, 9, "1.7"), 1, []int{0}}, {groupOf(0, 1, ""), 2, nil}, {groupOf(0, 1, ""), 3, nil},
		{groupOf(0, 1, "/"), 1, nil}, {groupOf(0, 1, "/"), 2, nil}, {groupOf(0, 1, "/"), 3, []int{0, 1}}, {groupOf(0, 1, "/"), 7, nil},
		{groupOf(0, 1, "1.7/"), 3, []int{0}}, {groupOf(0, 1, "/1.7"), 3, []int{1}}, {groupOf(0, 1, "1.7/1.8"), 3, []int{0, 1}},
		{groupOf(0, 2, "2.7/1.7 1.8 1.9"), 3, []int{0}}, {groupOf(0, 2, "1.7 2.8/2.8"), 3, []int{0}}, {groupOf(0, 2, "2.8 2.8/1.7 2.8"), 3, []int{0, 1}},
		{groupOf(0, 1, "//"), 1, nil}, {groupOf(0, 1, "//"), 3, []int{0, 1}}, {groupOf(0, 1, "//"), 5, []int{0, 2}}, {groupOf(0, 1, "//"), 6, []int{1, 2}}, {groupOf(0, 1, "//"), 7, []int{0, 1, 2}}, {groupOf(0, 1, "//"), 8, nil}, {groupOf(0, 1, "//"), 15, nil},
		{groupOf(0, 1, "1.7//"), 6, []int{1, 2}}, {groupOf(0, 1, "1.7//"), 7, []int{0}}, {groupOf(0, 1, "1.7//"), 3, []int{0}}, {groupOf(0, 1, "1.7/1.7/"), 6, []int{1}}, {groupOf(0, 1, "1.7/1.7/"), 7, []int{0, 1}},
		{groupOf(0, 3, "1.7 1.8 1.9/1.7 2.8/3.7"), 7, []int{2}}, {groupOf(0, 3, "1.7 1.8 1.9/1.7 2.8/3.7"), 3, []int{1}}, {groupOf(0, 3, "1.7 1.8 1.9/1.7 2.8/3.7"), 5, []int{2}},
		{groupOf(0, 1, "///"), 3, nil}, {groupOf(0, 1, "///"), 12, nil}, {groupOf(0, 1, "///"), 14, []int{1, 2, 3}}, {groupOf(0, 1, "///1.7"), 7, []int{0, 1, 2}}, {groupOf(0, 1, "///1.7"), 15, []int{3}},
		{groupOf(0, 4, "1.1 2.2/1.1 2.2/1.1 2.2/1.1/1.1 3.3"), 30, []int{4}}, {groupOf(0, 4, "1.1 2.2/1.1 2.2/1.1 2.2/1.1/1.1 3.3"), 15, []int{0, 1, 2}}, {groupOf(0, 4, "1.1 2.2/1.1 2.2/1.1 2.2/1.1/1.1 3.3"), 24, nil},
		{groupOf(0, 4, "1.1 2.2 4.4/1.1 2.2 4.4/1.1 2.2 4.4/1.1/1.1 3.3"), 28, []int{2}}, {groupOf(0, 4, "1.1 2.2 4.4/1.1 2.2 4.4/1.1 2.2 4.4/1.1/1.1 3.3"), 31, []int{0, 1, 2}}, {groupOf(0, 1, "////"), 32, nil}, {groupOf(0, 1, "////"), 63, nil},
	}
	for _, test := range tests {
		for x := range len(test.g.Logs) + 1 {
			if got := impl.MayLead(test.g, x, test.voters); got != slices.Contains(test.want, x) {
				t.Errorf("MayLead(%s, %d, %d) is %v", groupText(test.g), x, test.voters, got)
			}
		}
	}
}

// TestP80NewLeadersBeginANewTerm elects each peer of groups by all voters.
func TestP80NewLeadersBeginANewTerm(t *testing.T) {
	elected := map[bool]int{}
	unsure, last := 0, 0
	check := func(g impl.Group, x, voters int) {
		got, ok := impl.ElectLeader(g, x, voters)
		want, fine := electModel(g, x, voters)
		if ok != fine || !sameGroup(got, want) {
			t.Fatalf("ElectLeader(%s, %d, %d) = %s, %v, want %s, %v", groupText(g), x, voters, groupText(got), ok, groupText(want), fine)
		}
		elected[ok]++
		if !ok {
			if impl.MayLead(g, x, voters) {
				last++
			}
			return
		}
		if !slices.EqualFunc(got.Logs, g.Logs, slices.Equal[[]impl.Entry]) || got.Leader != x || got.Term != g.Term+1 || !impl.ValidGroup(got) || impl.SureOf(got) != 0 {
			t.Errorf("ElectLeader(%s, %d, %d) = %s is sure of %d", groupText(g), x, voters, groupText(got), impl.SureOf(got))
		}
		if impl.SureOf(g) > 0 {
			unsure++
		}
	}
	manyGroups(func(g impl.Group) {
		for x := range len(g.Logs) {
			for voters := range 1 << len(g.Logs) {
				check(g, x, voters)
			}
		}
	})
	for _, g := range append(drawnGroups(), walkedGroups(200)...) {
		for _, n := range numbersNear(g) {
			check(g, n, 1<<len(g.Logs)-1)
			check(g, 0, n)
			check(g, len(g.Logs)-1, n)
			check(g, n, n)
		}
	}
	if elected[true] < 1000 || elected[false] < 1000 || unsure < 1000 || last < 100 {
		t.Errorf("%d are elected, %d are not, %d while there was what is sure, and %d might lead, but in no term", elected[true], elected[false], unsure, last)
	}
}

// TestP80Examples elects leaders of groups written out, the leader itself among
// them; where there is "" nobody is elected.
func TestP80Examples(t *testing.T) {
	tests := []struct {
		g         impl.Group
		x, voters int
		want      string
	}{
		{groupOf(0, 1, ""), 0, 1, "[0 2 ]"},
		{groupOf(0, 8, "1.7"), 0, 1, "[0 9 1.7]"},
		{groupOf(0, 9, "1.7"), 0, 1, ""},
		{groupOf(0, 1, "1.7"), 1, 2, ""},
		{groupOf(0, 1, "1.7"), 0, 0, ""},
		{groupOf(0, 1, "/"), 1, 3, "[1 2 /]"},
		{groupOf(0, 1, "/"), 1, 2, ""},
		{groupOf(0, 1, "1.7//"), 0, 7, "[0 2 1.7//]"},
		{groupOf(0, 1, "1.7//"), 1, 6, "[1 2 1.7//]"},
		{groupOf(0, 1, "1.7//"), 1, 7, ""},
		{groupOf(0, 1, "1.7//"), 1, 3, ""},
		{groupOf(2, 8, "1.7/3.8/8.9"), 1, 3, "[1 9 1.7/3.8/8.9]"},
		{groupOf(2, 8, "1.7/3.8/8.9"), 1, 6, ""},
		{groupOf(2, 9, "1.7/3.8/8.9"), 1, 3, ""},
		{groupOf(0, 4, "1.1 2.2/1.1 2.2/1.1 2.2/1.1/1.1 3.3"), 4, 30, "[4 5 1.1 2.2/1.1 2.2/1.1 2.2/1.1/1.1 3.3]"},
		{groupOf(0, 4, "1.1 2.2 4.4/1.1 2.2 4.4/1.1 2.2 4.4/1.1/1.1 3.3"), 4, 30, ""},
	}
	for _, test := range tests {
		got, ok := impl.ElectLeader(test.g, test.x, test.voters)
		if ok != (test.want != "") || ok && groupText(got) != test.want || !ok && !noGroup(got) {
			t.Errorf("ElectLeader(%s, %d, %d) = %s, %v, want %s", groupText(test.g), test.x, test.voters, groupText(got), ok, test.want)
		}
	}
}

// checkMoves compares RunGroup with the document, and returns what it is, and
// the entries that are told.
func checkMoves(t *testing.T, n int, moves []impl.Move) (impl.Group, []impl.Entry) {
	t.Helper()
	got, told := impl.RunGroup(n, moves)
	want, sure := runGroupModel(n, moves)
	if !sameGroup(got, want) || !slices.Equal(told, idsOf(sure)) {
		t.Fatalf("RunGroup(%d, %s) = %s, %v, want %s, %s", n, movesText(moves), groupText(got), told, groupText(want), entriesText(sure))
	}
	if !impl.ValidGroup(got) {
		t.Errorf("RunGroup(%d, %s) = %s is not valid", n, movesText(moves), groupText(got))
	}
	return got, sure
}

// TestP81NothingThatWasSureIsLost runs groups, and looks behind any first moves
// for what was sure.
func TestP81NothingThatWasSureIsLost(t *testing.T) {
	counts := map[int]int{}
	terms := map[int]int{}
	lost, old := 0, 0
	manyMoves(func(n int, moves []impl.Move) {
		_, end := checkMoves(t, n, moves)
		entries, first := 0, 0
		if len(moves) <= 5 {
			first = max(0, len(moves)-1) // still fewer of few moves are tried, too
		}
		for k := first; k <= len(moves); k++ {
			g, told := checkMoves(t, n, moves[:k])
			if len(told) > len(end) || !slices.Equal(told, end[:len(told)]) {
				t.Errorf("RunGroup(%d, %s): %s is no beginning of %s", n, movesText(moves), entriesText(told), entriesText(end))
			}
			if !hasFirst(g.Logs[g.Leader], told, len(told)) {
				t.Errorf("RunGroup(%d, %s) = %s has lost some of %s", n, movesText(moves[:k]), groupText(g), entriesText(told))
			}
			if size := len(slices.Concat(g.Logs...)); size < entries {
				lost++
			}
			entries = len(slices.Concat(g.Logs...))
			terms[g.Term]++
			if len(told) > 0 && told[len(told)-1].Term > told[0].Term {
				old++
			}
		}
		counts[len(end)]++
	})
	for sure := range 13 {
		if counts[sure] < 5 {
			t.Errorf("only %d groups tell %d", counts[sure], sure)
		}
	}
	for term := 1; term < 10; term++ {
		if terms[term] < 50 || lost < 500 || old < 500 {
			t.Errorf("%d are of the term %d, %d times some entries are lost, and %d times those of terms apart are told", terms[term], term, lost, old)
		}
	}
}

// oldWithMost leads to entries of an old term that most have, and that are not sure.
const oldWithMost = "w1 s1:1 s2:1 s3:1 s4:1 e0:31 w2 s1:2 e4:28 w3 e0:7 s2:2 "

// TestP81Examples runs groups by moves written out.
func TestP81Examples(t *testing.T) {
	tests := []struct {
		n     int
		moves string
		want  string
		told  []int
	}{
		{1, "", "[0 1 ]", nil}, {2, "", "[0 1 /]", nil}, {5, "", "[0 1 ////]", nil},
		{1, "w7", "[0 1 1.7]", []int{7}},
		{1, "w7 w8 w7", "[0 1 1.7 1.8 1.7]", []int{7, 8, 7}},
		{1, "w0 w99 w100 w-1", "[0 1 1.0 1.99]", []int{0, 99}},
		{1, "w7 e0:1 w8", "[0 2 1.7 2.8]", []int{7, 8}},
		{1, "w7 e0:1", "[0 2 1.7]", []int{7}},
		{1, "s0:0 w7 s0:0 s0:1 s1:1 e0:0 e1:2 e0:3", "[0 1 1.7]", []int{7}},
		{1, "w7:5 w8:-1", "[0 1 1.7 1.8]", []int{7, 8}},
		{1, "3:7:7 -1:7:7 w7 4:0:1 256:0:1 9:9:9", "[0 1 1.7]", []int{7}},
		{2, "w7", "[0 1 1.7/]", nil},
		{2, "w7 s1:1", "[0 1 1.7/1.7]", []int{7}},
		{2, "w7 s1:2", "[0 1 1.7/]", nil},
		{2, "w7 w8 s1:1", "[0 1 1.7 1.8/1.7]", []int{7}},
		{2, "w7 e1:3", "[0 1 1.7/]", nil},
		{2, "w7 e0:3 s1:1", "[0 2 1.7/1.7]", nil},
		{2, "w7 e0:3 s1:1 w8 s1:2", "[0 2 1.7 2.8/1.7 2.8]", []int{7, 8}},
		{3, "w7 w8 w9 s2:3", "[0 1 1.7 1.8 1.9//1.7 1.8 1.9]", []int{7, 8, 9}},
		{3, "w7 w8 s1:1 s1:2 s1:1 s2:1", "[0 1 1.7 1.8/1.7 1.8/1.7]", []int{7, 8}},
		{3, "w7 s1:1 w9 e2:6 e1:6 w8 s0:2", "[1 2 1.7 2.8/1.7 2.8/]", []int{7, 8}},
		{3, "w7 e1:6 w8 s0:1", "[1 2 2.8/2.8/]", []int{8}},
		{3, "w7 e1:6 s0:0", "[1 2 //]", nil},
		{3, "w7 e1:6 e0:5 s1:1 s2:1", "[0 3 1.7/1.7/1.7]", nil},
		{3, "w7 s1:1 e1:6 s2:1", "[1 2 1.7/1.7/1.7]", []int{7}},
		{3, "w7 s1:1 s2:1 e1:7 w8 s0:2 e2:4 e0:5 w9 s2:3", "[0 3 1.7 2.8 3.9/1.7 2.8/1.7 2.8 3.9]", []int{7, 8, 9}},
		{3, "w7 w8 s1:1 e1:6 w9 s2:2 s0:1", "[1 2 1.7/1.7 2.9/1.7 2.9]", []int{7, 9}},
		{3, "w7 w7 e1:6 w7 w7 s0:2", "[1 2 2.7 2.7/2.7 2.7/]", []int{7, 7}},
		{4, "w7 s1:1", "[0 1 1.7/1.7//]", nil},
		{4, "w7 s1:1 s2:1", "[0 1 1.7/1.7/1.7/]", []int{7}},
		{4, "w7 s3:1 e3:12 e3:14 w8 s2:2 s1:2", "[3 2 1.7/1.7 2.8/1.7 2.8/1.7 2.8]", []int{7, 8}},
		{5, "w7 s1:1", "[0 1 1.7/1.7///]", nil},
		{5, "w7 s1:1 s4:1", "[0 1 1.7/1.7///1.7]", []int{7}},
		{5, oldWithMost, "[0 4 1.1 2.2/1.1 2.2/1.1 2.2/1.1/1.1 3.3]", []int{1}},
		{5, oldWithMost + "e4:30 s0:2 s1:2 s2:2 s3:2", "[4 5 1.1 3.3/1.1 3.3/1.1 3.3/1.1 3.3/1.1 3.3]", []int{1}},
		{5, oldWithMost + "e4:30 s0:2 s1:2 w5 s1:3 s2:3", "[4 5 1.1 3.3/1.1 3.3 5.5/1.1 3.3 5.5/1.1/1.1 3.3 5.5]", []int{1, 3, 5}},
		{5, oldWithMost + "w4 s1:3 s2:3 e4:30 e4:28 e4:24", "[0 4 1.1 2.2 4.4/1.1 2.2 4.4/1.1 2.2 4.4/1.1/1.1 3.3]", []int{1, 2, 4}},
	}
	for _, test := range tests {
		got, told := impl.RunGroup(test.n, movesOf(test.moves))
		if groupText(got) != test.want || !slices.Equal(told, test.told) {
			t.Errorf("RunGroup(%d, %s) = %s, %v, want %s, %v", test.n, test.moves, groupText(got), told, test.want, test.told)
		}
	}
}

// TestP81MostMoves runs groups up to as many entries, terms and moves as there
// may be, and by numbers of peers and moves that are none.
func TestP81MostMoves(t *testing.T) {
	got, told := impl.RunGroup(1, movesOf(strings.Repeat("w7 w8 ", 8)))
	if len(got.Logs[0]) != 12 || !slices.Equal(told, []int{7, 8, 7, 8, 7, 8, 7, 8, 7, 8, 7, 8}) {
		t.Errorf("RunGroup of 16 ids = %s, %v", groupText(got), told)
	}
	got, told = impl.RunGroup(1, movesOf("w1"+strings.Repeat(" e0:1", 10)+" w9"))
	if groupText(got) != "[0 9 1.1 9.9]" || !slices.Equal(told, []int{1, 9}) {
		t.Errorf("RunGroup of 10 leaders = %s, %v", groupText(got), told)
	}
	for _, n := range append([]int{0, 1, 2, 3, 4, 5, 256 + 1}, notPeers...) {
		for _, size := range []int{0, 1, 29, 30, 31, 32, 60, 256 + 1, 100000} {
			moves := slices.Repeat(movesOf("w7"), size)
			got, told := impl.RunGroup(n, moves)
			if n < 1 || n > 5 || size > 30 {
				if !noGroup(got) || len(told) != 0 {
					t.Errorf("RunGroup(%d) of %d moves = %.300s, %v", n, size, groupText(got), told)
				}
				continue
			}
			checkMoves(t, n, moves)
		}
	}
	for i, n := range notPeers {
		for kind := -1; kind < 4; kind++ {
			other := notPeers[(i+kind+1)%len(notPeers)]
			checkMoves(t, 3, append(movesOf("w7 s1:1"), impl.Move{Kind: kind, A: n, B: 1}, impl.Move{Kind: kind, A: 1, B: n}, impl.Move{Kind: kind, A: n, B: other}, impl.Move{Kind: n, A: 1, B: 6}, impl.Move{Kind: kind, A: 1, B: 6}))
		}
	}
}

// TestGroupsRunAtOnce runs many groups at once, each one as it runs alone, and
// looks for goroutines that are left.
func TestGroupsRunAtOnce(t *testing.T) {
	before := runtime.NumGoroutine()
	next := rolls(257)
	var all sync.WaitGroup
	for i := range 200 {
		n := 1 + i%5
		moves := someMoves(next, n, 30, 5)
		want, sure := runGroupModel(n, moves)
		all.Go(func() {
			for range 20 {
				if got, told := impl.RunGroup(n, moves); !sameGroup(got, want) || !slices.Equal(told, idsOf(sure)) {
					t.Errorf("RunGroup(%d, %s) = %s, %v, want %s", n, movesText(moves), groupText(got), told, groupText(want))
				}
				impl.RunGroup(0, moves)
				impl.RunGroup(n, slices.Repeat(moves, 2))
			}
		})
	}
	all.Wait()
	for tries := 0; runtime.NumGoroutine() > before; tries++ {
		if tries == 1000000 {
			t.Fatalf("%d goroutines are left", runtime.NumGoroutine()-before)
		}
		runtime.Gosched()
	}
}

// roomyGroup returns a group with room behind all its logs.
func roomyGroup(g impl.Group) impl.Group {
	other := impl.Group{Logs: make([][]impl.Entry, 0, 9), Leader: g.Leader, Term: g.Term}
	for _, log := range g.Logs {
		other.Logs = append(other.Logs, roomy(log))
	}
	return other
}

// groupsApart reports whether no two logs of some groups share memory, nor two
// of their lists of logs, their spare capacity included. It writes over all.
func groupsApart(groups ...impl.Group) bool {
	var logs [][]impl.Entry
	var lists [][][]impl.Entry
	for _, g := range groups {
		logs = append(logs, g.Logs...)
		lists = append(lists, g.Logs)
	}
	apart := listsApart(func(i int) impl.Entry { return impl.Entry{Term: math.MinInt + i} }, logs...)
	return outerApart(lists...) && apart
}

// TestGroupsAreFresh checks that results share no memory with arguments, nor
// with each other, nor within, and that arguments stay, with what is behind them.
func TestGroupsAreFresh(t *testing.T) {
	next := rolls(263)
	for i, given := range append(drawnGroups(), walkedGroups(2000)...) {
		g, wide := roomyGroup(given), 1<<len(given.Logs)-1
		kept := roomyGroup(given)
		groups := []impl.Group{g, impl.NewGroup(1 + i%5), impl.NewGroup(1 + i%5)}
		for range 2 {
			written, _ := impl.WriteGroup(g, 7)
			elected, _ := impl.ElectLeader(g, next(len(g.Logs)), wide)
			again, _ := impl.ElectLeader(g, g.Leader, wide)
			groups = append(groups, written, elected, again)
			for to := range len(g.Logs) {
				shipped, _ := impl.ShipTo(g, to, len(g.Logs[g.Leader]))
				fewer, _ := impl.ShipTo(g, to, len(g.Logs[g.Leader])/2)
				groups = append(groups, shipped, fewer)
			}
			impl.SureOf(g)
			impl.MayLead(g, 0, wide)
			impl.ValidGroup(g)
		}
		if !sameGroup(g, kept) || len(slices.Concat(g.Logs[len(g.Logs):cap(g.Logs)]...)) > 0 {
			t.Fatalf("%s is now %s", groupText(kept), groupText(g))
		}
		for at, log := range g.Logs {
			if !slices.Equal(log[:cap(log)], kept.Logs[at][:cap(log)]) {
				t.Fatalf("%s is now %s, or there is something behind it", groupText(kept), groupText(g))
			}
		}
		if !groupsApart(groups...) {
			t.Errorf("%s: results share memory", groupText(kept))
		}
	}
}

// TestGroupRunsAreFresh checks the same of RunGroup and its moves.
func TestGroupRunsAreFresh(t *testing.T) {
	next := rolls(269)
	for i := range 500 {
		n := 1 + i%5
		moves := roomy(someMoves(next, n, next(31), 4))
		was := slices.Clone(moves[:cap(moves)])
		one, told := impl.RunGroup(n, moves)
		other, same := impl.RunGroup(n, moves)
		if !slices.Equal(moves[:cap(moves)], was) {
			t.Fatalf("the moves are now %s, and were %s", movesText(moves), movesText(was))
		}
		apart := listsApart(func(i int) int { return math.MinInt + i }, told, same)
		if !groupsApart(one, other) || !apart {
			t.Errorf("RunGroup(%d, %s): results share memory", n, movesText(was))
		}
	}
}
