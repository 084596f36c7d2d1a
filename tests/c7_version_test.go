package tests

import (
	"math"
	"slices"
	"strconv"
	"testing"

	"loop.example/storeofkeys/impl"
)

// checkValid compares ValidVersions with the document, and returns what that tells.
func checkValid(t *testing.T, list []impl.Version) bool {
	t.Helper()
	want := wholeVersions(list)
	if impl.ValidVersions(list) != want {
		t.Errorf("ValidVersions(%s) is not %v", versionsText(list), want)
	}
	return want
}

// TestP52VersionsCanBeCut cuts versions at each place, and changes each one of
// them, so that they are valid still, or not.
func TestP52VersionsCanBeCut(t *testing.T) {
	manyVersions(func(list []impl.Version) {
		for at := range len(list) + 1 {
			if !impl.ValidVersions(list[:at]) {
				t.Fatalf("%s: cut at %d they are not valid", versionsText(list), at)
			}
		}
	})
	valid := map[bool]int{}
	for _, list := range walkedVersions(120) {
		for at, v := range list {
			for _, near := range versionsNear(v) {
				other := slices.Clone(list)
				other[at] = near
				valid[checkValid(t, other)]++
				valid[checkValid(t, other[:at+1])]++
			}
		}
	}
	if valid[true] < 1000 || valid[false] < 1000 {
		t.Errorf("%d are valid, %d are not", valid[true], valid[false])
	}
}

// TestP52FewVersions puts each of few versions behind all few ones.
func TestP52FewVersions(t *testing.T) {
	choice := fewVersions()
	eachVersions(3, func(list []impl.Version) {
		for _, v := range choice {
			checkValid(t, slices.Concat(list, []impl.Version{v}))
		}
	})
}

// TestP52OrderOfVersions leaves out each version, has it twice, and lets it
// change places with the next one.
func TestP52OrderOfVersions(t *testing.T) {
	valid := map[bool]int{}
	for _, list := range walkedVersions(200) {
		for at, v := range list {
			without := slices.Delete(slices.Clone(list), at, at+1)
			if !checkValid(t, without) {
				t.Errorf("%s is not valid", versionsText(without))
			}
			checkValid(t, slices.Insert(slices.Clone(list), at, v))
			valid[checkValid(t, slices.Insert(slices.Clone(without), min(at+1, len(without)), v))]++
		}
	}
	if valid[true] < 100 || valid[false] < 100 {
		t.Errorf("%d are valid in another order, %d are not", valid[true], valid[false])
	}
}

// TestP52Examples checks versions written out.
func TestP52Examples(t *testing.T) {
	for _, text := range []string{
		"", "1a=", "1a-", "20a=", "20zzz=wxyz", "20zzz-", "1a= 1b=", "1b= 1a=", "1b- 1a= 1aa=x", "1a= 2a=", "1a= 2a= 3a=", "1a- 2a-", "1a=x 20a=x",
		"1a= 2b= 2a=", "3c= 3b= 3a= 4c= 4b= 4a=", "1a= 1b= 20b= 20a-", "5a=vwxy 6a-",
	} {
		if list := versionsOf(text); !impl.ValidVersions(list) || !wholeVersions(list) || versionsText(list) != text {
			t.Errorf("%q is not valid, or not read", text)
		}
	}
	if !impl.ValidVersions(nil) || !impl.ValidVersions([]impl.Version{}) {
		t.Error("no versions are not valid")
	}
	for _, list := range fullVersions() {
		if len(list) != 30 || !impl.ValidVersions(list) || impl.ValidVersions(slices.Concat(list, versionsOf("20zzz="))) {
			t.Errorf("%s is not valid, or is so with one more", versionsText(list))
		}
	}
}

// isNothing reports whether all functions but AddAt tell nothing.
func isNothing(list []impl.Version, key string, at int) bool {
	value, ok := impl.ReadAt(list, key, at)
	lengths := len(impl.SeenAt(list, at)) + len(impl.SweepTo(list, at)) + len(impl.OpsBetween(list, 0, at)) + len(impl.OpsBetween(list, at, 0)) + len(impl.OpsBetween(list, 20, at)) + len(impl.OpsBetween(list, at, at))
	return value == "" && !ok && lengths == 0
}

// checkNotAdded reports an error if changes can be added.
func checkNotAdded(t *testing.T, list []impl.Version, ops []impl.Op, at int) {
	t.Helper()
	if got, ok := impl.AddAt(list, ops, at); ok || len(got) != 0 {
		t.Errorf("AddAt(%.200s, %.200s, %d) = %s, %v", versionsText(list), opsText(ops), at, versionsText(got), ok)
	}
}

// TestWrongVersions checks every function on versions that are not valid.
func TestWrongVersions(t *testing.T) {
	for _, list := range wrongVersions() {
		if impl.ValidVersions(list) || wholeVersions(list) {
			t.Errorf("ValidVersions(%.200s) is %v", versionsText(list), impl.ValidVersions(list))
		}
		for _, at := range append([]int{0, 1, 3, 4, 19, 20}, notTimes...) {
			for _, key := range append([]string{"a", "b", "ab", "zzz"}, notKeys...) {
				if !isNothing(list, key, at) {
					t.Errorf("%.200s: something is told of %q at %d", versionsText(list), key, at)
				}
			}
			checkNotAdded(t, list, nil, at)
			checkNotAdded(t, list, opsOf("c=x"), at)
		}
		if got := impl.TimesOf(list); len(got) != 0 {
			t.Errorf("TimesOf(%.200s) = %v", versionsText(list), got)
		}
	}
}

// TestWrongTimes checks every function at times that are none.
func TestWrongTimes(t *testing.T) {
	lists := slices.Concat([][]impl.Version{nil, versionsOf("1a=x"), versionsOf("20a=x"), versionsOf("2a=x 4a- 5b=y")}, walkedVersions(60))
	for _, list := range lists {
		for _, at := range notTimes {
			for _, key := range append(keysIn(list), "a", "b") {
				if !isNothing(list, key, at) {
					t.Errorf("%s: something is told of %q at %d", versionsText(list), key, at)
				}
			}
			for b := range 21 {
				if len(impl.OpsBetween(list, at, b))+len(impl.OpsBetween(list, b, at)) != 0 {
					t.Errorf("OpsBetween(%s) %d and %d is %s, and back %s", versionsText(list), at, b, opsText(impl.OpsBetween(list, at, b)), opsText(impl.OpsBetween(list, b, at)))
				}
			}
		}
		for _, at := range append([]int{0}, notTimes...) {
			checkNotAdded(t, list, nil, at)
			checkNotAdded(t, list, opsOf("m=x"), at)
		}
	}
}

// checkReadAt reads keys at all times, those that are there, and others.
func checkReadAt(t *testing.T, list []impl.Version) {
	t.Helper()
	keys := keysIn(list)
	for _, key := range keysIn(list) {
		keys = append(keys, (key + "aa")[:3], key[:1])
	}
	for at := range 21 {
		seen := impl.SeenAt(list, at)
		if want := seenModel(list, at); !slices.Equal(seen, want) {
			t.Fatalf("SeenAt(%s, %d) = %s, want %s", versionsText(list), at, pairText(seen), pairText(want))
		}
		there := 0
		for i, key := range append(keys, "a", "m", "zzz") {
			value, ok := impl.ReadAt(list, key, at)
			if want, fine := readAtModel(list, key, at); ok != fine || ok && value != want || !ok && value != "" {
				t.Errorf("ReadAt(%s, %q, %d) = %q, %v, want %q, %v", versionsText(list), key, at, value, ok, want, fine)
			}
			if slices.Contains(seen, impl.Pair{Key: key, Value: value}) != ok {
				t.Errorf("ReadAt(%s, %q, %d) = %q, %v, but %s is seen", versionsText(list), key, at, value, ok, pairText(seen))
			}
			if ok && i < len(keysIn(list)) {
				there++
			}
		}
		if there != len(seen) {
			t.Errorf("SeenAt(%s, %d) = %s, but %d keys are there", versionsText(list), at, pairText(seen), there)
		}
	}
}

// TestP53WhatIsReadIsSeen reads all keys of versions, and others.
func TestP53WhatIsReadIsSeen(t *testing.T) {
	long := 0
	manyVersions(func(list []impl.Version) {
		checkReadAt(t, list)
		if len(impl.SeenAt(list, 20)) > 9 {
			long++
		}
	})
	if long < 30 {
		t.Errorf("only %d times many pairs are seen", long)
	}
}

// TestP53WrongKeys reads texts that are no keys.
func TestP53WrongKeys(t *testing.T) {
	for _, list := range slices.Concat([][]impl.Version{nil, versionsOf("1a=x 1ab=y 2abc=z")}, walkedVersions(60)) {
		for at := range 21 {
			for _, key := range notKeys {
				if value, ok := impl.ReadAt(list, key, at); ok || value != "" {
					t.Errorf("ReadAt(%s, %q, %d) = %q, %v", versionsText(list), key, at, value, ok)
				}
			}
		}
	}
}

// TestP53Examples reads versions written out at each time from 0 on: a point is
// a value that is not there.
func TestP53Examples(t *testing.T) {
	tests := []struct {
		list, key string
		want      [21]string
	}{
		{"", "a", [21]string{".", ".", ".", ".", ".", ".", ".", ".", ".", ".", ".", ".", ".", ".", ".", ".", ".", ".", ".", ".", "."}},
		{"1a=x", "a", [21]string{".", "x", "x", "x", "x", "x", "x", "x", "x", "x", "x", "x", "x", "x", "x", "x", "x", "x", "x", "x", "x"}},
		{"1a=x", "b", [21]string{".", ".", ".", ".", ".", ".", ".", ".", ".", ".", ".", ".", ".", ".", ".", ".", ".", ".", ".", ".", "."}},
		{"20a=x", "a", [21]string{".", ".", ".", ".", ".", ".", ".", ".", ".", ".", ".", ".", ".", ".", ".", ".", ".", ".", ".", ".", "x"}},
		{"3a= 19a-", "a", [21]string{".", ".", ".", "", "", "", "", "", "", "", "", "", "", "", "", "", "", "", "", ".", "."}},
		{"2a=x 2aa=y 5a- 7a=z 9aa-", "a", [21]string{".", ".", "x", "x", "x", ".", ".", "z", "z", "z", "z", "z", "z", "z", "z", "z", "z", "z", "z", "z", "z"}},
		{"2a=x 2aa=y 5a- 7a=z 9aa-", "aa", [21]string{".", ".", "y", "y", "y", "y", "y", "y", "y", ".", ".", ".", ".", ".", ".", ".", ".", ".", ".", ".", "."}},
		{"1a- 2a- 4a=x 5a=x 6a-", "a", [21]string{".", ".", ".", ".", "x", "x", ".", ".", ".", ".", ".", ".", ".", ".", ".", ".", ".", ".", ".", ".", "."}},
	}
	for _, test := range tests {
		for at, want := range test.want {
			got, ok := impl.ReadAt(versionsOf(test.list), test.key, at)
			if ok != (want != ".") || ok && got != want {
				t.Errorf("ReadAt(%s, %q, %d) = %q, %v, want %q", test.list, test.key, at, got, ok, want)
			}
		}
	}
}

// TestP53SeenExamples checks what is seen of versions written out, also of more
// pairs than a store has.
func TestP53SeenExamples(t *testing.T) {
	tests := []struct {
		list string
		at   int
		want string
	}{
		{"", 0, ""},
		{"", 20, ""},
		{"1a=x", 0, ""},
		{"1a=x", 1, "a=x"},
		{"1a-", 1, ""},
		{"4c=x 4b=y 4a=", 4, "a= b=y c=x"},
		{"4c=x 4b=y 4a=", 3, ""},
		{"1b=x 2a=y 3c=z", 2, "a=y b=x"},
		{"1b=x 2ba=y 3a=z 3aa=", 20, "a=z aa= b=x ba=y"},
		{"1b=x 2a=y 3b- 4c=z", 3, "a=y"},
		{"1b=x 2a=y 3b- 4b=", 4, "a=y b="},
		{"1a=x 2a=y 3a=z", 2, "a=y"},
	}
	for _, test := range tests {
		if got := impl.SeenAt(versionsOf(test.list), test.at); !slices.Equal(got, pairList(test.want)) {
			t.Errorf("SeenAt(%s, %d) = %s, want %s", test.list, test.at, pairText(got), test.want)
		}
	}
	for i, want := range []int{30, 30, 24, 20, 1, 0, 0} {
		list := fullVersions()[i]
		if got := impl.SeenAt(list, 20); len(got) != want {
			t.Errorf("SeenAt(%s, 20) has %d pairs, want %d", versionsText(list), len(got), want)
		}
	}
}

// TestP54TimesBetweenTwoVersions looks at each time as at the last one of
// TimesOf up to it.
func TestP54TimesBetweenTwoVersions(t *testing.T) {
	between := 0
	manyVersions(func(list []impl.Version) {
		times := impl.TimesOf(list)
		if got := impl.SeenAt(list, 0); len(got) != 0 {
			t.Errorf("SeenAt(%s, 0) = %s", versionsText(list), pairText(got))
		}
		for at := range 21 {
			last := 0
			for _, time := range times {
				if time <= at {
					last = time
				}
			}
			if got, want := impl.SeenAt(list, at), impl.SeenAt(list, last); !slices.Equal(got, want) {
				t.Errorf("SeenAt(%s, %d) = %s, at %d it is %s", versionsText(list), at, pairText(got), last, pairText(want))
			}
			if last != at && len(impl.SeenAt(list, at)) > 0 {
				between++
			}
		}
	})
	if between < 1000 {
		t.Errorf("only %d times something is seen between two versions", between)
	}
}

// checkAdd adds changes at a time as the document tells, and reports whether
// they are added.
func checkAdd(t *testing.T, list []impl.Version, ops []impl.Op, at int) bool {
	t.Helper()
	got, ok := impl.AddAt(list, ops, at)
	if want, fine := addModel(list, ops, at); ok != fine || !slices.Equal(got, want) {
		t.Fatalf("AddAt(%s, %s, %d) = %s, %v, want %s, %v", versionsText(list), opsText(ops), at, versionsText(got), ok, versionsText(want), fine)
	}
	if !ok {
		return false
	}
	if !impl.ValidVersions(got) {
		t.Errorf("AddAt(%s, %s, %d) = %s is not valid", versionsText(list), opsText(ops), at, versionsText(got))
	}
	for time := range at {
		if now, before := impl.SeenAt(got, time), impl.SeenAt(list, time); !slices.Equal(now, before) {
			t.Errorf("SeenAt(%s, %d) = %s, but %s ahead of AddAt", versionsText(got), time, pairText(now), pairText(before))
		}
	}
	before := impl.SeenAt(list, at)
	want, fine := impl.ApplyOps(before, ops)
	if !fine {
		want = behindOps(before, ops)
	}
	for time := at; time <= 20; time++ {
		if now := impl.SeenAt(got, time); !slices.Equal(now, want) {
			t.Errorf("SeenAt(%s, %d) = %s, want %s", versionsText(got), time, pairText(now), pairText(want))
		}
	}
	return true
}

// TestP55AddedVersionsChangeNothingOlder adds changes at each time.
func TestP55AddedVersionsChangeNothingOlder(t *testing.T) {
	next := rolls(107)
	added := map[bool]int{}
	eachVersions(2, func(list []impl.Version) {
		for at := range 22 {
			for _, text := range []string{"", "a=", "a=x", "a-", "ab=x a-", "a=y ab=", "b=x"} {
				added[checkAdd(t, list, opsOf(text), at)]++
			}
		}
	})
	for _, list := range walkedVersions(400) {
		for _, ops := range someChanges(next, list[:len(list)/2]) {
			added[checkAdd(t, list[:len(list)/2], ops, next(22))]++
		}
		for _, ops := range someChanges(next, list) {
			added[checkAdd(t, list, ops, 20)]++
		}
	}
	if added[true] < 1000 || added[false] < 1000 {
		t.Errorf("%d are added, %d are not", added[true], added[false])
	}
}

// TestP55Examples adds changes written out. A ! is for what cannot be added.
func TestP55Examples(t *testing.T) {
	tests := []struct {
		list, ops string
		at        int
		want      string
	}{
		{"", "", 1, ""},
		{"", "", 20, ""},
		{"", "a=x", 1, "1a=x"},
		{"", "a=x", 20, "20a=x"},
		{"", "b=x a-", 7, "7b=x 7a-"},
		{"3a=x", "", 4, "3a=x"},
		{"3a=x", "a=x", 4, "3a=x 4a=x"},
		{"3a=x", "c- b= a=y", 20, "3a=x 20c- 20b= 20a=y"},
		{"3a=x 5b=", "a-", 6, "3a=x 5b= 6a-"},
		{"", "", 0, "!"},
		{"", "a=x", 0, "!"},
		{"", "", 21, "!"},
		{"", "a=x", 21, "!"},
		{"", "", -1, "!"},
		{"", "a=x a=x", 1, "!"},
		{"", "a=x a-", 1, "!"},
		{"", "b- a=x b=", 1, "!"},
		{"", "a-x", 1, "!"},
		{"", "abcd=", 1, "!"},
		{"3a=x", "", 3, "!"},
		{"3a=x", "b=x", 3, "!"},
		{"3a=x", "b=x", 2, "!"},
		{"3a=x 5b=", "c=", 4, "!"},
		{"3a=x 5b=", "", 5, "!"},
		{"20a=x", "b=x", 20, "!"},
		{"20a=x", "", 21, "!"},
	}
	for _, test := range tests {
		got, ok := impl.AddAt(versionsOf(test.list), opsOf(test.ops), test.at)
		if ok != (test.want != "!") || ok && !slices.Equal(got, versionsOf(test.want)) || !ok && len(got) != 0 {
			t.Errorf("AddAt(%s, %s, %d) = %s, %v, want %s", test.list, test.ops, test.at, versionsText(got), ok, test.want)
		}
	}
}

// TestP55MostVersions adds changes up to as many versions as there may be.
func TestP55MostVersions(t *testing.T) {
	all := longRun(0, 60, "x")
	for size := range 31 {
		list := versionsAt(all[:size], 5)
		for count := range 50 {
			if checkAdd(t, list, opsOfRun(all[10:10+count]), 6) != (size+count <= 30) {
				t.Errorf("%d changes are added to %d versions, or fewer are not", count, size)
			}
		}
	}
}

// TestP55WrongChanges adds changes that are not valid, or two of one key.
func TestP55WrongChanges(t *testing.T) {
	lists := [][]impl.Version{nil, versionsOf("1a=x"), versionsOf("1m=x 2m=y 5n-"), versionsAt(longRun(0, 28, "x"), 19)}
	for _, list := range lists {
		for _, ops := range wrongOps() {
			checkNotAdded(t, list, ops, 20)
		}
		for _, text := range []string{"a= a=", "a=x a=y", "a- a-", "a= a-", "a- a=", "b= a= b=", "a= b= c= a-", "zzz=x y= zzz=x"} {
			for at := range 22 {
				checkNotAdded(t, list, opsOf(text), at)
			}
		}
	}
}

// checkSweep sweeps versions as the document tells, and again.
func checkSweep(t *testing.T, list []impl.Version, from int) []impl.Version {
	t.Helper()
	got := impl.SweepTo(list, from)
	if want := sweepModel(list, from); !slices.Equal(got, want) {
		t.Fatalf("SweepTo(%s, %d) = %s, want %s", versionsText(list), from, versionsText(got), versionsText(want))
	}
	if !impl.ValidVersions(got) {
		t.Errorf("SweepTo(%s, %d) = %s is not valid", versionsText(list), from, versionsText(got))
	}
	if again := impl.SweepTo(got, from); !slices.Equal(again, got) {
		t.Errorf("SweepTo(%s, %d) = %s", versionsText(got), from, versionsText(again))
	}
	for at := from; at <= 20; at++ {
		if now, before := impl.SeenAt(got, at), impl.SeenAt(list, at); !slices.Equal(now, before) {
			t.Errorf("SeenAt(%s, %d) = %s, but %s ahead of SweepTo %d", versionsText(got), at, pairText(now), pairText(before), from)
		}
	}
	for i, v := range got {
		less := slices.Delete(slices.Clone(got), i, i+1)
		if v.At <= from && slices.Equal(impl.SeenAt(less, from), impl.SeenAt(got, from)) {
			t.Errorf("SweepTo(%s, %d) = %s leaves what no time sees", versionsText(list), from, versionsText(got))
		}
	}
	return got
}

// TestP56WhatIsSweptIsSeenByNoTime sweeps versions up to each time, and then up
// to later ones.
func TestP56WhatIsSweptIsSeenByNoTime(t *testing.T) {
	swept := 0
	manyVersions(func(list []impl.Version) {
		step := list
		for from := range 21 {
			got := checkSweep(t, list, from)
			if from == 0 && !slices.Equal(got, list) {
				t.Errorf("SweepTo(%s, 0) = %s", versionsText(list), versionsText(got))
			}
			if step = impl.SweepTo(step, from); !slices.Equal(step, got) {
				t.Errorf("SweepTo(%s, %d) = %s, and step by step %s", versionsText(list), from, versionsText(got), versionsText(step))
			}
			if len(got) < len(list) && len(got) > 0 {
				swept++
			}
		}
	})
	if swept < 1000 {
		t.Errorf("only %d times some are swept, and some are not", swept)
	}
}

// TestP56Examples sweeps versions written out.
func TestP56Examples(t *testing.T) {
	tests := []struct {
		list string
		from int
		want string
	}{
		{"", 0, ""},
		{"", 20, ""},
		{"1a=x", 0, "1a=x"},
		{"1a=x", 1, "1a=x"},
		{"1a=x", 20, "1a=x"},
		{"1a-", 0, "1a-"},
		{"1a-", 1, ""},
		{"5a-", 4, "5a-"},
		{"5a-", 5, ""},
		{"20a-", 19, "20a-"},
		{"20a-", 20, ""},
		{"1a=x 2a=y", 1, "1a=x 2a=y"},
		{"1a=x 2a=y", 2, "2a=y"},
		{"1a=x 2a=x", 2, "2a=x"},
		{"1a=x 2a- 4a=z", 1, "1a=x 2a- 4a=z"},
		{"1a=x 2a- 4a=z", 2, "4a=z"},
		{"1a=x 2a- 4a=z", 3, "4a=z"},
		{"1a=x 2a- 4a=z", 4, "4a=z"},
		{"1a=x 2a- 4a-", 3, "4a-"},
		{"1c=x 1a=y 2b=z 3c- 3a=", 2, "1c=x 1a=y 2b=z 3c- 3a="},
		{"1c=x 1a=y 2b=z 3c- 3a=", 3, "2b=z 3a="},
		{"1c=x 2b=y 2a= 3b=z 9a- 9c=", 5, "1c=x 2a= 3b=z 9a- 9c="},
		{"1c=x 2b=y 2a= 3b=z 9a- 9c=", 20, "3b=z 9c="},
	}
	for _, test := range tests {
		if got := impl.SweepTo(versionsOf(test.list), test.from); !slices.Equal(got, versionsOf(test.want)) {
			t.Errorf("SweepTo(%s, %d) = %s, want %s", test.list, test.from, versionsText(got), test.want)
		}
	}
}

// checkBetween makes what is seen at a time of that at another one, and reports
// whether it can be made.
func checkBetween(t *testing.T, list []impl.Version, a, b int) bool {
	t.Helper()
	got := impl.OpsBetween(list, a, b)
	if want := betweenModel(list, a, b); !slices.Equal(got, want) {
		t.Fatalf("OpsBetween(%s, %d, %d) = %s, want %s", versionsText(list), a, b, opsText(got), opsText(want))
	}
	from, to := impl.SeenAt(list, a), impl.SeenAt(list, b)
	if !slices.Equal(got, impl.OpsFor(from, to)) {
		t.Errorf("OpsBetween(%s, %d, %d) = %s, OpsFor is %s", versionsText(list), a, b, opsText(got), opsText(impl.OpsFor(from, to)))
	}
	if len(from) > 24 || len(to) > 24 {
		return false
	}
	if made, ok := impl.ApplyOps(from, got); !ok || !slices.Equal(made, to) {
		t.Errorf("OpsBetween(%s, %d, %d) = %s makes %s, %v, want %s", versionsText(list), a, b, opsText(got), pairText(made), ok, pairText(to))
	}
	return true
}

// TestP57ChangesLeadFromTimeToTime goes from each time to each other one, back,
// and to itself.
func TestP57ChangesLeadFromTimeToTime(t *testing.T) {
	tooMany := 0
	check := func(list []impl.Version, times []int) {
		for _, a := range times {
			for _, b := range times {
				if !checkBetween(t, list, a, b) {
					tooMany++
				}
			}
		}
	}
	eachVersions(3, func(list []impl.Version) { check(list, []int{0, 1, 2, 4, 5, 19, 20}) })
	for _, list := range walkedVersions(160) {
		check(list, []int{0, 1, 2, 3, 4, 5, 6, 7, 8, 9, 10, 11, 12, 13, 14, 15, 16, 17, 18, 19, 20})
	}
	if tooMany < 100 {
		t.Errorf("only %d times there are too many pairs", tooMany)
	}
}

// TestP57Examples checks the changes between two times of versions written out.
func TestP57Examples(t *testing.T) {
	tests := []struct {
		list string
		a, b int
		want string
	}{
		{"", 0, 20, ""},
		{"1a=x", 0, 1, "a=x"},
		{"1a=x", 1, 0, "a-"},
		{"1a=x", 1, 20, ""},
		{"1a=x", 0, 0, ""},
		{"1a-", 0, 1, ""},
		{"1a=x 2a=x", 1, 2, ""},
		{"1a=x 2a- 3a=x", 1, 3, ""},
		{"1a=x 2a- 3a=x", 1, 2, "a-"},
		{"1a=x 2a- 3a=x", 2, 3, "a=x"},
		{"1a=x 2a=y 3a=z", 1, 3, "a=z"},
		{"1a=x 2a=y 3a=z", 3, 1, "a=x"},
		{"2c=x 2a=y 5b=z 5a= 7c-", 2, 7, "a= b=z c-"},
		{"2c=x 2a=y 5b=z 5a= 7c-", 7, 2, "a=y b- c=x"},
		{"2c=x 2a=y 5b=z 5a= 7c-", 0, 4, "a=y c=x"},
		{"2c=x 2a=y 5b=z 5a= 7c-", 6, 3, "a=y b-"},
	}
	for _, test := range tests {
		if got := impl.OpsBetween(versionsOf(test.list), test.a, test.b); opsText(got) != test.want {
			t.Errorf("OpsBetween(%s, %d, %d) = %s, want %s", test.list, test.a, test.b, opsText(got), test.want)
		}
	}
}

// TestP57MorePairsThanAStore goes from and to times that see one pair more than
// a store has, and such as see just so many.
func TestP57MorePairsThanAStore(t *testing.T) {
	list := slices.Concat(versionsAt(longRun(0, 24, ""), 1), versionsOf("3zz=z 9aa- 11ab=x"))
	for a := range 21 {
		for b := range 21 {
			got := impl.OpsBetween(list, a, b)
			tooMany := a >= 3 && a < 9 || b >= 3 && b < 9
			if (len(got) > 0) != (!tooMany && !slices.Equal(seenModel(list, a), seenModel(list, b))) {
				t.Errorf("OpsBetween(%s, %d, %d) = %s", versionsText(list), a, b, opsText(got))
			}
			checkBetween(t, list, a, b)
		}
	}
	if got := impl.OpsBetween(list, 0, 2); len(got) != 24 {
		t.Errorf("OpsBetween 0 and 2 has %d changes", len(got))
	}
	if got := impl.OpsBetween(list, 2, 11); opsText(got) != "aa- ab=x zz=z" {
		t.Errorf("OpsBetween 2 and 11 = %s", opsText(got))
	}
}

// TestP58TimesAreThoseOfVersions checks the times of versions.
func TestP58TimesAreThoseOfVersions(t *testing.T) {
	counts := map[int]int{}
	manyVersions(func(list []impl.Version) {
		got := impl.TimesOf(list)
		if want := timesModel(list); !slices.Equal(got, want) {
			t.Errorf("TimesOf(%s) = %v, want %v", versionsText(list), got, want)
		}
		for i, at := range got {
			if i > 0 && got[i-1] >= at || !slices.ContainsFunc(list, func(v impl.Version) bool { return v.At == at }) {
				t.Errorf("TimesOf(%s) = %v has %d", versionsText(list), got, at)
			}
		}
		for _, v := range list {
			if !slices.Contains(got, v.At) {
				t.Errorf("TimesOf(%s) = %v has no %d", versionsText(list), got, v.At)
			}
		}
		counts[len(got)]++
	})
	if counts[0] == 0 || counts[1] < 10 || counts[3] < 10 || counts[20] == 0 {
		t.Errorf("counts of times are %v", counts)
	}
}

// TestP58Examples checks the times of versions written out.
func TestP58Examples(t *testing.T) {
	tests := []struct {
		list string
		want []int
	}{
		{"", nil},
		{"1a=", []int{1}},
		{"20a-", []int{20}},
		{"7c= 7b= 7a-", []int{7}},
		{"1a= 2a= 2b= 20a-", []int{1, 2, 20}},
		{"3a= 3b- 4a= 9a- 9b- 9c=", []int{3, 4, 9}},
	}
	for _, test := range tests {
		if got := impl.TimesOf(versionsOf(test.list)); !slices.Equal(got, test.want) {
			t.Errorf("TimesOf(%s) = %v, want %v", test.list, got, test.want)
		}
	}
}

// TestVersionsAreFresh checks that results share no memory with arguments, nor
// with each other, and that arguments stay, with what is behind them.
func TestVersionsAreFresh(t *testing.T) {
	next := rolls(109)
	for _, versions := range walkedVersions(200) {
		half := versions[:len(versions)/2]
		list, ops := roomy(half), roomy(shortModel(someOps(next, next(8), 4)))
		wasList, wasOps := slices.Clone(list[:cap(list)]), slices.Clone(ops[:cap(ops)])
		allVersions, allOps := [][]impl.Version{list}, [][]impl.Op{ops}
		var allPairs [][]impl.Pair
		var allTimes [][]int
		for range 2 {
			added, _ := impl.AddAt(list, ops, 20)
			same, _ := impl.AddAt(list, nil, 20)
			allVersions = append(allVersions, added, same, impl.SweepTo(list, 0), impl.SweepTo(list, 6), impl.SweepTo(list[:len(list)/2], 20))
			allOps = append(allOps, impl.OpsBetween(list, 0, 20), impl.OpsBetween(list, 20, 3))
			allPairs = append(allPairs, impl.SeenAt(list, 20), impl.SeenAt(list, 5))
			allTimes = append(allTimes, impl.TimesOf(list))
		}
		impl.ReadAt(list, "a", 20)
		if !impl.ValidVersions(list) || !slices.Equal(list[:cap(list)], wasList) || !slices.Equal(ops[:cap(ops)], wasOps) {
			t.Fatalf("arguments are now %s and %s", versionsText(list), opsText(ops))
		}
		key := strconv.Itoa
		apart := listsApart(func(i int) impl.Version { return impl.Version{Key: key(i)} }, allVersions...)
		apart = listsApart(func(i int) impl.Op { return impl.Op{Key: key(i)} }, allOps...) && apart
		apart = listsApart(func(i int) impl.Pair { return impl.Pair{Key: key(i)} }, allPairs...) && apart
		if !listsApart(func(i int) int { return math.MinInt + i }, allTimes...) || !apart {
			t.Errorf("%s: results share memory", versionsText(half))
		}
	}
}
