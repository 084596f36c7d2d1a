package tests

import (
	"testing"

	"loop.example/storeofkeys/impl"
)

// TestLimits checks every constant of the table of limits.
func TestLimits(t *testing.T) {
	limits := []struct {
		name      string
		got, want int
	}{
		{"PageSize", impl.PageSize, 48},
		{"SlotSize", impl.SlotSize, 2},
		{"MaxKey", impl.MaxKey, 3},
		{"MaxValue", impl.MaxValue, 4},
		{"MaxPage", impl.MaxPage, 9},
		{"MaxFrames", impl.MaxFrames, 5},
		{"MaxPins", impl.MaxPins, 3},
		{"MaxTrace", impl.MaxTrace, 30},
		{"MaxPairs", impl.MaxPairs, 24},
		{"MaxNode", impl.MaxNode, 4},
		{"LeastNode", impl.LeastNode, 2},
		{"MaxDepth", impl.MaxDepth, 5},
		{"MaxRun", impl.MaxRun, 40},
		{"MaxLevels", impl.MaxLevels, 6},
		{"SieveBits", impl.SieveBits, 24},
		{"Growth", impl.Growth, 2},
		{"MaxOps", impl.MaxOps, 48},
		{"SumBase", impl.SumBase, 61},
		{"MaxLog", impl.MaxLog, 1200},
		{"Places", impl.Places, 3},
		{"MaxWord", impl.MaxWord, 9},
		{"MaxTx", impl.MaxTx, 4},
		{"MaxRecs", impl.MaxRecs, 24},
		{"RecWrite", impl.RecWrite, 1},
		{"RecBack", impl.RecBack, 2},
		{"RecDone", impl.RecDone, 3},
		{"RecStop", impl.RecStop, 4},
		{"MaxTime", impl.MaxTime, 20},
		{"MaxVersions", impl.MaxVersions, 30},
		{"MaxParty", impl.MaxParty, 4},
		{"MaxThing", impl.MaxThing, 3},
		{"MaxActs", impl.MaxActs, 10},
		{"MaxJobs", impl.MaxJobs, 6},
		{"MaxQuery", impl.MaxQuery, 120},
		{"MaxSteps", impl.MaxSteps, 8},
		{"MaxId", impl.MaxId, 99},
		{"MaxEntries", impl.MaxEntries, 12},
		{"MaxPeers", impl.MaxPeers, 5},
		{"MaxTerm", impl.MaxTerm, 9},
		{"MaxMoves", impl.MaxMoves, 30},
		{"MaxSaves", impl.MaxSaves, 6},
		{"MaxLines", impl.MaxLines, 30},
	}
	for _, l := range limits {
		if l.got != l.want {
			t.Errorf("%s = %d, want %d", l.name, l.got, l.want)
		}
	}
}
