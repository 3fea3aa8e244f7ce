package level

import (
	"slices"

	"dedup/api"
	"dedup/run"
)

// lay puts entries as a run ahead of a level's others; whether there were some.
func (l *Levels) lay(n int, entries []api.Entry) bool {
	if len(entries) == 0 {
		return false
	}
	b, _ := run.Build(entries, l.tiers.Block)
	r, _ := run.Open(b)
	l.runs[n] = append(l.runs[n], r)
	return true
}

// Flush lays down what is in memory.
func (l *Levels) Flush() bool {
	if !l.made() {
		return false
	}
	entries := slices.Collect(l.mem.All())
	l.mem.Clear()
	return l.lay(0, entries)
}

// Step is a step of compaction.
func (l *Levels) Step() bool {
	if !l.made() {
		return false
	}
	for n := range l.runs {
		if len(l.runs[n]) >= l.tiers.Fan {
			l.compact(n)
			return true
		}
	}
	return false
}

// compact merges a level's runs into one of the next level; the last level keeps it.
func (l *Levels) compact(n int) {
	last := len(l.Runs()) - 1 // with no run behind it, those that are gone hide nothing
	entries := run.Merge(slices.Collect(l.newest(n)), n == last)
	l.runs[n] = nil
	l.lay(min(n+1, api.MaxLevels-1), entries)
}

// Runs is how many runs each level has, up to the last one that has some.
func (l *Levels) Runs() []int {
	if !l.made() {
		return nil
	}
	var counts []int
	for n, runs := range l.runs {
		if len(runs) == 0 {
			continue
		}
		for len(counts) < n {
			counts = append(counts, 0)
		}
		counts = append(counts, len(runs))
	}
	return counts
}
