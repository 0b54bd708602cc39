package image

import (
	"matryoshka/api"
	"matryoshka/count"
)

// slotSectors is the sectors of the slots, ahead of all others of a file.
const slotSectors = 2

// place is the first of n sectors that nobody uses; false if there are none.
func (i *Image) place(n int) (int, bool) {
	i.searches.Add(1)
	return count.Free(i.uses, n, slotSectors, api.MaxFile)
}

// countUses counts the sectors that the current and the flushed state use, and the blob of the latter. Until the calls
// in progress end, those that were in use before count too.
func (i *Image) countUses() {
	if i.calls == 0 {
		i.uses = nil
	}
	i.addSectors(i.slot.Start, sectorsOf(i.slot.Count), 1)
	i.addMeta(i.current)
	i.addMeta(i.flushed)
}

// countEntries counts the sectors of an entry that the current state has now, and not any more those of one that it has
// lost, unless a call is in progress.
func (i *Image) countEntries(e, released api.Entry) {
	i.addSectors(e.Start, e.Count, 1)
	if i.calls == 0 {
		i.addSectors(released.Start, released.Count, -1)
	}
}

// addMeta counts the sectors that the entries of m stand upon.
func (i *Image) addMeta(m api.Meta) {
	end := 0
	for _, line := range count.Each(m) {
		end = max(end, line.E.Start+line.E.Count)
	}
	i.growUses(end)
	for sector, n := range count.Of(m, end) {
		i.uses[sector] += n
	}
}

// addSectors counts n sectors, from one on, so many times.
func (i *Image) addSectors(start, n, times int) {
	i.growUses(start + n)
	for sector := start; sector < start+n; sector++ {
		i.uses[sector] += times
	}
}

// growUses lets there be a count for each of n sectors at least.
func (i *Image) growUses(n int) {
	i.uses = append(i.uses, make([]int, max(0, n-len(i.uses)))...)
}

// sectorsOf is how many sectors this many bytes need.
func sectorsOf(bytes int) int {
	return (bytes + api.Sector - 1) / api.Sector
}
