package maps

import (
	"fmt"
	"testing"

	"matryoshka/api"
	"matryoshka/shots"
)

// 13.2 with 12.2: what Back makes of bitmaps is what Size and then Touch make of them.
func TestBackDoesWhatSizeAndTouchDo(t *testing.T) {
	sizes := []int{0, 1, 2, 3, 5, 8, 9, 40, most - 1, most, most + 1, 1<<63 - 1}
	for _, l := range append(lists(), full(40)) {
		for _, was := range sizes {
			for _, now := range sizes {
				m := api.Meta{Size: was, Maps: l, Shots: []api.Shot{{Name: "s", Size: now}}}
				back, errno := shots.Back(m, "s")
				want(t, "the error", errno, api.OK)
				want(t, fmt.Sprintf("%+v from %d to %d", l, was, now), Touch(Size(l, was, now), s(0, now)), back.Maps)
			}
		}
	}
}
