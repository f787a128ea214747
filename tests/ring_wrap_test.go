package tests

import (
	"fmt"
	"slices"
	"testing"

	"loop.example/g01176/impl"
)

func TestWrapExamples(t *testing.T) {
	for _, c := range []struct {
		ring impl.Ring
		s    int
		want []int
	}{
		{exampleRing, 0, []int{0, 1, 0, 4}},
		{exampleRing, 1, []int{1, 0, 4, 0}},
		{exampleRing, 4, []int{4, 0, 1, 0}},
		{exampleRing, 2, []int{2, 3}},
		{exampleRing, 3, []int{3, 2}},
		{ring(2), 0, []int{0, 1}},
		{ring(2), 1, []int{1, 0}},
		{ring(2, 0), 0, []int{0, 1}},
		{ring(2, 0), 1, []int{1, 0}},
		{ring(2, 1), 0, []int{0, 1}},
		{ring(2, 1), 1, []int{1, 0}},
		{ring(2, 0, 1), 0, []int{0}},
		{ring(2, 0, 1), 1, []int{1}},
		{ring(5), 0, []int{0, 1, 2, 3, 4}},
		{ring(5), 3, []int{3, 4, 0, 1, 2}},
		{ring(5, 4), 0, []int{0, 1, 2, 3, 4, 3, 2, 1}},
		{ring(5, 4), 4, []int{4, 3, 2, 1, 0, 1, 2, 3}},
		{ring(5, 4), 1, []int{1, 2, 3, 4, 3, 2, 1, 0}},
		{ring(5, 0, 4), 0, []int{0}},
		{ring(5, 2, 3), 3, []int{3}},
		{ring(12), 11, []int{11, 0, 1, 2, 3, 4, 5, 6, 7, 8, 9, 10}},
		{ring(12, 0, 11), 0, []int{0}},
	} {
		got, ok := impl.WrapFrom(c.ring, c.s)
		wantInts(t, fmt.Sprint("WrapFrom ", c.ring, c.s), got, ok, c.want)
	}
}

// On a double ring one comes over each link of a piece once forwards and once back; in a whole ring, only
// forwards.
func TestWrapOfAllRings(t *testing.T) {
	everyRingUpTo(impl.MaxStations, func(r impl.Ring) {
		pieces, _ := impl.PiecesOf(r)
		for _, piece := range pieces {
			for _, s := range piece {
				name := fmt.Sprint("WrapFrom ", r, s)
				got, ok := impl.WrapFrom(r, s)
				wantInts(t, name, got, ok, plainWrap(r, s))
				if len(r.Broken) > 0 && len(got) != max(1, 2*len(piece)-2) || len(r.Broken) == 0 && len(got) != r.Stations {
					t.Errorf("%s: %v is too short or too long", name, got)
				}
				for _, passed := range got {
					if !slices.Contains(piece, passed) {
						t.Errorf("%s: %v leaves the piece %v", name, got, piece)
					}
				}
			}
		}
	})
}

func TestWrapOfOthersFails(t *testing.T) {
	for _, r := range edgeRings() {
		for _, s := range notNumbersOf(r) {
			got, ok := impl.WrapFrom(r, s)
			wantNoInts(t, fmt.Sprint("WrapFrom ", r, s), got, ok)
		}
	}
	for _, r := range notRings() {
		for s := -1; s <= 13; s++ {
			got, ok := impl.WrapFrom(r, s)
			wantNoInts(t, fmt.Sprint("WrapFrom ", r, s), got, ok)
		}
	}
}
