package script

import (
	"testing"

	"buttress/api"
)

// A range that is left ahead of its end must not be handed more: that would panic.
func TestRangesEndWhenLeft(t *testing.T) {
	seen := 0
	for range held("\x00\x00\x00\x00\x01\x00\x00\x00") {
		seen++
		break
	}
	for x := range right(held("\x09\x00\x00\x00\x01\x00\x00\x00\x02\x00\x00\x00"), 1) {
		if x != (api.Item{Kind: 1}) {
			t.Errorf("the first right one is %v", x)
		}
		seen++
		break
	}
	if seen != 2 {
		t.Errorf("%d items were seen", seen)
	}
}
