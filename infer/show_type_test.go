package infer

import "testing"

// pairsOf: pairs of pairs of a variable, so many deep, each of which is there just once.
func pairsOf(deep int) typ {
	var t typ = &variable{}
	for range deep {
		t = &pairType{first: t, second: t}
	}
	return t
}

func laidOut(deeps ...int) []*typeText {
	schemes := make([]typ, len(deeps))
	for k, deep := range deeps {
		schemes[k] = pairsOf(deep)
	}
	return layOutSchemes(schemes)
}

func TestP6TheLengthOfATextAheadOfItsMaking(t *testing.T) {
	for deep := range 16 {
		text := laidOut(deep)[0]
		if got := int64(len(text.written())); got != text.length || got != int64(6<<deep-4) {
			t.Errorf("pairs %d deep: %d bytes, but %d were told", deep, got, text.length)
		}
	}
	if text := laidOut(28)[0]; text.length != 6<<28-4 {
		t.Errorf("pairs 28 deep: %d bytes", text.length)
	}
}

func TestP1TextsThatNoMemoryHolds(t *testing.T) {
	for _, deeps := range [][]int{{}, {0}, {20, 20, 20}, {28}, {28, 26}, {28, 25, 25}, {0, 28, 0}} {
		if areTooLong(laidOut(deeps...)) {
			t.Errorf("texts of pairs %d deep are too long", deeps)
		}
	}
	for _, deeps := range [][]int{{29}, {28, 27}, {28, 28, 28}, {0, 29}, {29, 0}, {30}, {31}, {32}, {33}, {61}, {62}, {63}, {64}, {65}, {128}, {1000}, {1000, 1000}} {
		if !areTooLong(laidOut(deeps...)) {
			t.Errorf("texts of pairs %d deep are not too long", deeps)
		}
	}
}
