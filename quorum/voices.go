package quorum

import "hawthorn/api"

// voices is which arbiters said yes. It is an array, so that whoever it is handed to has one of their own.
type voices [api.Arbiters]bool

// and is these and one more; false: that one is no arbiter, or said yes already.
func (v voices) and(from int) (voices, bool) {
	if from < 0 || from >= len(v) || v[from] {
		return voices{}, false
	}
	v[from] = true
	return v, true
}

// isMajority is whether so many said yes that no others can be as many.
func isMajority(v voices) bool {
	n := 0
	for _, yes := range v {
		if yes {
			n++
		}
	}
	return n > len(v)/2
}
