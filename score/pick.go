package score

// Best is those of the places that may whose score is the greatest among them, rising. A place that may has no entry for may not.
func Best(scores []int, may []bool) []int {
	var best []int
	for k := range min(len(scores), len(may)) {
		if !may[k] {
			continue
		}
		if len(best) > 0 && scores[k] > scores[best[0]] {
			best = best[:0] // a greater score than that of those so far
		}
		if len(best) == 0 || scores[k] == scores[best[0]] {
			best = append(best, k)
		}
	}
	return best
}

// Pick is the one of Best that is drawn; -1, if there is none.
func Pick(scores []int, may []bool, draw int) int {
	best := Best(scores, may)
	if len(best) == 0 {
		return -1
	}
	// Without a sign, so that a draw below 0 has a place, too.
	return best[uint64(draw)%uint64(len(best))]
}
