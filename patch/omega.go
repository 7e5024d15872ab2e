package patch

// collides reports whether two messages are on the same line of an omega network
// after a stage.
func collides(k, stage int, perm []int) bool {
	taken := make([]bool, len(perm))
	for from, to := range perm {
		// Only the last k digits count: each stage drops one digit of from.
		line := (from<<stage | to>>(k-stage)) % len(perm)
		if taken[line] {
			return true
		}
		taken[line] = true
	}
	return false
}
