package patch

const straight = '0' // how a switch is set that is not crossed

// switchCount returns the number of switches of a Beneš network, which stand in
// 2k - 1 columns.
func switchCount(k int) int { return (2*k - 1) << (k - 1) }

// turn returns to which of its outputs, 0 or 1, a switch leads an input.
func turn(setting byte, input int) int { return input ^ int(setting-straight) }

// settingOf returns how a switch is set that leads an input to an output.
func settingOf(input, output int) byte { return straight + byte(input^output) }

// outputsOf returns the permutation of settings.
func outputsOf(k int, settings string) []int {
	outputs := make([]int, 1<<k)
	if k == 1 {
		for input := range outputs {
			outputs[input] = turn(settings[0], input)
		}
		return outputs
	}
	column, inner := len(outputs)/2, switchCount(k-1)
	first, rest := settings[:column], settings[column:]
	upper, lower, last := rest[:inner], rest[inner:2*inner], rest[2*inner:]
	networks := [2][]int{outputsOf(k-1, upper), outputsOf(k-1, lower)}
	for input := range outputs {
		network := turn(first[input/2], input%2)
		exit := networks[network][input/2]
		outputs[input] = 2*exit + turn(last[exit], network)
	}
	return outputs
}

// settingsFor returns settings for a permutation. A Beneš network is a Clos
// network with two inputs to a switch, and the upper and the lower network as
// its middle switches, so a routing says which of them each input is led to.
func settingsFor(k int, perm []int) []byte {
	if k == 1 {
		return []byte{settingOf(0, perm[0])}
	}
	column, inner := len(perm)/2, switchCount(k-1)
	settings := make([]byte, switchCount(k))
	first, rest := settings[:column], settings[column:]
	last := rest[2*inner:]
	networks := [2][]int{make([]int, column), make([]int, column)}
	for input, network := range leastColoring(edgesOf(2, perm), 2) {
		output := perm[input]
		first[input/2] = settingOf(input%2, network)
		last[output/2] = settingOf(network, output%2)
		networks[network][input/2] = output / 2
	}
	for number, inside := range networks {
		copy(rest[number*inner:], settingsFor(k-1, inside))
	}
	return settings
}

// settingsNumbered returns the settings with the binary digits of a number.
func settingsNumbered(k, number int) string {
	settings := make([]byte, switchCount(k))
	for i := range settings {
		settings[i] = straight + byte(number>>i&1)
	}
	return string(settings)
}
