package samples

import "cheesepress/api"

// dice gives numbers that look like chance, and are the same each time.
type dice struct {
	state uint64
}

// below returns a number from 0 on and below n.
func (d *dice) below(n int) int {
	d.state = d.state*6364136223846793005 + 1442695040888963407
	// The low bits of such a state repeat soon.
	return int(d.state>>33) % n
}

// dist returns a distribution that is right, with zeros and -1 among its probabilities.
func (d *dice) dist() api.Dist {
	log := minLog + d.below(api.MaxLog+1-minLog)
	zeros := d.below(10)
	greatest := 1 + d.below(1<<log)
	var probs []int
	for left := 1 << log; left > 0; {
		prob := 0
		switch {
		case len(probs) == api.MaxSymbols-1:
			prob = left
		case d.below(10) < zeros:
		case d.below(4) == 0:
			prob = -1
		default:
			prob = 1 + d.below(min(left, greatest))
		}
		probs = append(probs, prob)
		left -= max(prob, -prob)
	}
	return Of(log, probs...)
}
