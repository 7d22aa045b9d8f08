package wire

// generator is the state of the generator, from which everything that is random comes.
type generator uint64

// draw draws a number below n.
func (g *generator) draw(n int) int {
	*g = *g*6364136223846793005 + 1442695040888963407
	return int(*g>>33) % n
}

// disturb inverts bits of a frame, if the noise has it so.
func disturb(frame []byte, noise int, draw func(n int) int) {
	if noise == 0 || draw(1000) >= noise {
		return
	}
	for range draw(3) + 1 {
		bit := draw(8 * len(frame))
		frame[bit/8] ^= 1 << (bit % 8)
	}
}

// delay returns for how many ticks more than one a packet is on a channel.
func delay(jitter int, draw func(n int) int) int {
	if jitter == 0 {
		return 0
	}
	return draw(jitter + 1)
}
