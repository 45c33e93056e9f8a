package meter

// whole is the kinds of numbers that a supply is counted in.
type whole interface{ ~int | ~int64 }

// supply is what runs out: how much there was, and how much of that was used. Used is never below 0 nor above most, so what is left always fits.
type supply[N whole] struct {
	most, used N
}

// supplyOf is a supply of which nothing was used.
func supplyOf[N whole](most N) supply[N] { return supply[N]{most: max(most, 0)} }

// left is how much was not used.
func (s *supply[N]) left() N { return s.most - s.used }

// has tells whether so much is left.
func (s *supply[N]) has(n N) bool { return n <= s.left() }

// take uses so much, which there must be.
func (s *supply[N]) take(n N) { s.used += n }
