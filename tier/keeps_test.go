package tier_test

// keeps are all choices of which of n pending writes live on, where they are few; else some.
func keeps(n int) [][]bool {
	if n > 8 {
		return some(n)
	}
	var l [][]bool
	for choice := range 1 << n {
		l = append(l, choose(n, func(i int) bool { return choice>>i&1 > 0 }))
	}
	return l
}

// some are choices of which of n pending writes live on: none, all, all but each, all up to each, every other one.
func some(n int) [][]bool {
	l := [][]bool{nil, choose(n, func(int) bool { return true })}
	for at := range n {
		l = append(l, choose(n, func(i int) bool { return i != at }))
		if at > 0 {
			l = append(l, choose(n, func(i int) bool { return i < at }))
		}
	}
	return append(l, choose(n, func(i int) bool { return i%2 == 0 }), choose(n, func(i int) bool { return i%2 == 1 }))
}

func choose(n int, of func(i int) bool) []bool {
	keep := make([]bool, n)
	for i := range keep {
		keep[i] = of(i)
	}
	return keep
}
