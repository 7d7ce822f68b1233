package edit

// tooMuch is more than any distance.
const tooMuch = 2*MaxText*MaxCost + 1

// measure returns the distance from a to b. It calls seen with each row of distances: the row i has those from the bytes of a from i on to the bytes of b from each j on.
func measure(a, b string, c Costs, seen func(i int, row []int)) int {
	// No step takes more than two bytes, so that only the two rows below a row are needed for it.
	var rows [3][]int
	for i := range rows {
		rows[i] = make([]int, len(b)+1)
	}
	kinds := stepKinds()
	for i := len(a); i >= 0; i-- {
		row := rows[i%len(rows)]
		for j := range row {
			row[j] = tooMuch
		}
		if i == len(a) {
			row[len(b)] = 0
		}
		// Insert is the last kind, and the only one that stays in the row: the distances that it goes on to are the least ones by then.
		for kind := OpKeep; kind <= OpInsert; kind++ {
			if step := kinds[kind]; i+step.takes <= len(a) {
				lessen(row, rows[(i+step.takes)%len(rows)], step, step.cost(c), a[i:], b)
			}
		}
		seen(i, row)
	}
	return rows[0][0]
}

// lessen makes those distances of a row less that are less if they begin with a step, at a cost, and go on as in the row to which it leads.
func lessen(row, onto []int, step stepKind, cost int, left, b string) {
	taken := left[:step.takes]
	for j := len(b) - step.writes; j >= 0; j-- {
		if step.fits(taken, b[j:j+step.writes]) {
			row[j] = min(row[j], cost+onto[j+step.writes])
		}
	}
}

// walk returns the path from a to b, by all rows of distances.
func walk(a, b string, c Costs, rows [][]int) []Op {
	var path []Op
	kinds := stepKinds()
	i, j := 0, 0
forward:
	for {
		for kind := OpKeep; kind <= OpInsert; kind++ {
			step := kinds[kind]
			k, l := i+step.takes, j+step.writes
			if k > len(a) || l > len(b) || !step.fits(a[i:k], b[j:l]) || step.cost(c)+rows[k][l] != rows[i][j] {
				continue
			}
			path = append(path, opOf(kind, b[j:l]))
			i, j = k, l
			continue forward
		}
		// Only behind the last byte of both texts no step fits.
		return path
	}
}
