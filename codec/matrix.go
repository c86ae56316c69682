package codec

import "weave/gf"

// matrix has a row for each shard that is missing, in their order; a row has a factor for each used shard, in theirs.
type matrix [][]byte

// newMatrix works out how the k used shards make the m others.
//
// The numbers of a block at one place, each times its shard's distances from the data, are values of one polynomial of a degree below k at the shards' own numbers: behind the data this is the block's rule with the inverses multiplied away. By Lagrange's rule any k of the values give each other one, so that there is nothing to solve. What the rule multiplies and divides by is the weights of weigh and the xor of two shards' numbers.
func newMatrix(used shardSet, k int, m int) matrix {
	weights := weigh(used, k, m)
	rows := make(matrix, 0, m)
	for lost := range used.missing(k + m) {
		row := make([]byte, 0, k)
		for n := range used.members() {
			divisor := times(weights[lost], lost^n)
			row = append(row, byte(times(weights[n], inverse(divisor))))
		}
		rows = append(rows, row)
	}
	return rows
}

// weigh gives of each shard its distances from the data, divided by those from the used shards. Where the data are what is used, this is 1.
func weigh(used shardSet, k int, m int) []int {
	data := firstShards(k)
	weights := make([]int, k+m)
	for n := range weights {
		weights[n] = times(distances(n, data), inverse(distances(n, used)))
	}
	return weights
}

// distances multiplies the differences between a shard's number and those of the others in a set; none of them is 0. (The field's difference is its sum.)
func distances(shard int, others shardSet) int {
	product := 1
	for n := range others.members() {
		if n != shard {
			product = times(product, n^shard)
		}
	}
	return product
}

// times is gf.Mul where both are numbers of the field for sure.
func times(a int, b int) int {
	product, _ := gf.Mul(a, b)
	return product
}

// inverse is gf.Inv where a is a number of the field for sure, and not 0.
func inverse(a int) int {
	number, _ := gf.Inv(a)
	return number
}
