package lexicon

// noWord is the number at a node where no word ends.
const noWord = -1

// node is a place in the tree of words, behind bytes with which words begin: the number of the word that ends there, and the nodes behind it, by the byte that comes next.
type node struct {
	number int
	behind map[byte]*node
}

// newNode returns a node with nothing behind it, where no word ends.
func newNode() *node {
	return &node{number: noWord, behind: map[byte]*node{}}
}

// grow returns the node behind the last byte of a text, and adds those that are missing on the way.
func (n *node) grow(text string) *node {
	for i := range len(text) {
		next := n.behind[text[i]]
		if next == nil {
			next = newNode()
			n.behind[text[i]] = next
		}
		n = next
	}
	return n
}

// reach returns the node behind the last byte of a text; nil if there is none.
func (n *node) reach(text string) *node {
	for i := 0; n != nil && i < len(text); i++ {
		n = n.behind[text[i]]
	}
	return n
}

// numbers returns the numbers of the words that end at a node and behind it, in any order; none for nil.
func (n *node) numbers() []int {
	if n == nil {
		return nil
	}
	var numbers []int
	if n.number != noWord {
		numbers = append(numbers, n.number)
	}
	for _, next := range n.behind {
		numbers = append(numbers, next.numbers()...)
	}
	return numbers
}
