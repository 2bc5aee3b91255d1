package print

import "refectory/pen"

// deepest is how many sets in one another are gone into: far more than a document
// may have, but a list that holds itself would have no end.
const deepest = 1 << 16

// writer writes the parts of documents.
type writer struct {
	*pen.Pen
	sets int // how many are open
}
