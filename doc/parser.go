package doc

import "refectory/cursor"

// parser makes parts of a document of the tokens that it goes through.
type parser struct {
	*cursor.Cursor
	sets int // how many are open
}
