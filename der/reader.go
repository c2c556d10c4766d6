package der

import "bytes"

// A Reader takes elements one behind the other; once one isn't as it should be nothing is any more.
type Reader struct {
	// left is memory of its own: who handed bytes in may turn them.
	left   []byte
	failed bool
}

// From: of bytes.
func From(b []byte) *Reader { return &Reader{left: bytes.Clone(b)} }

// Next: is there an element of that tag next?
func (r *Reader) Next(tag byte) bool {
	return r != nil && len(r.left) > 0 && r.left[0] == tag
}

// Take: the bytes of the next element, which must have that tag.
func (r *Reader) Take(tag byte) []byte {
	in, _ := r.step(tag)
	return bytes.Clone(in)
}

// In: a reader of the next element, which must have that tag. What both readers
// have left are two pieces of the same memory: neither writes to it, or hands
// it out.
func (r *Reader) In(tag byte) *Reader {
	in, ok := r.step(tag)
	return &Reader{left: in, failed: !ok}
}

// step: the bytes of the next element, a piece of what was left; false: it is
// none, or has another tag, and the reader has failed.
func (r *Reader) step(tag byte) ([]byte, bool) {
	if r == nil {
		return nil, false
	}
	has, in, behind, ok := first(r.left)
	if !ok || has != tag {
		// Nothing is left: so a reader that has failed fails again.
		*r = Reader{failed: true}
		return nil, false
	}
	r.left = behind
	return in, true
}

// Done: has nothing failed, and is nothing left?
func (r *Reader) Done() bool { return r != nil && !r.failed && len(r.left) == 0 }
