// Package octet is layer 1: see shared/doc/01-octet.md.
package octet

import "errand/api"

const (
	maxWidth    = 7     // bytes of a number
	lengthWidth = 2     // bytes of a text's length
	maxText     = 65535 // the greatest length that those bytes can tell
)

// Cur is a cursor.
type Cur struct {
	Text string
	At   int
	E    api.Errno
}

// Put lays a number behind bytes.
func Put(b []byte, width, n int) ([]byte, api.Errno) {
	if !isWidth(width) {
		return nil, api.ErrArg
	}
	if n < 0 || uint64(n)>>(8*width) != 0 {
		return nil, api.ErrRange
	}
	l := grown(b, width)
	lay(l[len(b):], n)
	return l, api.OK
}

// Str lays a text behind bytes.
func Str(b []byte, s string) ([]byte, api.Errno) {
	if len(s) > maxText {
		return nil, api.ErrLong
	}
	l := grown(b, lengthWidth+len(s))
	text := len(b) + lengthWidth
	lay(l[len(b):text], len(s))
	copy(l[text:], s)
	return l, api.OK
}

// New tells a cursor at a text's beginning.
func New(s string) Cur { return Cur{Text: s} }

// Num reads a number.
func Num(c Cur, width int) (Cur, int) {
	if c.E != api.OK {
		return c, 0
	}
	if !inside(c) || !isWidth(width) {
		return failed(c, api.ErrArg), 0
	}
	if Left(c) < width {
		return failed(c, api.ErrCut), 0
	}
	n := 0
	for i := range width {
		n = n<<8 | int(c.Text[c.At+i])
	}
	c.At += width
	return c, n
}

// Take reads a text.
func Take(c Cur) (Cur, string) {
	d, n := Num(c, lengthWidth)
	if d.E != api.OK {
		return d, ""
	}
	if Left(d) < n {
		// c, not d: a text that is cut off leaves the cursor ahead of its length.
		return failed(c, api.ErrCut), ""
	}
	s := d.Text[d.At : d.At+n]
	d.At += n
	return d, s
}

// Left tells how many bytes are left.
func Left(c Cur) int {
	if c.E != api.OK || !inside(c) {
		return 0
	}
	return len(c.Text) - c.At
}

// End tells whether all was read.
func End(c Cur) api.Errno {
	if c.E != api.OK {
		return c.E
	}
	if !inside(c) {
		return api.ErrArg
	}
	if Left(c) > 0 {
		return api.ErrLong
	}
	return api.OK
}

// isWidth: a number of seven bytes is the widest one that an int surely holds.
func isWidth(width int) bool { return width >= 1 && width <= maxWidth }

// inside tells whether a cursor stands within its text, or right behind it.
func inside(c Cur) bool { return c.At >= 0 && c.At <= len(c.Text) }

func failed(c Cur, e api.Errno) Cur {
	c.E = e
	return c
}

// grown copies rather than appends, for append might write into the spare room of b, which is the caller's.
func grown(b []byte, more int) []byte {
	l := make([]byte, len(b)+more)
	copy(l, b)
	return l
}

// lay fills all of b with n, the highest byte first.
func lay(b []byte, n int) {
	for i := len(b) - 1; i >= 0; i-- {
		b[i] = byte(n)
		n >>= 8
	}
}
