package row

import (
	"strings"

	"weathercock/api"
	"weathercock/value"
)

// numberBytes is the number of bytes that the number of an Int takes.
const numberBytes = 8

// cell has room for the encoding of any valid value: the longest Text takes most.
type cell [2 + api.MaxBytes]byte

// Encode returns the encodings of the values of r, one behind the other.
func Encode(r []api.Value) (string, api.Errno) {
	switch {
	case len(r) > maxValues:
		return "", api.ErrLong
	case !allRight(r):
		return "", api.ErrArg
	}
	var out strings.Builder
	for _, v := range r {
		var c cell
		n := c.put(v)
		out.Write(c[:n])
	}
	return out.String(), api.OK
}

// Decode returns the row whose encoding s is.
func Decode(s string) ([]api.Value, api.Errno) {
	var r []api.Value
	for s != "" {
		n := firstSize(s)
		// Asked at each value, so that a long s of many values is not gone through first.
		if n == 0 || n > len(s) || len(r) == maxValues {
			return nil, api.ErrForm
		}
		v := decodeValue(s[:n])
		if !value.Right(v) {
			return nil, api.ErrForm
		}
		r = append(r, v)
		s = s[n:]
	}
	return r, api.OK
}

// put writes the encoding of a valid value into c, which is empty, and returns how many bytes it takes.
// It does not return c as well: Go leaves open whether a return statement reads c ahead of a call, in the same statement, that writes into it.
func (c *cell) put(v api.Value) int {
	c[0] = byte(v.Kind)
	switch v.Kind {
	case api.Int:
		for i := range numberBytes {
			c[numberBytes-i] = byte(uint64(v.N) >> (8 * i))
		}
		return 1 + numberBytes
	case api.Bool:
		c[1] = byte(v.N)
		return 2
	case api.Text:
		c[1] = byte(len(v.S))
		return 2 + copy(c[2:], v.S)
	}
	return 1
}

// firstSize returns how many bytes the encoding takes with which s begins, by its first bytes, or 0 if none begins so; s is not empty.
func firstSize(s string) int {
	switch int(s[0]) {
	case api.Null:
		return 1
	case api.Int:
		return 1 + numberBytes
	case api.Bool:
		return 2
	case api.Text:
		if len(s) > 1 {
			return 2 + int(s[1])
		}
	}
	return 0
}

// decodeValue returns the value that s, of the size of its Kind, encodes; it may be one that is not valid.
func decodeValue(s string) api.Value {
	v := api.Value{Kind: int(s[0])}
	switch v.Kind {
	case api.Int:
		var bits uint64
		for i := range numberBytes {
			bits = bits<<8 | uint64(s[1+i])
		}
		v.N = int(bits)
	case api.Bool:
		v.N = int(s[1])
	case api.Text:
		// A copy, so that a short text does not hold the whole of what it was read from.
		v.S = strings.Clone(s[2:])
	}
	return v
}
