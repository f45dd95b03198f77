package sha

import "hearsay/api"

const (
	signs = "0123456789abcdef" // each at the place that is its number
	width = 64                 // signs of a digest, two a byte
)

// Hex is a digest in signs.
func Hex(d api.Digest) string {
	hex := make([]byte, 0, width)
	for _, b := range d {
		hex = append(hex, signs[b/16], signs[b%16])
	}
	return string(hex)
}

// Unhex is the digest that signs say.
func Unhex(s string) (api.Digest, api.Errno) {
	var d api.Digest
	for i := range min(len(s), width) {
		n, ok := numberOf(s[i])
		if !ok {
			return api.Digest{}, api.ErrForm
		}
		d[i/2] = d[i/2]*16 + n
	}
	if len(s) < width {
		return api.Digest{}, api.ErrShort
	}
	if len(s) > width {
		return api.Digest{}, api.ErrMore
	}
	return d, api.OK
}

// numberOf is the number that a sign is; false: it is none of them.
func numberOf(sign byte) (byte, bool) {
	switch {
	case '0' <= sign && sign <= '9':
		return sign - '0', true
	case 'a' <= sign && sign <= 'f':
		return sign - 'a' + 10, true
	}
	return 0, false
}
