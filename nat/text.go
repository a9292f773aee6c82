package nat

import (
	"strings"

	"keysmith/api"
)

const (
	digits     = "0123456789abcdef"
	digitBits  = 4
	limbDigits = limbBits / digitBits
)

// Text answers a's digits by sixteen.
func Text(a api.Nat) string {
	n := max(1, (Bits(a)+digitBits-1)/digitBits)
	out := make([]byte, n)
	for i := range n {
		out[n-1-i] = digits[limb(a, i/limbDigits)>>(i%limbDigits*digitBits)&(1<<digitBits-1)]
	}
	return string(out)
}

// Read answers the natural with those digits by sixteen.
func Read(s string) (api.Nat, api.Errno) {
	if s == "" {
		return nil, api.ErrArg
	}
	for i := range len(s) {
		if _, ok := digit(s[i]); !ok {
			return nil, api.ErrText
		}
	}
	s = strings.TrimLeft(s, "0")
	if len(s) > api.MaxLimbs*limbDigits {
		return nil, api.ErrLong
	}
	out := make(api.Nat, (len(s)+limbDigits-1)/limbDigits)
	for i := range len(s) {
		d, _ := digit(s[len(s)-1-i])
		out[i/limbDigits] |= d << (i % limbDigits * digitBits)
	}
	return out, api.OK
}

func digit(c byte) (uint64, bool) {
	switch {
	case '0' <= c && c <= '9':
		return uint64(c - '0'), true
	case 'a' <= c && c <= 'f':
		return uint64(c-'a') + 10, true
	case 'A' <= c && c <= 'F':
		return uint64(c-'A') + 10, true
	}
	return 0, false
}
