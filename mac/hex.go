package mac

const digits = "0123456789abcdef"

// Hex writes bytes as digits, Unhex reads them.
func Hex(s string) string {
	out := make([]byte, 0, 2*len(s))
	for i := range len(s) {
		out = append(out, digits[s[i]/16], digits[s[i]%16])
	}
	return string(out)
}

func Unhex(s string) (string, bool) {
	if len(s)%2 != 0 {
		return "", false
	}
	out := make([]byte, 0, len(s)/2)
	for i := 0; i < len(s); i += 2 {
		high, ok := digitOf(s[i])
		low, also := digitOf(s[i+1])
		if !ok || !also {
			return "", false
		}
		out = append(out, high*16+low)
	}
	return string(out), true
}

// digitOf takes small letters alone, since Hex writes no others.
func digitOf(c byte) (byte, bool) {
	switch {
	case '0' <= c && c <= '9':
		return c - '0', true
	case 'a' <= c && c <= 'f':
		return c - 'a' + 10, true
	}
	return 0, false
}
