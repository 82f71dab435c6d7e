package impl

import "strconv"

const (
	MaxText   = 20000
	MaxNumber = 1000000000
	MaxWords  = 600
	MaxParts  = 12
)

const hexFigures = "0123456789abcdef"

func Hex(text string) (string, bool) {
	if len(text) > MaxText {
		return "", false
	}
	out := make([]byte, 0, 2*len(text))
	for i := 0; i < len(text); i++ {
		out = append(out, hexFigures[text[i]>>4], hexFigures[text[i]&15])
	}
	return string(out), true
}

func Unhex(text string) (string, bool) {
	// Hex never writes more figures than these, nor an odd number of them.
	if len(text) > 2*MaxText || len(text)%2 != 0 {
		return "", false
	}
	out := make([]byte, 0, len(text)/2)
	for i := 0; i < len(text); i += 2 {
		high, highOk := hexValue(text[i])
		low, lowOk := hexValue(text[i+1])
		if !highOk || !lowOk {
			return "", false
		}
		out = append(out, high<<4|low)
	}
	return string(out), true
}

// hexValue refuses A-F: Hex writes small letters, and there is one form alone.
func hexValue(figure byte) (byte, bool) {
	switch {
	case figure >= '0' && figure <= '9':
		return figure - '0', true
	case figure >= 'a' && figure <= 'f':
		return figure - 'a' + 10, true
	}
	return 0, false
}

func Decimal(n int) string { return strconv.Itoa(n) }

func ReadDecimal(text string) (int, bool) {
	n, err := strconv.Atoi(text)
	if err != nil || n < 0 || n > MaxNumber {
		return 0, false
	}
	// Atoi also takes signs and needless noughts, which Decimal does not write.
	if Decimal(n) != text {
		return 0, false
	}
	return n, true
}

func PartsOf(line string) ([]string, bool) {
	if len(line) > MaxWords {
		return nil, false
	}
	var parts []string
	at, start := 0, 0
scan:
	for ; at < len(line); at++ {
		switch b := line[at]; {
		case b < ' ' || b > '~':
			break scan
		case b == ' ':
			parts = withPart(parts, line[start:at])
			start = at + 1
		}
	}
	if at < len(line) {
		return nil, false
	}
	parts = withPart(parts, line[start:])
	if len(parts) > MaxParts {
		return nil, false
	}
	return parts, true
}

// withPart leaves out the nothing that stands between two blanks, or ahead of the first.
func withPart(parts []string, part string) []string {
	if part == "" {
		return parts
	}
	return append(parts, part)
}

func Brought(n int, least int, most int) int {
	// The lower end is asked first, so that it counts when most is below least.
	if n < least || most < least {
		return least
	}
	if n > most {
		return most
	}
	return n
}
