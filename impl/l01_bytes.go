package impl

const (
	// Seven bytes at most, so that every number in bytes is below 2 to the 56th and no shift reaches the sign.
	widest = 7

	// All 16 bits of a sum.
	sumBits = 65535

	hexDigits = "0123456789abcdef"
)

func isWidth(k int64) bool {
	return 1 <= k && k <= widest
}

func BytesOf(n int64, k int64) string {
	if !isWidth(k) || n < 0 || n>>(8*k) != 0 {
		return ""
	}
	out := make([]byte, k)
	for i := k - 1; i >= 0; i-- {
		out[i] = byte(n & 255)
		n >>= 8
	}
	return string(out)
}

func NumAt(s string, at int64, k int64) (int64, bool) {
	// The place is held against what is left of s: at + k might go beyond the greatest int64.
	if !isWidth(k) || at < 0 || at > int64(len(s))-k {
		return 0, false
	}
	n := int64(0)
	for i := at; i < at+k; i++ {
		n = n<<8 | int64(s[i])
	}
	return n, true
}

func SumOf(s string) int64 {
	sum := int64(0)
	for i := 0; i < len(s); i += 2 {
		// Folded at each step, so that the sum stays small however long s is.
		sum = folded(sum + pairAt(s, i))
	}
	return turned(sum)
}

func pairAt(s string, at int) int64 {
	pair := int64(s[at]) << 8
	if at+1 < len(s) {
		pair |= int64(s[at+1])
	}
	return pair
}

func folded(n int64) int64 {
	for n > sumBits {
		n = n>>16 + n&sumBits
	}
	return n
}

func turned(n int64) int64 {
	return n ^ sumBits
}

func isPair(n int64) bool {
	return 0 <= n && n <= sumBits
}

func SumFix(sum int64, old int64, now int64) int64 {
	if !isPair(sum) || !isPair(old) || !isPair(now) {
		return -1
	}
	return turned(folded(turned(sum) + turned(old) + now))
}

func HexOf(s string) string {
	out := make([]byte, 0, 2*len(s))
	for i := 0; i < len(s); i++ {
		out = append(out, hexDigits[s[i]>>4], hexDigits[s[i]&15])
	}
	return string(out)
}

func ReadHex(s string) (string, bool) {
	if len(s)%2 != 0 {
		return "", false
	}
	out := make([]byte, 0, len(s)/2)
	for i := 0; i < len(s); i += 2 {
		high, highOk := digitOf(s[i])
		low, lowOk := digitOf(s[i+1])
		if !highOk || !lowOk {
			return "", false
		}
		out = append(out, high<<4|low)
	}
	return string(out), true
}

func digitOf(c byte) (byte, bool) {
	switch {
	case '0' <= c && c <= '9':
		return c - '0', true
	case 'a' <= c && c <= 'f':
		return c - 'a' + 10, true
	}
	return 0, false
}
