package impl

import (
	"strconv"
	"strings"
)

const MaxValue = 1000000000000
const MaxBytes = 600

const maxZigZag = 2 * MaxValue
const maxNumbers = 60
const maxGamma = 1000000

const digitBits = 7
const digitBase = 1 << digitBits

// Six digits are enough: a seventh one would begin far above maxZigZag.
const (
	worthOfFirst = 1 << (digitBits * iota)
	worthOfSecond
	worthOfThird
	worthOfFourth
	worthOfFifth
	worthOfSixth
)

var digitWorth = [...]int{
	worthOfFirst,
	worthOfSecond,
	worthOfThird,
	worthOfFourth,
	worthOfFifth,
	worthOfSixth,
}

func isNumber(n int) bool {
	return n >= -MaxValue && n <= MaxValue
}

func ZigZag(n int) (int, bool) {
	if !isNumber(n) {
		return 0, false
	}
	if n < 0 {
		return -2*n - 1, true
	}
	return 2 * n, true
}

func UnZigZag(n int) (int, bool) {
	if n < 0 || n > maxZigZag {
		return 0, false
	}
	if n%2 == 1 {
		return -(n + 1) / 2, true
	}
	return n / 2, true
}

func PutVarint(n int) (string, bool) {
	z, ok := ZigZag(n)
	if !ok {
		return "", false
	}
	out := make([]byte, digitsOf(z))
	last := len(out) - 1
	for i := range out {
		digit := z / digitWorth[i] % digitBase
		if i < last {
			digit += digitBase
		}
		out[i] = byte(digit)
	}
	return string(out), true
}

// digitsOf counts one digit for 0, too: a number without bytes could not be read back.
func digitsOf(z int) int {
	many := 1
	for many < len(digitWorth) && z >= digitWorth[many] {
		many++
	}
	return many
}

func GetVarint(s string, at int) (int, int, bool) {
	if at < 0 || at >= len(s) {
		return 0, 0, false
	}
	z := 0
	for i := 0; i < len(digitWorth) && i < len(s)-at; i++ {
		b := int(s[at+i])
		z += b % digitBase * digitWorth[i]
		if b >= digitBase {
			continue
		}
		n, ok := UnZigZag(z)
		// A last digit of nought would be a second form of the same number.
		if !ok || i > 0 && b == 0 {
			return 0, 0, false
		}
		return n, at + i + 1, true
	}
	return 0, 0, false
}

func PutAll(l []int) (string, bool) {
	if len(l) > maxNumbers {
		return "", false
	}
	return putEach(l)
}

func putEach(l []int) (string, bool) {
	var out strings.Builder
	for _, n := range l {
		s, ok := PutVarint(n)
		if !ok {
			return "", false
		}
		out.WriteString(s)
	}
	return out.String(), true
}

func GetAll(s string) ([]int, bool) {
	if len(s) > MaxBytes {
		return nil, false
	}
	return getEach(s, maxNumbers)
}

// getEach gives up at the first number too many: a long text is not read to its end.
func getEach(s string, most int) ([]int, bool) {
	var out []int
	for at := 0; at < len(s); {
		n, end, ok := GetVarint(s, at)
		if !ok || len(out) == most {
			return nil, false
		}
		out = append(out, n)
		at = end
	}
	return out, true
}

func LengthOf(n int) (int, bool) {
	z, ok := ZigZag(n)
	if !ok {
		return 0, false
	}
	return digitsOf(z), true
}

func GammaBits(n int) (string, bool) {
	if n < 1 || n > maxGamma {
		return "", false
	}
	digits := strconv.FormatInt(int64(n), 2)
	return strings.Repeat("0", len(digits)-1) + digits, true
}

func ReadGamma(s string) (int, int, bool) {
	if len(s) > MaxBytes {
		return 0, 0, false
	}
	ahead := 0
	for ahead < len(s) && s[ahead] == '0' {
		ahead++
	}
	end := 2*ahead + 1
	if end > len(s) {
		return 0, 0, false
	}
	n, ok := readBits(s[ahead:end])
	if !ok {
		return 0, 0, false
	}
	return n, end, true
}

// readBits gives up beyond maxGamma at once: a long text would run over what an int holds.
func readBits(s string) (int, bool) {
	n := 0
	for i := 0; i < len(s); i++ {
		if s[i] != '0' && s[i] != '1' {
			return 0, false
		}
		n = 2*n + int(s[i]-'0')
		if n > maxGamma {
			return 0, false
		}
	}
	return n, true
}
