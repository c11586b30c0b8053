package slice

import (
	"strconv"
	"strings"

	"boule/api"
)

// maxIngot is the greatest number of bytes in the name of an ingot.
const maxIngot = 12

func isLetter(c byte) bool { return 'A' <= c && c <= 'Z' }

func isDigit(c byte) bool { return '0' <= c && c <= '9' }

func isIngot(s string) bool {
	if len(s) == 0 || len(s) > maxIngot || !isLetter(s[0]) {
		return false
	}
	for i := range len(s) {
		if !isLetter(s[i]) && !isDigit(s[i]) {
			return false
		}
	}
	return true
}

// Name returns the text of a name.
func Name(n api.WaferName) (string, api.Errno) {
	if !isIngot(n.Ingot) || n.Block < 1 || n.Block > api.MaxBlockNo || n.Slice < 0 || n.Slice > api.MaxSliceNo {
		return "", api.ErrArg
	}
	digits := strconv.Itoa(api.MaxSliceNo + 1 + n.Slice)[1:] // A 1 before them keeps the zeros.
	return n.Ingot + "-" + strconv.Itoa(n.Block) + "-" + digits, api.OK
}

// ParseName returns the name of a text.
func ParseName(s string) (api.WaferName, api.Errno) {
	ingot, numbers, _ := strings.Cut(s, "-")
	first, second, _ := strings.Cut(numbers, "-")
	// Whatever is read here, the text is a name just if it is that of what was read.
	block, _ := strconv.Atoi(first)
	slice, _ := strconv.Atoi(second)
	n := api.WaferName{Ingot: ingot, Block: block, Slice: slice}
	if text, e := Name(n); e != api.OK || text != s {
		return api.WaferName{}, api.ErrForm
	}
	return n, api.OK
}
