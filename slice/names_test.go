package slice_test

import (
	"math"
	"regexp"
	"strconv"
	"strings"
	"testing"

	"boule/api"
	"boule/slice"
)

func name(ingot string, block, number int) api.WaferName {
	return api.WaferName{Ingot: ingot, Block: block, Slice: number}
}

// goodNames are names and their texts.
var goodNames = map[string]api.WaferName{
	"K12-3-0017":            name("K12", 3, 17),
	"A-1-0000":              name("A", 1, 0),
	"Z-999-9999":            name("Z", 999, 9999),
	"ABCDEFGHIJKL-10-0999":  name("ABCDEFGHIJKL", 10, 999),
	"Z01234567890-100-1000": name("Z01234567890", 100, 1000),
	"MNOPQRSTUVWX-99-0010":  name("MNOPQRSTUVWX", 99, 10),
	"YZ9-9-0100":            name("YZ9", 9, 100),
	"B0-200-0009":           name("B0", 200, 9),
}

// P8.9.
func TestNames(t *testing.T) {
	for text, n := range goodNames {
		if s, e := slice.Name(n); s != text || e != api.OK {
			t.Error("Name", n, s, e, "want", text)
		}
		if x, e := slice.ParseName(text); x != n || e != api.OK {
			t.Error("ParseName", text, x, e, "want", n)
		}
	}
}

// P8.9: what is no name.
func TestNameErrors(t *testing.T) {
	bad := []api.WaferName{{}}
	for _, s := range []string{
		"", "1", "1A", "0", "a", "aA", "Aa", "Ab1", "A-", "-A", "A-1", "-", " ", " A", "A ", "A B", "A_", "A.", "A\n", "A\x00", "\x00",
		"@", "A@", "[", "A[", "`", "A/", "A:", "\xc3\x84", "A\xc3\x84", "A\xff", "\xff", "AAAAAAAAAAAAA", "A012345678901", strings.Repeat("A", 1000),
	} {
		bad = append(bad, name(s, 1, 0))
	}
	for _, n := range []int{0, -1, 1000, math.MinInt, math.MaxInt} {
		bad = append(bad, name("A", n, 0))
	}
	for _, n := range []int{-1, -17, 10000, math.MinInt, math.MaxInt} {
		bad = append(bad, name("A", 1, n))
	}
	for _, n := range bad {
		if s, e := slice.Name(n); s != "" || e != api.ErrArg {
			t.Error("Name", n, s, e)
		}
	}
}

// P8.9: what is the text of no name.
func TestParseNameErrors(t *testing.T) {
	for _, s := range []string{
		"", "-", "--", "---", "A", "A-", "A-1", "A-1-", "A--", "A--0001", "-1-0001", "--0001", "1-0001", "A-0001",
		"A-1-1", "A-1-01", "A-1-001", "A-1-00001", "A-1-10000", "A-1-1000000000000000000000001", "A-1-99999",
		"A-0-0001", "A-00-0001", "A-01-0001", "A-001-0001", "A-1000-0001", "A-18446744073709551617-0001", "A-+1-0001", "A--1-0001", "A-1_0-0001", "A-0x1-0001", "A-1.-0001", "A- 1-0001", "A-1 -0001",
		"A-1-+001", "A-1--001", "A-1--0001", "A-1-0_01", "A-1-0x01", "A-1- 001", "A-1-001 ", "A-1-1e03", "A-1-000a", "A-1-000O",
		"A-1-0001-", "A-1-0001-1", "-A-1-0001", "A-1-0001\n", "A-1-0001 ", " A-1-0001", "A-1-0001\x00", "A-1-\xd9\xa0\xd9\xa0\xd9\xa0\xd9\xa1", "A-\xd9\xa1-0001",
		"a-1-0001", "1-1-0001", "1A-1-0001", "Aa-1-0001", "A B-1-0001", "AAAAAAAAAAAAA-1-0001", "\xc3\x84-1-0001", "A\xff-1-0001", "A_1_0001", "A\xe2\x88\x921-0001",
		strings.Repeat("-", 1000), strings.Repeat("A", 1000) + "-1-0001", "A-" + strings.Repeat("1", 1000) + "-0001", "A-1-" + strings.Repeat("0", 1000),
	} {
		if n, e := slice.ParseName(s); n != (api.WaferName{}) || e != api.ErrForm {
			t.Error("ParseName", s, n, e)
		}
	}
}

var nameForm = regexp.MustCompile(`\A([A-Z][A-Z0-9]{0,11})-([1-9][0-9]{0,2})-([0-9]{4})\z`)

// wantParsed checks what ParseName returns for any text.
func wantParsed(t *testing.T, s string) {
	t.Helper()
	var want api.WaferName
	e := api.ErrForm
	if words := nameForm.FindStringSubmatch(s); words != nil {
		block, _ := strconv.Atoi(words[2])
		number, _ := strconv.Atoi(words[3])
		want, e = name(words[1], block, number), api.OK
	}
	if n, f := slice.ParseName(s); n != want || f != e {
		t.Fatal("ParseName", strconv.Quote(s), n, f, "want", want, e)
	}
	if text, f := slice.Name(want); e == api.OK && (text != s || f != api.OK) {
		t.Fatal("Name", want, text, f, "want", s)
	}
}

// P8.9: each byte at each place of some names.
func TestChangedNames(t *testing.T) {
	for s := range goodNames {
		for i := range len(s) + 1 {
			for c := range 256 {
				wantParsed(t, s[:i]+string([]byte{byte(c)})+s[i:])
				if i < len(s) {
					wantParsed(t, s[:i]+string([]byte{byte(c)})+s[i+1:])
				}
			}
			if i < len(s) {
				wantParsed(t, s[:i]+s[i+1:])
			}
		}
	}
}

// P8.9: each block and each slice.
func TestAllNumbers(t *testing.T) {
	for block := -1; block <= 1001; block++ {
		wantParsed(t, "K9-"+strconv.Itoa(block)+"-0123")
	}
	for number := range 11000 {
		wantParsed(t, "K9-12-"+strconv.Itoa(number))
		text := strconv.Itoa(number)
		for len(text) < 4 {
			text = "0" + text
		}
		wantParsed(t, "K9-12-"+text)
	}
}
