package fix_test

import (
	"fmt"
	"math/big"
	"regexp"
	"strconv"
	"strings"
	"testing"

	"fleuron/api"
	"fleuron/fix"
)

var form = regexp.MustCompile(`^-?([0-9]{1,9}(\.[0-9]{1,9})?|\.[0-9]{1,9})$`)

// parsed returns what Parse of a string has to give.
func parsed(s string) (int, api.Errno) {
	if !form.MatchString(s) {
		return 0, api.ErrForm
	}
	plain := strings.TrimPrefix(s, "-")
	v, _ := new(big.Rat).SetString("0" + plain)
	n, e := nearest(v.Mul(v, big.NewRat(api.Unit, 1)))
	if plain != s {
		n = -n
	}
	return n, e
}

// P2.5: Parse.
func TestParse(t *testing.T) {
	for _, c := range []struct {
		s    string
		want int
		e    api.Errno
	}{
		{"0", 0, api.OK}, {"-0", 0, api.OK}, {"-.0", 0, api.OK}, {"00", 0, api.OK}, {"1", 65536, api.OK}, {"-1", -65536, api.OK}, {"007", 7 * 65536, api.OK},
		{"1.5", 98304, api.OK}, {".5", 32768, api.OK}, {"-.5", -32768, api.OK}, {"-0.5", -32768, api.OK}, {"0.33333", 21845, api.OK}, {"-0.33333", -21845, api.OK},
		{"000000000.000000000", 0, api.OK}, {"000000001.250000000", 81920, api.OK}, {"-000000001.250000000", -81920, api.OK},
		{"0.000007629", 0, api.OK}, {"0.000007630", 1, api.OK}, {"-0.000007629", 0, api.OK}, {"-0.000007630", -1, api.OK}, {".000000001", 0, api.OK},
		{"0.999999999", 65536, api.OK}, {"0.999992370", 65535, api.OK}, {"0.999992371", 65536, api.OK}, {"-.999999999", -65536, api.OK},
		{"32767", 32767 * 65536, api.OK}, {"32767.99998", most, api.OK}, {"-32767.99998", -most, api.OK}, {"32767.999992370", most, api.OK},
		{"-32767.999992370", -most, api.OK}, {"32767.999992371", 0, api.ErrRange}, {"-32767.999992371", 0, api.ErrRange}, {"32768", 0, api.ErrRange},
		{"-32768", 0, api.ErrRange}, {"999999999", 0, api.ErrRange}, {"-999999999.999999999", 0, api.ErrRange}, {"100000000.5", 0, api.ErrRange},
	} {
		got, e := fix.Parse(c.s)
		same(t, "Parse of "+c.s, got, e, c.want, c.e)
	}
}

// P2.5: strings that are not of the form.
func TestParseForm(t *testing.T) {
	bad := []string{
		"", "-", ".", "-.", "1.", "-1.", "+1", "+.5", "--1", "- 1", "1-", "-1-", "1.-5", ".-5", "1..2", "1.2.3", ".5.", " 1", "1 ", "1. 5", "1,5", "1/2", "1e3", "x", "0x1",
		"1_0", "1\x00", "\x00", "\n1", "1\n", "-\n1", "−1", "٣", "1.٣", "½", "1\xff", "1.\xff",
		"0000000000", "1234567890", "-1234567890", "0000000001.5", ".0000000000", "1.0000000000", "-1.0000000000", ".1234567890",
		"4294967296000000000", "18446744073709551617", "1.18446744073709551617", "NaN", "Inf", "-inf",
		strings.Repeat("0", 100000), "." + strings.Repeat("0", 100000), strings.Repeat(".", 100000), strings.Repeat("-", 100000), "-" + strings.Repeat("9", 100000),
	}
	for _, s := range bad {
		got, e := fix.Parse(s)
		same(t, fmt.Sprintf("Parse of %.40q", s), got, e, 0, api.ErrForm)
	}
}

// P2.5: Parse, of all short strings of some bytes.
func TestParseShort(t *testing.T) {
	var grow func(s string)
	grow = func(s string) {
		want, wantErr := parsed(s)
		got, e := fix.Parse(s)
		same(t, fmt.Sprintf("Parse of %q", s), got, e, want, wantErr)
		if len(s) == 5 {
			return
		}
		for _, c := range "0159-.+/: " {
			grow(s + string(c))
		}
	}
	grow("")
}

// P2.5: Parse, of all lengths in front of the point and behind it.
func TestParseLengths(t *testing.T) {
	for front := range 12 {
		for behind := range 12 {
			for _, digit := range []string{"0", "1", "3", "5", "9"} {
				for _, sign := range []string{"", "-", "-00000000", "0000"} {
					for _, s := range []string{
						sign + strings.Repeat(digit, front) + "." + strings.Repeat(digit, behind),
						sign + strings.Repeat(digit, front) + strings.Repeat(digit, behind),
						sign + strings.Repeat(digit, front%4) + "." + strings.Repeat(digit, behind),
					} {
						want, wantErr := parsed(s)
						got, e := fix.Parse(s)
						same(t, "Parse of "+s, got, e, want, wantErr)
					}
				}
			}
		}
	}
}

// P2.5: Text, by hand.
func TestText(t *testing.T) {
	for _, c := range []struct {
		a    int
		want string
	}{
		{0, "0"}, {1, "0.00002"}, {-1, "-0.00002"}, {2, "0.00003"}, {3, "0.00005"}, {7, "0.0001"}, {21845, "0.33333"}, {43691, "0.66667"}, {-32768, "-0.5"}, {32768, "0.5"},
		{65536, "1"}, {-65536, "-1"}, {98304, "1.5"}, {655360, "10"}, {65535, "0.99998"}, {65537, "1.00002"}, {-65535, "-0.99998"}, {6554, "0.1"}, {6553, "0.09999"},
		// Multiples of 1/64 stand in the middle of strings with five digits.
		{1024, "0.01562"}, {3072, "0.04687"}, {-1024, "-0.01562"}, {65536 + 1024, "1.01562"}, {63 * 1024, "0.98437"}, {2048, "0.03125"},
		{32767 * 65536, "32767"}, {most, "32767.99998"}, {-most, "-32767.99998"}, {-32767 * 65536, "-32767"},
	} {
		got, e := fix.Text(c.a)
		same(t, fmt.Sprintf("Text(%d)", c.a), got, e, c.want, api.OK)
	}
	for _, n := range noFixed {
		got, e := fix.Text(n)
		same(t, fmt.Sprintf("Text(%d)", n), got, e, "", api.ErrArg)
	}
}

// shortest returns the digits behind the point of every rest: of all that there are, the fewest, of these the nearest, of these the least.
func shortest() map[int]string {
	best := map[int]string{}
	for digits := range 5 {
		found := map[int]int{}
		power := []int{10, 100, 1000, 10000, 100000}[digits]
		// Distances are in parts of Unit times the power.
		distance := func(n, rest int) int {
			off := n*api.Unit - rest*power
			return max(off, -off)
		}
		for n := range power {
			rest, _ := nearest(big.NewRat(int64(n)*api.Unit, int64(power)))
			if before, ok := found[rest]; !ok || distance(n, rest) < distance(before, rest) {
				found[rest] = n
			}
		}
		for rest, n := range found {
			if best[rest] == "" {
				best[rest] = fmt.Sprintf(".%0*d", digits+1, n)
			}
		}
	}
	return best
}

// P2.5, P2.9: Text, of every rest, and back.
func TestTextOfRests(t *testing.T) {
	behind := shortest()
	behind[0] = ""
	for rest := range api.Unit {
		for _, front := range []int{0, 1, 32767, rest % 32768} {
			a, want := front*api.Unit+rest, strconv.Itoa(front)+behind[rest]
			got, e := fix.Text(a)
			same(t, fmt.Sprintf("Text(%d)", a), got, e, want, api.OK)
			back, e := fix.Parse(got)
			same(t, "Parse of "+got, back, e, a, api.OK)
			if a == 0 {
				continue
			}
			got, e = fix.Text(-a)
			same(t, fmt.Sprintf("Text(%d)", -a), got, e, "-"+want, api.OK)
			back, e = fix.Parse(got)
			same(t, "Parse of "+got, back, e, -a, api.OK)
		}
	}
}

// P2.9: Parse of Text is the number.
func TestRoundTrip(t *testing.T) {
	for _, a := range fixedNumbers() {
		s, e := fix.Text(a)
		if e != api.OK || !form.MatchString(s) {
			t.Fatalf("Text(%d) is %q, %d", a, s, e)
		}
		back, e := fix.Parse(s)
		same(t, "Parse of "+s, back, e, a, api.OK)
	}
	for a := -most; a <= most-30011; a += 30011 {
		s, _ := fix.Text(a)
		back, e := fix.Parse(s)
		same(t, "Parse of "+s, back, e, a, api.OK)
	}
}
