package num_test

import (
	"fmt"
	"math/big"
	"regexp"
	"strings"
	"testing"

	"fleuron/api"
	"fleuron/num"
)

// P1.6: Text.
func TestText(t *testing.T) {
	for _, c := range []struct {
		a    api.Num
		want string
	}{
		{number(0, 1), "0"}, {number(7, 1), "7"}, {number(-7, 1), "-7"}, {number(1, 2), "1/2"}, {number(-3, 2), "-3/2"},
		{number(10, 1), "10"}, {number(100, 101), "100/101"}, {number(1, 10), "1/10"},
		{number(api.MaxNum, 1), "2147483647"}, {number(-api.MaxNum, 1), "-2147483647"},
		{number(1, api.MaxNum), "1/2147483647"}, {number(-api.MaxNum, api.MaxNum-1), "-2147483647/2147483646"},
	} {
		got, e := num.Text(c.a)
		same(t, fmt.Sprint("Text of ", c.a), got, e, c.want, api.OK)
		back, e := num.Parse(c.want)
		same(t, "Parse of "+c.want, back, e, c.a, api.OK)
	}
	for _, a := range samples() {
		got, e := num.Text(a)
		same(t, fmt.Sprint("Text of ", a), got, e, rat(a).RatString(), api.OK)
	}
}

// P1.6: strings that are no Text of a number.
func TestParseForm(t *testing.T) {
	bad := []string{
		"", "-", "/", "+1", "-0", "00", "01", "-01", "0/1", "1/1", "1/", "/1", "1//2", "1/2/3", "1/-2", "-1/-2", "1/+2", "1/0", "0/0", "0/2", "-0/1",
		"2/4", "6/3", "3/03", "1/02", "1.5", ".5", "1e3", "0x10", "1_000", " 1", "1 ", "1/ 2", "1 /2", "\t1", "1\n", "1\x00", "x", "one", "--1", "- 1",
		"2147483648", "-2147483648", "1/2147483648", "2147483648/3", "9223372036854775807", "9223372036854775808", "-9223372036854775808",
		"18446744073709551617", "18446744073709551617/2", "1/18446744073709551618", "4294967297", "1/4294967298",
		"١", "1⁄2", "1/2\x80", strings.Repeat("0", 100000), strings.Repeat("9", 100000), "1/" + strings.Repeat("3", 100000), strings.Repeat("/", 1000),
	}
	for _, s := range bad {
		got, e := num.Parse(s)
		same(t, fmt.Sprintf("Parse of %.40q", s), got, e, api.Num{}, api.ErrForm)
	}
}

// P1.6: Parse, of all short strings of some bytes.
func TestParseShort(t *testing.T) {
	form := regexp.MustCompile(`^(0|-?[1-9][0-9]*)(/[1-9][0-9]*)?$`)
	short("0124-/+. ", 5, func(s string) {
		want, wantErr := api.Num{}, api.ErrForm
		if form.MatchString(s) {
			v, _ := new(big.Rat).SetString(s)
			if v.RatString() == s {
				want, wantErr = number(v.Num().Int64(), v.Denom().Int64()), api.OK
			}
		}
		got, e := num.Parse(s)
		same(t, fmt.Sprintf("Parse of %q", s), got, e, want, wantErr)
	})
}

// short calls do with every string of at most n of the letters.
func short(letters string, n int, do func(s string)) {
	var grow func(s string)
	grow = func(s string) {
		do(s)
		if len(s) == n {
			return
		}
		for _, c := range letters {
			grow(s + string(c))
		}
	}
	grow("")
}

// P1.6: Decimal.
func TestDecimal(t *testing.T) {
	for _, c := range []struct {
		s    string
		want api.Num
		e    api.Errno
	}{
		{"0.50", number(1, 2), api.OK}, {"0", number(0, 1), api.OK}, {"7", number(7, 1), api.OK}, {".5", number(1, 2), api.OK},
		{"007", number(7, 1), api.OK}, {"000000000", number(0, 1), api.OK}, {"000000000.00000", number(0, 1), api.OK}, {".00000", number(0, 1), api.OK},
		{"1.25", number(5, 4), api.OK}, {".00001", number(1, 100000), api.OK}, {"3.14159", number(314159, 100000), api.OK}, {"9.0", number(9, 1), api.OK},
		{"123456789", number(123456789, 1), api.OK}, {"999999999", number(999999999, 1), api.OK}, {"999999999.00000", number(999999999, 1), api.OK},
		{"21474.83647", number(2147483647, 100000), api.OK}, {"21474.83648", number(33554432*2, 3125), api.OK}, {"21474.83649", api.Num{}, api.ErrRange},
		{"999999999.5", number(1999999999, 2), api.OK}, {"999999999.25", api.Num{}, api.ErrRange}, {"999999999.99999", api.Num{}, api.ErrRange},
		{"000000001.5", number(3, 2), api.OK},
	} {
		got, e := num.Decimal(c.s)
		same(t, "Decimal of "+c.s, got, e, c.want, c.e)
	}
}

// P1.6: strings that are no decimals.
func TestDecimalForm(t *testing.T) {
	bad := []string{
		"", ".", "1.", "-1", "+1", "-.5", "1..2", "1.2.3", ".5.", " 1", "1 ", "1. 5", "1,5", "1/2", "1e3", "x", "0x1", "1_0", "1\x00", "\n1", "1\n",
		"0123456789", "1234567890", "0000000000", "0000000001.5", ".123456", ".000000", "1.000000", "1.123456", "123456789.123456", "1234567890.1",
		"٣", "1.٣", "½", "1\xff", strings.Repeat("0", 100000), "." + strings.Repeat("0", 100000), strings.Repeat(".", 100000),
	}
	for _, s := range bad {
		got, e := num.Decimal(s)
		same(t, fmt.Sprintf("Decimal of %.40q", s), got, e, api.Num{}, api.ErrForm)
	}
}

// P1.6: Decimal, of all short strings of some bytes, and of all lengths in front of the point and behind it.
func TestDecimalShort(t *testing.T) {
	form := regexp.MustCompile(`^([0-9]{1,9}(\.[0-9]{1,5})?|\.[0-9]{1,5})$`)
	try := func(s string) {
		want, wantErr := api.Num{}, api.ErrForm
		if form.MatchString(s) {
			v, _ := new(big.Rat).SetString("0" + s)
			want, wantErr = exactNumber(v)
		}
		got, e := num.Decimal(s)
		same(t, fmt.Sprintf("Decimal of %q", s), got, e, want, wantErr)
	}
	short("0195./-: ", 5, try)
	for whole := range 12 {
		for part := range 8 {
			for _, digit := range []string{"0", "1", "5", "9"} {
				try(strings.Repeat(digit, whole) + "." + strings.Repeat(digit, part))
			}
		}
	}
}

// P1.11: Parse of Text is the number.
func TestRoundTrip(t *testing.T) {
	for _, a := range samples() {
		s, e := num.Text(a)
		if e != api.OK {
			t.Fatalf("Text of %v: %d", a, e)
		}
		back, e := num.Parse(s)
		same(t, "Parse of "+s, back, e, a, api.OK)
	}
}
