package num

import (
	"fmt"
	"math"
	"math/big"
	"strings"
	"testing"

	"cadastre/api"
)

func noughts(n int) string { return strings.Repeat("0", n) }

// P3.1: every short text of digits, signs and others.
func TestParseShortTexts(t *testing.T) {
	texts("-.0159+ ", 5, func(s string) { same(t, s) })
	texts("-.05", 8, func(s string) { same(t, s) })
}

// P3.1: by hand, the chapter's examples among them.
func TestParseByHand(t *testing.T) {
	for _, c := range []struct {
		s    string
		want asked
	}{
		{"0", asked{0, Is}}, {"-0", asked{0, Is}}, {"0.0", asked{0, Is}}, {"-0.0000", asked{0, Is}},
		{"1", asked{10000, Is}}, {"-1", asked{-10000, Is}}, {"1.25", asked{12500, Is}}, {"-1.25", asked{-12500, Is}},
		{"12.3456", asked{123456, Is}}, {"0.1", asked{1000, Is}}, {"0.01", asked{100, Is}}, {"0.001", asked{10, Is}}, {"0.0001", asked{1, Is}},
		{"0.00005", asked{1, Is}}, {"-0.00005", asked{-1, Is}}, {"0.00004", asked{0, Is}}, {"-0.00004", asked{0, Is}},
		{"0.000049999", asked{0, Is}}, {"0.00005000", asked{1, Is}}, {"0.000050001", asked{1, Is}},
		{"0.00015", asked{2, Is}}, {"0.00025", asked{3, Is}}, {"-0.00025", asked{-3, Is}}, {"0.99995", asked{10000, Is}}, {"-9.99995", asked{-100000, Is}},
		{"9.99994999", asked{99999, Is}}, {"007", asked{70000, Is}}, {"-007.50", asked{-75000, Is}},
		{"", asked{}}, {"-", asked{}}, {".", asked{}}, {"-.", asked{}}, {"1.", asked{}}, {"-1.", asked{}}, {".5", asked{}}, {"-.5", asked{}},
		{"1.2.3", asked{}}, {"1..2", asked{}}, {"1.2.", asked{}}, {"..", asked{}}, {"--1", asked{}}, {"-+1", asked{}}, {"+1", asked{}}, {"1-", asked{}},
		{"1.-2", asked{}}, {"1.+2", asked{}}, {"1-2", asked{}}, {" 1", asked{}}, {"1 ", asked{}}, {"- 1", asked{}}, {"1 .2", asked{}}, {"1\n", asked{}}, {"1\x00", asked{}},
		{"1,5", asked{}}, {"1_000", asked{}}, {"1e3", asked{}}, {"1E3", asked{}}, {"0x1", asked{}}, {"0b1", asked{}}, {"1/2", asked{}}, {"1f", asked{}},
		{"NaN", asked{}}, {"Inf", asked{}}, {"-Inf", asked{}}, {"none", asked{}}, {"٣", asked{}}, {"1.٣", asked{}}, {"−1", asked{}}, {"\xff", asked{}},
	} {
		if answer := got(Parse(c.s)); answer != c.want {
			t.Errorf("Parse of %q: %v, not %v", c.s, answer, c.want)
		}
	}
}

// P3.1: each byte, at each place of a numeral, beside and instead of what stands there.
func TestParseOtherBytes(t *testing.T) {
	for _, s := range []string{"7", "-12.05", "100.00005"} {
		for b := range 256 {
			letter := string([]byte{byte(b)})
			for i := range len(s) + 1 {
				same(t, s[:i]+letter+s[i:])
				if i < len(s) {
					same(t, s[:i]+letter+s[i+1:])
				}
			}
		}
	}
}

// P3.1: 40 digits on either side of the dot are a numeral, 41 are none, whatever they say.
func TestParseLongNumerals(t *testing.T) {
	for _, sign := range []string{"", "-"} {
		for _, digit := range []string{"0", "4", "5", "9"} {
			for _, n := range []int{1, 4, 5, 14, 15, 16, 19, 20, 39, 40, 41, 42, 80, 100} {
				long := strings.Repeat(digit, n)
				for _, s := range []string{long, long + ".5", "0." + long, "1." + long, long + "." + long, long + ".", "." + long} {
					same(t, sign+s)
				}
			}
		}
	}
	for _, c := range []struct {
		s    string
		want asked
	}{
		{noughts(39) + "1", asked{10000, Is}}, {noughts(40) + "1", asked{}}, {"-" + noughts(39) + "1", asked{-10000, Is}},
		{"0.1" + noughts(39), asked{1000, Is}}, {"0.1" + noughts(40), asked{}}, {"0." + noughts(39) + "9", asked{0, Is}},
		{noughts(40) + "." + noughts(40), asked{0, Is}}, {noughts(41) + ".0", asked{}}, {"0." + noughts(41), asked{}},
		{"0.0000" + strings.Repeat("4", 36), asked{0, Is}}, {"0.00004" + strings.Repeat("9", 35), asked{0, Is}}, {"0.00005" + noughts(35), asked{1, Is}},
		{strings.Repeat("9", 40), asked{0, TooGreat}}, {"-" + strings.Repeat("9", 40), asked{0, TooGreat}}, {strings.Repeat("9", 41), asked{}},
		{strings.Repeat("9", 40) + "." + strings.Repeat("9", 40), asked{0, TooGreat}}, {strings.Repeat("9", 40) + "." + noughts(41), asked{}},
		{strings.Repeat("9", 40) + ".", asked{}}, {strings.Repeat("9", 40) + "x", asked{}}, {strings.Repeat("1", 1<<20), asked{}}, {noughts(1 << 20), asked{}},
	} {
		if answer := got(Parse(c.s)); answer != c.want {
			t.Errorf("Parse of %d bytes, %.60q: %v, not %v", len(c.s), c.s, answer, c.want)
		}
	}
}

// P3.1: what is just below, at and just above Most in size, and where whole numbers of 64 bits wrap round.
func TestParseAboutMost(t *testing.T) {
	for _, c := range []struct {
		s    string
		want asked
	}{
		{"922337203685477.5806", asked{api.Most - 1, Is}}, {"922337203685477.5807", asked{api.Most, Is}}, {"-922337203685477.5807", asked{-api.Most, Is}},
		{"922337203685477.58064999", asked{api.Most - 1, Is}}, {"922337203685477.58065", asked{api.Most, Is}},
		{"922337203685477.58074", asked{api.Most, Is}}, {"922337203685477.58074999", asked{api.Most, Is}}, {"-922337203685477.58074999", asked{-api.Most, Is}},
		{"922337203685477.58075", asked{0, TooGreat}}, {"-922337203685477.58075", asked{0, TooGreat}},
		{"922337203685477.5808", asked{0, TooGreat}}, {"-922337203685477.5808", asked{0, TooGreat}},
		{"922337203685477.5809", asked{0, TooGreat}}, {"922337203685477.581", asked{0, TooGreat}}, {"922337203685478", asked{0, TooGreat}},
		{"922337203685477", asked{9223372036854770000, Is}}, {"-922337203685477.58", asked{-9223372036854775800, Is}},
		{"1844674407370955.1615", asked{0, TooGreat}}, {"1844674407370955.1616", asked{0, TooGreat}}, {"1844674407370955.1617", asked{0, TooGreat}},
		{"-1844674407370955.1617", asked{0, TooGreat}}, {"9999999999999999", asked{0, TooGreat}}, {"1000000000000000", asked{0, TooGreat}},
		{"999999999999999.99999", asked{0, TooGreat}}, {"99999999999999.99999", asked{1000000000000000000, Is}},
	} {
		if answer := got(Parse(c.s)); answer != c.want {
			t.Errorf("Parse of %q: %v, not %v", c.s, answer, c.want)
		}
	}
	tails := []string{"", "0", "4", "49", "499999", "5", "50", "500001", "9", "99999"}
	for _, bits := range []uint{63, 64, 65, 66, 127, 128, 131, 132} {
		for off := int64(-12); off <= 12; off++ {
			n := new(big.Int).Lsh(big.NewInt(1), bits)
			s := n.Add(n, big.NewInt(off)).String()
			for _, tail := range tails {
				same(t, s[:len(s)-4]+"."+s[len(s)-4:]+tail)
				same(t, "-"+s[:len(s)-4]+"."+s[len(s)-4:]+tail)
				same(t, s+".0"+tail)
			}
		}
	}
}

// P3.1: what stands behind four digits rounds, to either side of 0.
func TestParseRounds(t *testing.T) {
	for _, a := range numbers() {
		s := fmt.Sprintf("%020d", a)
		if a >= 0 {
			s = "0" + s
		}
		s = s[:len(s)-4] + "." + s[len(s)-4:]
		for _, tail := range []string{"", "0", "1", "4999999999", "5", "5000000000", "5000000001", "9"} {
			same(t, s+tail)
		}
	}
}

// P3.2: Print, against fractions.
func TestPrint(t *testing.T) {
	for _, a := range append(numbers(), least) {
		if s := Print(a); s != written(a) {
			t.Errorf("Print of %d: %q, not %q", a, s, written(a))
		}
	}
}

// P3.2: Print by hand, the chapter's example among them.
func TestPrintByHand(t *testing.T) {
	for _, c := range []struct {
		a    int64
		want string
	}{
		{0, "0"}, {1, "0.0001"}, {-1, "-0.0001"}, {10, "0.001"}, {100, "0.01"}, {1000, "0.1"}, {-5000, "-0.5"}, {9999, "0.9999"}, {1010, "0.101"},
		{10000, "1"}, {-10000, "-1"}, {10001, "1.0001"}, {10100, "1.01"}, {12340, "1.234"}, {-12500, "-1.25"}, {100000, "10"}, {1000000, "100"}, {-1000000500, "-100000.05"},
		{api.Most, "922337203685477.5807"}, {-api.Most, "-922337203685477.5807"}, {math.MinInt64 + 1, "-922337203685477.5807"}, {9223372036854770000, "922337203685477"},
		{math.MinInt64, "none"},
	} {
		if s := Print(c.a); s != c.want {
			t.Errorf("Print of %d: %q, not %q", c.a, s, c.want)
		}
	}
}

// P3.2: Digits, with the least and the greatest int.
func TestDigits(t *testing.T) {
	for _, c := range []struct {
		n    int
		want string
	}{
		{0, "0"}, {7, "7"}, {-7, "-7"}, {10, "10"}, {-12, "-12"}, {99, "99"}, {100, "100"}, {-100, "-100"}, {12500, "12500"}, {1000000, "1000000"},
		{math.MaxInt, "9223372036854775807"}, {math.MinInt, "-9223372036854775808"}, {math.MinInt + 1, "-9223372036854775807"},
	} {
		if s := Digits(c.n); s != c.want {
			t.Errorf("Digits of %d: %q, not %q", c.n, s, c.want)
		}
	}
	for _, a := range numbers() {
		if s := Digits(int(a)); s != big.NewInt(a).String() {
			t.Errorf("Digits of %d: %q", a, s)
		}
	}
}

// P3.3: Parse of Print is the number; what is no number is no numeral either.
func TestThereAndBack(t *testing.T) {
	for _, a := range numbers() {
		if answer := got(Parse(Print(a))); answer != (asked{a, Is}) {
			t.Errorf("Parse of Print of %d: %v", a, answer)
		}
	}
	if answer := got(Parse(Print(least))); answer != (asked{}) {
		t.Error("Parse of Print of the least int64:", answer)
	}
}

// P3.3: Print of Parse is the shortest of all numerals that say the number.
func TestPrintOfParseIsShortest(t *testing.T) {
	shortest := map[int64]string{}
	texts("-.0159", 7, func(s string) {
		_, behind, _ := strings.Cut(s, ".")
		n, kind := Parse(s)
		// With more digits behind the dot it may be rounded, and so say another number.
		if kind != Is || len(behind) > places {
			return
		}
		if old, ok := shortest[n]; !ok || len(s) < len(old) {
			shortest[n] = s
		}
	})
	if len(shortest) < 1000 {
		t.Error("too few numbers:", len(shortest))
	}
	for n, s := range shortest {
		if Print(n) != s {
			t.Errorf("Print of %d: %q, not %q", n, Print(n), s)
		}
	}
}

// P3.4: noughts ahead, and behind digits behind a dot, change nothing, as long as it is a numeral.
func TestNoughts(t *testing.T) {
	for _, s := range []string{
		"0", "-0", "7", "-7", "10", "100.1", "-0.5", "0.0001", "1.00005", "-1.00004999", "0.99995",
		"922337203685477.5807", "-922337203685477.5807", "922337203685477.58075", "-1" + noughts(20) + ".1",
	} {
		size := strings.TrimPrefix(s, "-")
		sign := s[:len(s)-len(size)]
		ahead, behind, _ := strings.Cut(size, ".")
		want := got(Parse(s))
		if want.kind == None {
			t.Errorf("%q is none", s)
		}
		for before := range 45 {
			for after := range 45 {
				other := sign + noughts(before) + ahead
				if behind != "" || after > 0 {
					other += "." + behind + noughts(after)
				}
				wanted := want
				if before+len(ahead) > api.MaxDigits || after+len(behind) > api.MaxDigits {
					wanted = asked{}
				}
				if answer := got(Parse(other)); answer != wanted {
					t.Errorf("Parse of %q: %v, not %v", other, answer, wanted)
				}
			}
		}
	}
}
