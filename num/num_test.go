package num

import (
	"fmt"
	"math"
	"math/big"
	"regexp"
	"slices"
	"strings"
	"testing"

	"cotterel/api"
)

// numbers has the edges of all sizes of integers, every power of two and of ten with its neighbours, and mixed ones.
func numbers() []int64 {
	l := []int64{0, 1, -1, 9, 10, -9, -10, 40, -40, math.MaxInt64, math.MaxInt64 - 1, math.MinInt64, math.MinInt64 + 1}
	for k := range 63 {
		p := int64(1) << k
		l = append(l, p-1, p, p+1, -p+1, -p, -p-1)
	}
	for p := int64(1); p <= 1e17; p *= 10 {
		l = append(l, 10*p-1, 10*p, 10*p+1, 1-10*p, -10*p, -10*p-1)
	}
	x := int64(1)
	for k := range 300 {
		x = x*6364136223846793005 + 1442695040888963407
		l = append(l, x, x>>(k%64))
	}
	return l
}

// texts is every text of at most n of the parts.
func texts(n int, parts ...string) []string {
	all, last := []string{""}, []string{""}
	for range n {
		var next []string
		for _, s := range last {
			for _, p := range parts {
				next = append(next, s+p)
			}
		}
		all, last = append(all, next...), next
	}
	return all
}

func TestDec(t *testing.T) { // NM1
	for n, want := range map[int64]string{0: "0", 1: "1", -1: "-1", -40: "-40", 10: "10", math.MaxInt64: "9223372036854775807", math.MinInt64: "-9223372036854775808"} {
		if got := Dec(n); got != want {
			t.Errorf("Dec(%d) = %q, want %q", n, got, want)
		}
	}
	for _, n := range numbers() {
		if got, want := Dec(n), big.NewInt(n).String(); got != want {
			t.Errorf("Dec(%d) = %q, want %q", n, got, want)
		}
	}
}

func TestHex(t *testing.T) { // NM1
	for u, want := range map[uint32]string{0: "00000000", 1: "00000001", 9: "00000009", 10: "0000000a", 15: "0000000f", 16: "00000010", 48879: "0000beef", 0x0fffffff: "0fffffff", 0x10000000: "10000000", 0x12345678: "12345678", 0x9abcdef0: "9abcdef0", 0x80000000: "80000000", math.MaxUint32: "ffffffff"} {
		if got := Hex(u); got != want {
			t.Errorf("Hex(%#x) = %q, want %q", u, got, want)
		}
	}
	for _, n := range numbers() {
		u := uint32(n)
		if got, want := Hex(u), fmt.Sprintf("%08x", u); got != want {
			t.Errorf("Hex(%#x) = %q, want %q", u, got, want)
		}
	}
}

func TestParse(t *testing.T) { // NM2
	nines := strings.Repeat("9", 100)
	for _, k := range []struct {
		s string
		n int64
		e api.Errno
	}{
		{"0", 0, api.OK}, {"1", 1, api.OK}, {"-1", -1, api.OK}, {"10", 10, api.OK}, {"-100", -100, api.OK}, {"1234567890", 1234567890, api.OK},
		{"0x0", 0, api.OK}, {"0x1f", 31, api.OK}, {"0x00", 0, api.OK}, {"0x007", 7, api.OK}, {"0x00000000", 0, api.OK}, {"0xabcdef", 0xabcdef, api.OK},
		{"0x12345678", 0x12345678, api.OK}, {"0x9", 9, api.OK}, {"0x80000000", 1 << 31, api.OK}, {"0xffffffff", math.MaxUint32, api.OK},

		{"9223372036854775807", math.MaxInt64, api.OK}, {"-9223372036854775808", math.MinInt64, api.OK}, {"-9223372036854775807", -math.MaxInt64, api.OK},
		{"9223372036854775808", 0, api.ErrRange}, {"-9223372036854775809", 0, api.ErrRange}, {"9999999999999999999", 0, api.ErrRange}, {"-9999999999999999999", 0, api.ErrRange},
		{"10000000000000000000", 0, api.ErrRange}, {"18446744073709551615", 0, api.ErrRange}, {"18446744073709551616", 0, api.ErrRange}, {"-18446744073709551617", 0, api.ErrRange},
		{"36893488147419103233", 0, api.ErrRange}, {"340282366920938463463374607431768211457", 0, api.ErrRange}, {nines, 0, api.ErrRange}, {"-" + nines, 0, api.ErrRange},
		{"1" + strings.Repeat("0", 99), 0, api.ErrRange}, {strings.Repeat("1", 70000), 0, api.ErrRange},

		{"", 0, api.ErrForm}, {"-", 0, api.ErrForm}, {"--1", 0, api.ErrForm}, {"-0", 0, api.ErrForm}, {"-00", 0, api.ErrForm}, {"-01", 0, api.ErrForm}, {"00", 0, api.ErrForm}, {"007", 0, api.ErrForm},
		{"+1", 0, api.ErrForm}, {"+0", 0, api.ErrForm}, {"1-", 0, api.ErrForm}, {"1_0", 0, api.ErrForm}, {"1.0", 0, api.ErrForm}, {"1e3", 0, api.ErrForm}, {"a", 0, api.ErrForm}, {"1a", 0, api.ErrForm}, {"f", 0, api.ErrForm},
		{"0x", 0, api.ErrForm}, {"0X1", 0, api.ErrForm}, {"0xA", 0, api.ErrForm}, {"0xF", 0, api.ErrForm}, {"0xg", 0, api.ErrForm}, {"0x`", 0, api.ErrForm}, {"0x/", 0, api.ErrForm}, {"0x:", 0, api.ErrForm}, {"0x123456789", 0, api.ErrForm}, {"0x000000001", 0, api.ErrForm}, {"0x0123456789abcdef1", 0, api.ErrForm},
		{"-0x1", 0, api.ErrForm}, {"0x-1", 0, api.ErrForm}, {"x1", 0, api.ErrForm}, {"1x1", 0, api.ErrForm}, {"00x1", 0, api.ErrForm}, {"0x0x1", 0, api.ErrForm}, {"0b1", 0, api.ErrForm}, {"0o7", 0, api.ErrForm}, {"0x1_0", 0, api.ErrForm},
		{" 1", 0, api.ErrForm}, {"1 ", 0, api.ErrForm}, {"\t1", 0, api.ErrForm}, {"1\n", 0, api.ErrForm}, {" 0x1", 0, api.ErrForm}, {"0x1 ", 0, api.ErrForm}, {"0x 1", 0, api.ErrForm}, {"- 1", 0, api.ErrForm}, {"1 2", 0, api.ErrForm}, {" ", 0, api.ErrForm}, {"1,", 0, api.ErrForm}, {"1\x00", 0, api.ErrForm},
		{"/", 0, api.ErrForm}, {":", 0, api.ErrForm}, {"1é", 0, api.ErrForm}, {"\x801", 0, api.ErrForm}, {"\u0663", 0, api.ErrForm}, {"\uff11", 0, api.ErrForm}, {"0x\uff41", 0, api.ErrForm}, {"\u22121", 0, api.ErrForm}, {"\u0131", 0, api.ErrForm},
		// The form is held ahead of the range.
		{nines + "x", 0, api.ErrForm}, {"0" + nines, 0, api.ErrForm}, {"-0" + nines, 0, api.ErrForm}, {nines + " ", 0, api.ErrForm}, {"9223372036854775808a", 0, api.ErrForm}, {"0x" + nines, 0, api.ErrForm},
	} {
		if n, e := Parse(k.s); n != k.n || e != k.e {
			t.Errorf("Parse(%q) = %d, %d, want %d, %d", k.s, n, e, k.n, k.e)
		}
	}
}

// parse is what the definition of a number's forms says, by patterns and numbers without bounds.
func parse(s string) (int64, api.Errno) {
	n := new(big.Int)
	switch {
	case regexp.MustCompile(`\A(0|-?[1-9][0-9]*)\z`).MatchString(s):
		n.SetString(s, 10)
	case regexp.MustCompile(`\A0x[0-9a-f]{1,8}\z`).MatchString(s):
		n.SetString(s[2:], 16)
	default:
		return 0, api.ErrForm
	}
	if !n.IsInt64() {
		return 0, api.ErrRange
	}
	return n.Int64(), api.OK
}

func TestParseShort(t *testing.T) { // NM2
	l := texts(3, "0", "1", "5", "9", "a", "c", "f", "g", "x", "X", "A", "F", "-", "+", " ", ".", "_", "\n", "é", "\x80", "\xff")
	for _, s := range texts(2, "0", "7", "a", "f", "g", "A", "x", "-", "12345", "0000000", "\xc3") {
		l = append(l, "0x"+s, "-"+s, "922337203685477580"+s, "-922337203685477580"+s)
	}
	for k := range 256 {
		b := string([]byte{byte(k)})
		l = append(l, b, "1"+b, b+"1", "0x"+b, "0x1"+b, "0x"+b+"1", "-"+b)
	}
	for _, s := range l {
		n, e := Parse(s)
		if want, bad := parse(s); n != want || e != bad {
			t.Fatalf("Parse(%q) = %d, %d, want %d, %d", s, n, e, want, bad)
		}
	}
}

func TestParseEdges(t *testing.T) { // NM2
	wide := new(big.Int).Lsh(big.NewInt(1), 64)
	for _, n := range numbers() {
		for _, by := range []int64{-3, -2, -1, 1, 2, 3} {
			// n + by * 2^64 has wrapped round to n if the range is not held.
			b := new(big.Int).Mul(wide, big.NewInt(by))
			s := b.Add(b, big.NewInt(n)).String()
			got, e := Parse(s)
			if want, bad := parse(s); got != want || e != bad {
				t.Fatalf("Parse(%q) = %d, %d, want %d, %d", s, got, e, want, bad)
			}
		}
	}
}

func TestWords(t *testing.T) { // NM3
	for _, k := range []struct {
		s    string
		want []string
	}{
		{"", nil}, {" ", nil}, {",", nil}, {"\t", nil}, {" ,\t, \t,,", nil},
		{"a", []string{"a"}}, {"add r1, r2", []string{"add", "r1", "r2"}}, {"a,b", []string{"a", "b"}}, {"a\tb", []string{"a", "b"}}, {"a b", []string{"a", "b"}},
		{" a", []string{"a"}}, {"a ", []string{"a"}}, {",a,", []string{"a"}}, {"\t,a b ,\t", []string{"a", "b"}}, {"a,, \tb", []string{"a", "b"}}, {"one  two", []string{"one", "two"}},
		{"b a b", []string{"b", "a", "b"}}, {"a;b:c(d)", []string{"a;b:c(d)"}},
		// All other bytes belong to words: other blanks, line feeds, 0, bytes that are no ASCII and no UTF-8.
		{"a\nb", []string{"a\nb"}}, {"\n", []string{"\n"}}, {"\r\v\f\x00", []string{"\r\v\f\x00"}}, {"é à", []string{"é", "à"}}, {"\xc3 \xa9", []string{"\xc3", "\xa9"}}, {"\xe2\x82,\xac", []string{"\xe2\x82", "\xac"}}, {"\xff\t\xfe\xfd", []string{"\xff", "\xfe\xfd"}},
		{"a\u00a0b", []string{"a\u00a0b"}}, {"a\u3000b\u2003c\u0085", []string{"a\u3000b\u2003c\u0085"}}, {"a\uff0cb", []string{"a\uff0cb"}}, {"\ufffd,\ufffd", []string{"\ufffd", "\ufffd"}}, {"\U0001f600 x", []string{"\U0001f600", "x"}}, {"\x7f\x80 \x80", []string{"\x7f\x80", "\x80"}},
		// The code points U+0120, U+0109 and U+012C end in the same bits as the separators.
		{"\u0120\u0109\u012c", []string{"\u0120\u0109\u012c"}},
	} {
		if got := Words(k.s); !slices.Equal(got, k.want) {
			t.Errorf("Words(%q) = %q, want %q", k.s, got, k.want)
		}
	}
}

// words goes through the bytes one by one.
func words(s string) []string {
	var l []string
	inside := false
	for k := 0; k < len(s); k++ {
		b := s[k]
		if b == 32 || b == 9 || b == 44 {
			inside = false
			continue
		}
		if !inside {
			l = append(l, "")
		}
		inside = true
		l[len(l)-1] += string([]byte{b})
	}
	return l
}

func TestWordsShort(t *testing.T) { // NM3
	l := texts(5, " ", "\t", ",", "a", "b", "\n", "é", "\xc3", "\xa9")
	for k := range 256 {
		b := string([]byte{byte(k)})
		l = append(l, b, "a"+b, b+"a", "a"+b+"b", b+b, " "+b+",")
	}
	for _, s := range l {
		if got, want := Words(s), words(s); !slices.Equal(got, want) {
			t.Fatalf("Words(%q) = %q, want %q", s, got, want)
		}
	}
}

func TestLines(t *testing.T) { // NM4
	for _, k := range []struct {
		s    string
		want []string
		e    api.Errno
	}{
		{"", nil, api.OK}, {"\n", []string{""}, api.OK}, {"\n\n", []string{"", ""}, api.OK}, {"a\n", []string{"a"}, api.OK},
		{"a\n\nb\n", []string{"a", "", "b"}, api.OK}, {"\na\n", []string{"", "a"}, api.OK}, {"a\n\n\n", []string{"a", "", ""}, api.OK}, {"b\na\nb\n", []string{"b", "a", "b"}, api.OK},
		{"\ta, b\t\n ~ \n", []string{"\ta, b\t", " ~ "}, api.OK}, {"one\ntwo\n", []string{"one", "two"}, api.OK}, {" \n\t\n", []string{" ", "\t"}, api.OK},
		// Without the last line feed.
		{"a", nil, api.ErrForm}, {"a\nb", nil, api.ErrForm}, {"\n ", nil, api.ErrForm}, {" ", nil, api.ErrForm}, {"a\n\t", nil, api.ErrForm},
		// A byte that is not allowed.
		{"a\x01\n", nil, api.ErrForm}, {"\x00\n", nil, api.ErrForm}, {"\x1f\n", nil, api.ErrForm}, {"\x7f\n", nil, api.ErrForm}, {"\x80\n", nil, api.ErrForm}, {"\xff\n", nil, api.ErrForm},
		{"a\r\n", nil, api.ErrForm}, {"\v\n", nil, api.ErrForm}, {"\f\n", nil, api.ErrForm}, {"é\n", nil, api.ErrForm}, {"\u0120\n", nil, api.ErrForm}, {"\u010a", nil, api.ErrForm}, {"ok\nok\n\b\nok\n", nil, api.ErrForm}, {"\x00", nil, api.ErrForm},
	} {
		if got, e := Lines(k.s); e != k.e || !slices.Equal(got, k.want) {
			t.Errorf("Lines(%q) = %q, %d, want %q, %d", k.s, got, e, k.want, k.e)
		}
	}
}

// lines cuts off one line after the other.
func lines(s string) ([]string, api.Errno) {
	if len(s) > 65536 || len(strings.Split(s, "\n"))-1 > 4096 {
		return nil, api.ErrLong
	}
	if s != "" && s[len(s)-1] != 10 {
		return nil, api.ErrForm
	}
	for _, b := range []byte(s) {
		if b != 9 && b != 10 && (b < 32 || b > 126) {
			return nil, api.ErrForm
		}
	}
	var l []string
	for s != "" {
		line, rest, _ := strings.Cut(s, "\n")
		l = append(l, line)
		s = rest
	}
	return l, api.OK
}

func TestLinesShort(t *testing.T) { // NM4
	l := texts(5, "\n", "a", "bc", " ", "\t", "~", "\x7f", "\x00", "é")
	for k := range 256 {
		b := string([]byte{byte(k)})
		l = append(l, b, b+"\n", "a"+b+"\n", b+"a\n", "\n"+b+"\n", "a\n"+b)
	}
	for _, s := range l {
		got, e := Lines(s)
		if want, bad := lines(s); e != bad || !slices.Equal(got, want) {
			t.Fatalf("Lines(%q) = %q, %d, want %q, %d", s, got, e, want, bad)
		}
	}
}

func TestLinesLong(t *testing.T) { // NM4
	long := strings.Repeat("x", api.MaxText-1)
	row := strings.Repeat("y", api.MaxText/api.MaxLines-1) + "\n"
	for name, k := range map[string]struct {
		s string
		e api.Errno
	}{
		"MaxText bytes":                             {long + "\n", api.OK},
		"one byte more":                             {long + "x\n", api.ErrLong},
		"MaxLines line feeds":                       {strings.Repeat("\n", api.MaxLines), api.OK},
		"one line feed more":                        {strings.Repeat("\n", api.MaxLines+1), api.ErrLong},
		"both limits":                               {strings.Repeat(row, api.MaxLines), api.OK},
		"both limits and a byte more":               {strings.Repeat(row, api.MaxLines-1) + "z" + row, api.ErrLong},
		"both limits and a line feed more":          {strings.Repeat(row, api.MaxLines) + "\n", api.ErrLong},
		"many lines of two bytes":                   {strings.Repeat("a\n", api.MaxLines), api.OK},
		"one line of two bytes more":                {strings.Repeat("a\n", api.MaxLines+1), api.ErrLong},
		"MaxText bytes without a last line feed":    {long + "x", api.ErrForm},
		"one more without a last line feed":         {long + "xx", api.ErrLong},
		"MaxLines line feeds and an unended line":   {strings.Repeat("\n", api.MaxLines) + "a", api.ErrForm},
		"a line feed more and an unended line":      {strings.Repeat("\n", api.MaxLines+1) + "a", api.ErrLong},
		"MaxText bytes, one not allowed":            {"\x00" + long[1:] + "\n", api.ErrForm},
		"one byte more, the first not allowed":      {"\x00" + long + "\n", api.ErrLong},
		"MaxLines line feeds, a byte not allowed":   {"\x7f" + strings.Repeat("\n", api.MaxLines), api.ErrForm},
		"a line feed more, a byte not allowed":      {"\x7f" + strings.Repeat("\n", api.MaxLines+1), api.ErrLong},
		"bytes are counted, and not runes":          {strings.Repeat("é", api.MaxText/2) + "\n", api.ErrLong},
		"no byte allowed, none too many":            {strings.Repeat("é", api.MaxText/2), api.ErrForm},
		"far too long, of everything":               {strings.Repeat("\x00\n", 1<<20) + "a", api.ErrLong},
		"lines of different lengths below MaxLines": {strings.Repeat("a\n\nbcd\n", 1000), api.OK},
	} {
		got, e := Lines(k.s)
		want, bad := lines(k.s)
		if e != k.e || e != bad || !slices.Equal(got, want) {
			t.Errorf("%s: Lines returned %d lines, %d, want %d, %d", name, len(got), e, len(want), k.e)
		}
	}
}

func TestNumbersAgain(t *testing.T) { // NM5
	for _, n := range numbers() {
		if got, e := Parse(Dec(n)); got != n || e != api.OK {
			t.Fatalf("Parse(Dec(%d)) = %d, %d", n, got, e)
		}
		u := uint32(n)
		if got, e := Parse("0x" + Hex(u)); got != int64(u) || e != api.OK {
			t.Fatalf("Parse(0x and Hex(%#x)) = %d, %d", u, got, e)
		}
	}
}

func TestWordsAgain(t *testing.T) { // NM5
	lists := [][]string{nil, {"a"}, {"add", "r1", "r2"}, {"é", "\xff", "a\nb", "\x00"}, {"a", "a", "a", "a"}, strings.Split(strings.Repeat("w.", 999)+"w", ".")}
	for _, gap := range texts(4, " ", "\t", ",")[1:] {
		for _, l := range lists {
			s := strings.Join(l, gap)
			for _, text := range []string{s, gap + s, s + gap, gap + s + gap} {
				if got := Words(text); !slices.Equal(got, l) {
					t.Fatalf("Words of %q joined with %q = %q", l, gap, got)
				}
			}
		}
	}
}

func TestLinesAgain(t *testing.T) { // NM5
	for _, l := range [][]string{nil, {""}, {"a"}, {"", ""}, {"a", "", "b"}, {"\t", " ", "~", ""}, strings.Split(strings.Repeat("line,", 999), ",")} {
		s := ""
		for _, line := range l {
			s += line + "\n"
		}
		if got, e := Lines(s); e != api.OK || !slices.Equal(got, l) {
			t.Errorf("Lines of %q ended with line feeds = %q, %d", l, got, e)
		}
	}
}

func TestResultsAreOnesOwn(t *testing.T) { // R3, R4
	s := "a,b c\n"
	first := Words(s)
	first[0] = "changed"
	if again := Words(s); !slices.Equal(again, []string{"a", "b", "c\n"}) {
		t.Errorf("Words after a change of an earlier answer: %q", again)
	}
	l, _ := Lines(s)
	l[0] = "changed"
	if again, _ := Lines(s); !slices.Equal(again, []string{"a,b c"}) {
		t.Errorf("Lines after a change of an earlier answer: %q", again)
	}
}
