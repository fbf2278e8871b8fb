package tests

import (
	"math"
	"slices"
	"strconv"
	"strings"
	"testing"

	"loop.example/g01109/impl"
)

// textsOver returns all strings of at most most bytes of an alphabet, shorter ones first.
func textsOver(alphabet string, most int) []string {
	all := []string{""}
	last := all
	for range most {
		var next []string
		for _, s := range last {
			for i := range len(alphabet) {
				next = append(next, s+alphabet[i:i+1])
			}
		}
		all = append(all, next...)
		last = next
	}
	return all
}

// checkText compares a result of a string and a bool with the wanted one.
func checkText(t *testing.T, name string, got string, ok bool, want string, wantOK bool) {
	t.Helper()
	if got != want || ok != wantOK {
		t.Errorf("%s: got %.60q, %v, want %.60q, %v", name, got, ok, want, wantOK)
	}
}

func TestLimitsOfStrings(t *testing.T) {
	if impl.MaxString != 4000 || impl.MaxDecimal != 999999 {
		t.Error(impl.MaxString, impl.MaxDecimal)
	}
}

func TestFormatIntWritesDecimals(t *testing.T) {
	for n, want := range map[int]string{
		0: "0", 1: "1", -1: "-1", 9: "9", 10: "10", -12: "-12", 100: "100", 4070: "4070",
		999998: "999998", impl.MaxDecimal: "999999", -999998: "-999998", -impl.MaxDecimal: "-999999",
	} {
		got, ok := impl.FormatInt(n)
		checkText(t, strconv.Itoa(n), got, ok, want, true)
	}
}

func TestFormatIntFailsOutsideItsBounds(t *testing.T) {
	for _, n := range []int{
		impl.MaxDecimal + 1, -impl.MaxDecimal - 1, 1234567, -1234567, 1 << 32, -1 << 32, math.MaxInt, math.MinInt,
	} {
		got, ok := impl.FormatInt(n)
		checkText(t, strconv.Itoa(n), got, ok, "", false)
	}
}

func TestParseIntReadsAllThatFormatIntWrites(t *testing.T) {
	for n := -impl.MaxDecimal; n <= impl.MaxDecimal; n++ {
		s, ok := impl.FormatInt(n)
		if !ok || s != strconv.Itoa(n) {
			t.Fatal("written", n, s, ok)
		}
		if m, ok := impl.ParseInt(s); !ok || m != n {
			t.Fatal("read", s, m, ok)
		}
	}
}

func TestParseIntFailsForOtherStrings(t *testing.T) {
	for _, s := range []string{
		"", "-", "+", "+1", "+0", "-0", "-00", "00", "01", "007", "-01", "--1", "-+1", "1-", "1000000", "-1000000",
		"0999999", " 1", "1 ", "1\n", "\x001", "1\x00", "1x", "x", "1_000", "0x1", "0b1", "0o7", "1e3", "1.0", "1,0",
		"9223372036854775807", "-9223372036854775808", "9223372036854775808", "18446744073709551617",
		"99999999999999999999999", "\u0663", "\uff11", "\xff", strings.Repeat("0", 5000), strings.Repeat("9", 5000),
		strings.Repeat("0", 4000) + "1",
	} {
		if n, ok := impl.ParseInt(s); ok || n != 0 {
			t.Errorf("%.30q: %d %v", s, n, ok)
		}
	}
}

func TestParseIntOfAllShortStrings(t *testing.T) {
	numbers := map[string]int{}
	for n := -9999; n <= 9999; n++ {
		numbers[strconv.Itoa(n)] = n
	}
	for _, s := range textsOver("-+0189 x", 4) {
		want, written := numbers[s]
		if n, ok := impl.ParseInt(s); n != want || ok != written {
			t.Errorf("%q: %d %v", s, n, ok)
		}
	}
}

func TestSplitStringAtEachSeparator(t *testing.T) {
	for _, c := range []struct {
		s, sep string
		want   []string
	}{
		{"a,,b", ",", []string{"a", "", "b"}},
		{"", ",", []string{""}},
		{",", ",", []string{"", ""}},
		{",,", ",", []string{"", "", ""}},
		{"abc", ",", []string{"abc"}},
		{",a", ",", []string{"", "a"}},
		{"a,", ",", []string{"a", ""}},
		{"a b;c d", ";", []string{"a b", "c d"}},
		{"a;b,c", ",", []string{"a;b", "c"}},
		{"aXbxc", "x", []string{"aXb", "c"}},
		{" a  b ", " ", []string{"", "a", "", "b", ""}},
		{"a\x00b", "\x00", []string{"a", "b"}},
		{"a\nb\r\n", "\n", []string{"a", "b\r", ""}},
		{"a\xffb\xff", "\xff", []string{"a", "b", ""}},
		{"\xc3\xa9", "\xc3", []string{"", "\xa9"}},
		{"\xc3\xa9", "\xa9", []string{"\xc3", ""}},
		{"\x80,\xfe", ",", []string{"\x80", "\xfe"}},
	} {
		if got, ok := impl.SplitString(c.s, c.sep); !ok || !slices.Equal(got, c.want) {
			t.Errorf("%q at %q: %q %v", c.s, c.sep, got, ok)
		}
	}
}

func TestSplitStringFailsForOtherSeparators(t *testing.T) {
	for _, sep := range []string{"", ",,", ", ", "\u00e9", "ab", strings.Repeat(",", 5000)} {
		for _, s := range []string{"", "a", "a,,b", "ab", "\u00e9", strings.Repeat(",", 5000)} {
			if got, ok := impl.SplitString(s, sep); ok || len(got) != 0 {
				t.Errorf("%.30q at %.30q: %d %v", s, sep, len(got), ok)
			}
		}
	}
}

func TestSplitStringAtItsLimit(t *testing.T) {
	for _, s := range []string{
		strings.Repeat("a", impl.MaxString), strings.Repeat(",", impl.MaxString),
		strings.Repeat("a,", impl.MaxString/2), strings.Repeat("\xff", impl.MaxString),
	} {
		if got, ok := impl.SplitString(s, ","); !ok || !slices.Equal(got, strings.Split(s, ",")) {
			t.Errorf("%.30q: %d %v", s, len(got), ok)
		}
		if got, ok := impl.SplitString(s+"a", ","); ok || len(got) != 0 {
			t.Errorf("%.30q and one more: %d %v", s, len(got), ok)
		}
		if got, ok := impl.SplitString(s+",", ","); ok || len(got) != 0 {
			t.Errorf("%.30q and a separator more: %d %v", s, len(got), ok)
		}
	}
	// The limit counts bytes: two of them for each of these characters.
	if got, ok := impl.SplitString(strings.Repeat("\u00e9", impl.MaxString/2+1), ","); ok || len(got) != 0 {
		t.Error("characters", len(got), ok)
	}
}

func TestJoinStringsWithSeparators(t *testing.T) {
	for _, c := range []struct {
		parts     []string
		sep, want string
	}{
		{[]string{"a", "", "b"}, ";", "a;;b"},
		{[]string{""}, ";", ""},
		{[]string{"", ""}, ";", ";"},
		{[]string{"abc"}, ";", "abc"},
		{[]string{"a,b", "c"}, ";", "a,b;c"},
		{[]string{"1", "2", "3"}, " ", "1 2 3"},
		{[]string{"a", "b"}, "\x00", "a\x00b"},
		{[]string{"\x80", "\xfe"}, "\xff", "\x80\xff\xfe"},
		{[]string{"", "\xa9"}, "\xc3", "\xc3\xa9"},
	} {
		got, ok := impl.JoinStrings(c.parts, c.sep)
		checkText(t, c.want, got, ok, c.want, true)
	}
}

func TestJoinStringsFails(t *testing.T) {
	for _, c := range []struct {
		name  string
		parts []string
		sep   string
	}{
		{"nil", nil, ";"},
		{"empty list", []string{}, ";"},
		{"no separator", []string{"a", "b"}, ""},
		{"no separator, one element", []string{"a"}, ""},
		{"two bytes", []string{"a", "b"}, ";;"},
		{"two bytes, one element", []string{"a"}, ", "},
		{"a character of two bytes", []string{"a", "b"}, "\u00e9"},
		{"only the separator", []string{";"}, ";"},
		{"separator in one element", []string{"a;b"}, ";"},
		{"separator in the first element", []string{";a", "b"}, ";"},
		{"separator in the middle element", []string{"a", "b;c", "d"}, ";"},
		{"separator at the end of the last element", []string{"a", "b;"}, ";"},
		{"separator is a byte of a character", []string{"a", "\u00e9"}, "\xa9"},
		{"separator is NUL", []string{"a\x00", "b"}, "\x00"},
	} {
		got, ok := impl.JoinStrings(c.parts, c.sep)
		checkText(t, c.name, got, ok, "", false)
	}
}

func TestJoinStringsAtItsLimit(t *testing.T) {
	half := strings.Repeat("a", impl.MaxString/2)
	for _, parts := range [][]string{
		{half + half},
		{half, half[1:]},
		{half + half[1:], ""},
		{"", half + half[1:]},
		{half, "", half[2:]},
		make([]string, impl.MaxString+1),
	} {
		got, ok := impl.JoinStrings(parts, ",")
		checkText(t, "at the limit", got, ok, strings.Join(parts, ","), true)
		if len(got) != impl.MaxString {
			t.Error("length", len(got))
		}
		got, ok = impl.JoinStrings(append(slices.Clone(parts), ""), ",")
		checkText(t, "an element more", got, ok, "", false)
		longer := slices.Clone(parts)
		longer[len(longer)-1] += "b"
		got, ok = impl.JoinStrings(longer, ",")
		checkText(t, "a byte more", got, ok, "", false)
		longer = slices.Clone(parts)
		longer[0] += "b"
		got, ok = impl.JoinStrings(longer, ",")
		checkText(t, "a byte more in front", got, ok, "", false)
	}
	for _, parts := range [][]string{
		{strings.Repeat("a", impl.MaxString+1)}, {strings.Repeat("a", 1<<20)},
		make([]string, impl.MaxString+2), make([]string, 1<<20),
	} {
		got, ok := impl.JoinStrings(parts, ",")
		checkText(t, "too long", got, ok, "", false)
	}
}

func TestSplittingAndJoiningRoundTrip(t *testing.T) {
	for _, sep := range []string{",", "\xff", "a", "z"} {
		for _, s := range textsOver("a,\xff", 6) {
			parts, ok := impl.SplitString(s, sep)
			if !ok || len(parts) != strings.Count(s, sep)+1 {
				t.Fatalf("%q at %q: %q", s, sep, parts)
			}
			got, ok := impl.JoinStrings(parts, sep)
			checkText(t, "joined again", got, ok, s, true)
		}
	}
	elements := textsOver("a;\x80", 2)
	for _, a := range elements {
		for _, b := range elements {
			for _, c := range elements {
				parts := []string{a, b, c}
				joined, ok := impl.JoinStrings(parts, ",")
				again, fine := impl.SplitString(joined, ",")
				if !ok || !fine || !slices.Equal(again, parts) {
					t.Fatalf("%q: %q %q", parts, joined, again)
				}
			}
		}
	}
}

// comesFirst is LessString by its description, byte by byte.
func comesFirst(a string, b string) bool {
	for i := range min(len(a), len(b)) {
		if a[i] != b[i] {
			return a[i] < b[i]
		}
	}
	return len(a) < len(b)
}

func TestLessStringByBytes(t *testing.T) {
	for _, c := range [][2]string{
		{"a", "ab"}, {"", "a"}, {"", "\x00"}, {"a", "b"}, {"ab", "b"}, {"B", "a"}, {"10", "9"}, {"a", "a\x00"},
		{"z", "\x80"}, {"\x7f", "\xff"}, {"\xc3\xa9", "\xe2"}, {"\uffff", "\U00010000"}, {"a" + strings.Repeat("z", 5000), "b"},
		{strings.Repeat("a", 5000), strings.Repeat("a", 5001)},
	} {
		if !impl.LessString(c[0], c[1]) || impl.LessString(c[1], c[0]) || impl.LessString(c[0], c[0]) {
			t.Errorf("%.30q %.30q", c[0], c[1])
		}
	}
	texts := textsOver("\x00a\x7f\x80\xff", 3)
	for _, a := range texts {
		for _, b := range texts {
			if impl.LessString(a, b) != comesFirst(a, b) {
				t.Fatalf("%q %q", a, b)
			}
		}
	}
}

func TestChecksumOfStrings(t *testing.T) {
	every := make([]byte, 256)
	for i := range every {
		every[i] = byte(i)
	}
	for s, want := range map[string]int{
		"": 7, "\x00": 288, "a": 385, "\xff": 543, "ab": 15884, "ba": 15924, "\xc3\xa9": 19973,
		"zzz": 694376, "zzzz": 470127, "hello, world": 588687, string(every): 750103,
		strings.Repeat("a", impl.MaxString): 237246, strings.Repeat("\xff", impl.MaxString): 55992,
	} {
		if n, ok := impl.Checksum(s); !ok || n != want {
			t.Errorf("%.30q: %d %v, want %d", s, n, ok, want)
		}
	}
}

func TestChecksumFailsForLongStrings(t *testing.T) {
	for _, s := range []string{
		strings.Repeat("a", impl.MaxString+1), strings.Repeat("\x00", impl.MaxString+1),
		strings.Repeat("\u00e9", impl.MaxString/2+1), strings.Repeat("a", 1<<20),
	} {
		if n, ok := impl.Checksum(s); ok || n != 0 {
			t.Error(len(s), n, ok)
		}
	}
}

func TestAppendChecksumBehindItsMark(t *testing.T) {
	for s, want := range map[string]string{
		"a": "a#385", "": "#7", "\xff": "\xff#543", "\x00": "\x00#288", "ab": "ab#15884", "zzz": "zzz#694376",
		"hello, world": "hello, world#588687", "\xc3\xa9": "\xc3\xa9#19973",
	} {
		got, ok := impl.AppendChecksum(s)
		checkText(t, s, got, ok, want, true)
	}
}

func TestAppendChecksumFailsForItsMark(t *testing.T) {
	for _, s := range []string{"#", "##", "a#", "#a", "a#b", "a#385", "\xff#", strings.Repeat("a", 3000) + "#"} {
		got, ok := impl.AppendChecksum(s)
		checkText(t, s, got, ok, "", false)
	}
}

func TestSealedStringsAtTheLimit(t *testing.T) {
	sealedLengths := map[int]bool{}
	for n := impl.MaxString - 12; n <= impl.MaxString+1; n++ {
		for _, last := range textsOver("ab\xff", 2) {
			s := strings.Repeat("a", n-len(last)) + last
			sum, fine := impl.Checksum(s)
			want := s + "#" + strconv.Itoa(sum)
			fits := fine && len(want) <= impl.MaxString
			sealedLengths[len(want)] = true
			got, ok := impl.AppendChecksum(s)
			opened, open := impl.VerifyChecksum(want)
			if fits {
				checkText(t, "sealed", got, ok, want, true)
				checkText(t, "opened", opened, open, s, true)
			} else {
				checkText(t, "too long to seal", got, ok, "", false)
				checkText(t, "too long to open", opened, open, "", false)
			}
		}
	}
	if !sealedLengths[impl.MaxString] || !sealedLengths[impl.MaxString+1] {
		t.Error("the limit is not met", sealedLengths)
	}
	got, ok := impl.AppendChecksum(strings.Repeat("a", 1<<20))
	checkText(t, "much too long to seal", got, ok, "", false)
}

func TestVerifyChecksumOpensEachSealedString(t *testing.T) {
	for _, s := range append(textsOver("a0\x00\xff", 5), "hello, world", "a,b;c", strings.Repeat("\u00e9", 1900)) {
		sealed, ok := impl.AppendChecksum(s)
		if !ok {
			t.Fatalf("not sealed: %.30q", s)
		}
		got, ok := impl.VerifyChecksum(sealed)
		checkText(t, sealed, got, ok, s, true)
	}
}

func TestVerifyChecksumFailsForOtherStrings(t *testing.T) {
	for _, s := range []string{
		"", "a", "#", "##", "7", "#07", "#-7", "#+7", "#7 ", "#8", "#7#7", "##7", "a#", "a#384", "a#386", "b#385", "a385",
		"a#0385", "a#+385", "a#-385", "a#385 ", "a# 385", "a#385#", "a#385#1", "a#385#385", "#a#385", "#385", "A#385",
		"a#1000364", "a#385\x00", "a#0x181", " a#385", "a##385", "a#385a#385",
		strings.Repeat("a", impl.MaxString) + "#237246", strings.Repeat("#", impl.MaxString), strings.Repeat("a", 1<<20),
		strings.Repeat("#", 1<<20),
	} {
		got, ok := impl.VerifyChecksum(s)
		checkText(t, s, got, ok, "", false)
	}
	// The right checksum of a text that has the mark: AppendChecksum never writes it.
	for _, s := range []string{"#", "a#", "#a", "a#b", "a#385"} {
		sum, _ := impl.Checksum(s)
		got, ok := impl.VerifyChecksum(s + "#" + strconv.Itoa(sum))
		checkText(t, s, got, ok, "", false)
	}
}

// checkChanges changes the byte at each place by each of the differences.
func checkChanges(t *testing.T, sealed string, differences []byte) {
	t.Helper()
	changed := []byte(sealed)
	for i := range changed {
		for _, d := range differences {
			changed[i] += d
			if got, ok := impl.VerifyChecksum(string(changed)); ok || got != "" {
				t.Fatalf("%.60q: byte %d is %d", sealed, i, changed[i])
			}
			changed[i] -= d
		}
	}
}

func TestEveryChangedByteIsDetected(t *testing.T) {
	var all []byte
	for d := 1; d < 256; d++ {
		all = append(all, byte(d))
	}
	for _, s := range []string{
		"", "a", "ab", "0", "385", "\xff", "\x00\x00", "hello, world", "a,b;c|d", "\xc3\xa9\xe2\x82\xac",
		strings.Repeat("z", 100), "add 1 2\nok",
	} {
		sealed, ok := impl.AppendChecksum(s)
		if !ok {
			t.Fatalf("not sealed: %q", s)
		}
		checkChanges(t, sealed, all)
	}
	for _, s := range []string{strings.Repeat("a", impl.MaxString-7), strings.Repeat("ab\xff", 1300)} {
		sealed, ok := impl.AppendChecksum(s)
		if !ok {
			t.Fatalf("not sealed: %.30q", s)
		}
		checkChanges(t, sealed, []byte{1, 128, 255})
	}
}

func TestStringsLeaveTheirArgumentsAlone(t *testing.T) {
	whole := []string{"a", "", "b", "rest"}
	if s, ok := impl.JoinStrings(whole[:3], ","); !ok || s != "a,,b" {
		t.Error(s, ok)
	}
	impl.JoinStrings(whole[:3], "")
	impl.JoinStrings(whole, "e")
	if !slices.Equal(whole, []string{"a", "", "b", "rest"}) {
		t.Error("changed", whole)
	}
	first, _ := impl.SplitString("a,b,c", ",")
	second, _ := impl.SplitString("a,b,c", ",")
	first[0] = "x"
	first = append(first[:1], "y")
	if !slices.Equal(second, []string{"a", "b", "c"}) {
		t.Error("shared", first, second)
	}
}

func TestStringsReturnForAllArguments(t *testing.T) {
	texts := append(textsOver("-0#,\x00\xff", 3), strings.Repeat("#", 5000), strings.Repeat("9", 5000), strings.Repeat("\xff", 1<<20))
	for _, a := range texts {
		for _, n := range []int{len(a), -len(a), math.MinInt, math.MaxInt} {
			if s, ok := impl.FormatInt(n); !ok && s != "" {
				t.Fatal(n, s)
			}
		}
		if n, ok := impl.ParseInt(a); !ok && n != 0 {
			t.Fatalf("%.30q: %d", a, n)
		}
		if n, ok := impl.Checksum(a); !ok && n != 0 {
			t.Fatalf("%.30q: %d", a, n)
		}
		sealed, sealable := impl.AppendChecksum(a)
		opened, open := impl.VerifyChecksum(a)
		if !sealable && sealed != "" || !open && opened != "" {
			t.Fatalf("%.30q: %.30q %.30q", a, sealed, opened)
		}
		for _, b := range texts[:50] {
			parts, split := impl.SplitString(a, b)
			joined, done := impl.JoinStrings([]string{a, b}, b)
			if !split && len(parts) != 0 || !done && joined != "" || impl.LessString(a, b) && impl.LessString(b, a) {
				t.Fatalf("%.30q %.30q", a, b)
			}
		}
	}
}
