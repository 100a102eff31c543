package token_test

import (
	"strings"
	"testing"

	"parlour/api"
	"parlour/token"
)

// P6.1: texts with their tokens, as the chapter writes them.
func TestScan(t *testing.T) {
	for _, c := range [][2]string{
		{"a1 = 20;", "w a1 0, s = 3, n 20 5, s ; 7"},
		{"x<=1..2", "w x 0, s <= 1, n 1 3, s .. 4, n 2 6"},
		{"< =", "s < 0, s = 2"},
		{"a # b", "w a 0"},
		{"", ""},
		{" \t\n", ""},
		{"#", ""},
		{"#\n#", ""},
		{"# 1a ! \r\x00\xff", ""},
		{"#a\nb#c\n#d\n\ne", "w b 3, w e 11"},
		{"a#b#c\nd", "w a 0, w d 6"},
		{"1#2\na", "n 1 0, w a 4"},
		{"=#\n=", "s = 0, s = 3"},
		{"aZ_09z _ __ _1 A", "w aZ_09z 0, w _ 7, w __ 9, w _1 12, w A 15"},
		{"0 9 10 1000000000", "n 0 0, n 9 2, n 10 4, n 1000000000 7"},
		{"a1(b)2+3-x", "w a1 0, s ( 2, w b 3, s ) 4, n 2 5, s + 6, n 3 7, s - 8, w x 9"},
		{"-5", "s - 0, n 5 1"},
		{"===!=<==>>====....", "s == 0, s = 2, s != 3, s <= 5, s = 7, s > 8, s >= 9, s == 11, s = 13, s .. 14, s .. 16"},
		{"=<=>=", "s = 0, s <= 1, s >= 3"},
		{"1 a", "n 1 0, w a 2"},
		{"1\na\t2", "n 1 0, w a 2, n 2 4"},
		{"a1b2", "w a1b2 0"},
	} {
		if l, f := token.Scan(c[0]); f != (api.Fault{}) || show(l) != c[1] {
			t.Errorf("%q: %v %v, not %v", c[0], show(l), f, c[1])
		}
	}
}

// P6.1: each byte alone is white, a comment, a token, or a fault.
func TestBytes(t *testing.T) {
	letters := "ABCDEFGHIJKLMNOPQRSTUVWXYZabcdefghijklmnopqrstuvwxyz_"
	for b := range 256 {
		text := string([]byte{byte(b)})
		want := ""
		switch {
		case strings.Contains(letters, text):
			want = "w " + text + " 0"
		case strings.Contains("0123456789", text):
			want = "n " + text + " 0"
		case strings.Contains("{}():;,+-*/%<>=", text):
			want = "s " + text + " 0"
		case !strings.Contains(" \t\n#", text):
			faults(t, text, fault(api.ErrSyntax, 0))
			continue
		}
		if l, f := token.Scan(text); f != (api.Fault{}) || show(l) != want {
			t.Errorf("%q: %v %v, not %v", text, show(l), f, want)
		}
	}
}

// P6.1: each sign is one token, alone and between words and numbers.
func TestSigns(t *testing.T) {
	for _, s := range signs() {
		if l := scanned(t, s); show(l) != "s "+s+" 0" {
			t.Error(s, show(l))
		}
		if l := scanned(t, "a"+s+"1"); len(l) != 3 || l[1].Text != s || l[1].At != 1 || l[2].N != 1 {
			t.Error(s, show(l))
		}
	}
}

// P6.1: what begins no token.
func TestNoToken(t *testing.T) {
	for _, c := range []struct {
		text string
		at   int
	}{
		{"1a", 1}, {"1_", 1}, {"1Z9", 1}, {"12345z", 5}, {"a 0x1", 3}, {"1" + strings.Repeat("a", 41), 1},
		{"a . b", 2}, {".", 0}, {"...", 2}, {"1...2", 3}, {".1", 0}, {". .", 0}, {".#\n.", 0},
		{"a!", 1}, {"!", 0}, {"!!=", 0}, {"! =", 0}, {"a!=!", 3},
		{"\r\n", 0}, {"a\r", 1}, {"\v", 0}, {"\f", 0}, {"\x00", 0}, {"\x7f", 0}, {"a\x80", 1}, {"\xffa", 0}, {"é", 0}, {"aé", 1}, {"1²", 1},
		{"a & b", 2}, {"a|b", 1}, {"a[0]", 1}, {"x^2", 1}, {"\"a\"", 0}, {"'a'", 0}, {"a?", 1}, {"@", 0}, {"$a", 0}, {"`", 0}, {"~", 0}, {"\\", 0},
	} {
		faults(t, c.text, fault(api.ErrSyntax, c.at))
	}
}

// P6.1: words and numbers that are too long, too great or written in another way.
func TestTooMuch(t *testing.T) {
	a40 := strings.Repeat("a", 40)
	if l := scanned(t, a40+" "+strings.Repeat("_", 39)+"9"); len(l) != 2 || len(l[0].Text) != 40 || len(l[1].Text) != 40 || l[1].At != 41 {
		t.Error(show(l))
	}
	for text, want := range map[string]api.Fault{
		a40 + "a":                     fault(api.ErrLong, 0),
		a40 + "9":                     fault(api.ErrLong, 0),
		"x " + a40 + "_":              fault(api.ErrLong, 2),
		strings.Repeat("a", 20000):    fault(api.ErrLong, 0),
		"007":                         fault(api.ErrForm, 0),
		"00":                          fault(api.ErrForm, 0),
		"x=01":                        fault(api.ErrForm, 2),
		"0999999999999999999999":      fault(api.ErrForm, 0),
		strings.Repeat("0", 20000):    fault(api.ErrForm, 0),
		"1000000001":                  fault(api.ErrRange, 0),
		"x 9999999999":                fault(api.ErrRange, 2),
		"4294967297":                  fault(api.ErrRange, 0),
		"9223372036854775807":         fault(api.ErrRange, 0),
		"9223372036854775808":         fault(api.ErrRange, 0),
		"18446744073709551617":        fault(api.ErrRange, 0),
		"1" + strings.Repeat("0", 99): fault(api.ErrRange, 0),
	} {
		faults(t, text, want)
	}
}

// P6.1: the first fault from the left, whatever stands behind it.
func TestFirstFault(t *testing.T) {
	a41 := strings.Repeat("a", 41)
	for text, want := range map[string]api.Fault{
		"00a":              fault(api.ErrForm, 0),
		"1000000001a":      fault(api.ErrRange, 0),
		"1a 007":           fault(api.ErrSyntax, 1),
		"007 1a":           fault(api.ErrForm, 0),
		a41 + " !":         fault(api.ErrLong, 0),
		"! " + a41:         fault(api.ErrSyntax, 0),
		"1000000001 007":   fault(api.ErrRange, 0),
		"# 1a\n7 1b 007":   fault(api.ErrSyntax, 8),
		"a = 5; b = 05; !": fault(api.ErrForm, 11),
	} {
		faults(t, text, want)
	}
}

// P6.1: the length of the text comes first, whatever stands in it.
func TestLongTexts(t *testing.T) {
	for _, filling := range []string{" ", "#", "a", "0", "!", ";", "\x80", "\n"} {
		faults(t, strings.Repeat(filling, 20001), fault(api.ErrLong, 20000))
		faults(t, "1a "+strings.Repeat(filling, 30000), fault(api.ErrLong, 20000))
	}
	for _, text := range []string{strings.Repeat(" ", 20000), "#" + strings.Repeat("\xff", 19999)} {
		if l := scanned(t, text); len(l) != 0 {
			t.Error(show(l))
		}
	}
	if l := scanned(t, strings.Repeat(" ", 19999)+"a"); show(l) != "w a 19999" {
		t.Error(show(l))
	}
	faults(t, strings.Repeat(" ", 19999)+"!", fault(api.ErrSyntax, 19999))
}

// P6.1: the 5,001st token, if it is valid itself.
func TestManyTokens(t *testing.T) {
	full := strings.Repeat(";", 5000)
	for _, tail := range []string{"", " ", "#a", "\n# a\n \t"} {
		if l := scanned(t, full+tail); len(l) != 5000 || l[4999] != (api.Token{Kind: api.TokSign, Text: ";", At: 4999}) {
			t.Error(len(l))
		}
	}
	for tail, want := range map[string]api.Fault{
		";":                            fault(api.ErrFull, 5000),
		" \n#\n a":                     fault(api.ErrFull, 5005),
		"1a":                           fault(api.ErrFull, 5000),
		"; !":                          fault(api.ErrFull, 5000),
		"...":                          fault(api.ErrFull, 5000),
		"!":                            fault(api.ErrSyntax, 5000),
		".":                            fault(api.ErrSyntax, 5000),
		" 007":                         fault(api.ErrForm, 5001),
		"1000000001":                   fault(api.ErrRange, 5000),
		"\n" + strings.Repeat("a", 41): fault(api.ErrLong, 5001),
	} {
		faults(t, full+tail, want)
	}
	faults(t, full[1:]+"1a", fault(api.ErrSyntax, 5000))
	faults(t, "!"+full, fault(api.ErrSyntax, 0))
}

// P6.1: all texts of two bytes, and many others, are divided as the regular expressions say.
func TestReference(t *testing.T) {
	for i := range 1 << 16 {
		agrees(t, string([]byte{byte(i >> 8), byte(i)}))
	}
	texts(strings.Split("a_01 #\n<=!.;", ""), 4, func(text string) { agrees(t, text) })
	pieces := append(good(), "a", "1", "0", "9", "99999", "=", "<", "!", ".", "#", "\x80", "é", strings.Repeat("b", 20))
	random := source(6)
	for range 3000 {
		agrees(t, random.choose(pieces, 60))
		agrees(t, random.choose(good(), 60))
	}
}
