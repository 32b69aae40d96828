package ratio_test

import (
	"strings"
	"testing"

	"gambrel/api"
	"gambrel/ratio"
)

func TestTexts(t *testing.T) {
	for _, c := range []struct {
		text string
		a    number
	}{
		{"0", of(0, 1)}, {"1", of(1, 1)}, {"-1", of(-1, 1)}, {"10", of(10, 1)},
		{"1/2", of(1, 2)}, {"-3/2", of(-3, 2)}, {"100/7", of(100, 7)}, {"7/100", of(7, 100)},
		{"1000000000", of(limit, 1)}, {"-1000000000", of(-limit, 1)},
		{"1/1000000000", of(1, limit)}, {"-999999999/1000000000", of(1-limit, limit)},
	} {
		if got, e := ratio.Text(c.a); got != c.text || e != api.OK {
			t.Error(c, got, e)
		}
		if got, e := ratio.Parse(c.text); got != c.a || e != api.OK {
			t.Error(c, got, e)
		}
	}
}

func TestParseRejectsOtherForms(t *testing.T) {
	for _, s := range []string{
		"", "-", "/", "-/", "/2", "-/2", "1/", "1/-", "a", "1a", "a1", "1/a", "1/2a", "0x1", "1e3", "1.0", "1_000", "NaN",
		"+1", "+1/2", "--1", "-+1", "1-", "1/-2", "1/+2", "-1/-2", "1/2/3", "1//2", "1/2/",
		" 1", "1 ", "1 /2", "1/ 2", "1\n", "\t1", "1\x00", "1/2\n",
		"-0", "00", "01", "-01", "0/1", "0/2", "-0/2", "0/0", "1/0", "1/00", "1/02", "01/2", "1/1", "2/1", "-5/1",
		"2/4", "6/3", "-10/15", "1000000000/1000000000",
		"1000000001", "-1000000001", "1/1000000001", "2000000000/2", "1/2000000000",
		"9223372036854775808", "-9223372036854775808", "18446744073709551616", "18446744073709551617", "1/18446744073709551618",
		"\u0661", "\uff11", "1\u20442", "1/\u0662", "\u22121", "\xff", "1\xff", "1/\xb2", "1/2\xc3",
		strings.Repeat("0", 5000) + "1", strings.Repeat("9", 5000), "1/" + strings.Repeat("9", 5000),
	} {
		if got, e := ratio.Parse(s); got != (number{}) || e != api.ErrForm {
			t.Errorf("%q %v %v", s, got, e)
		}
	}
}

// A text is parsed if and only if it is the text of a ratio: tried for all short strings over the bytes that texts have, and one that they have not.
func TestParseOfAllShortStrings(t *testing.T) {
	texts := map[string]number{}
	for num := int64(-9999); num <= 9999; num++ {
		for den := int64(1); den <= 99; den++ {
			a := of(num, den)
			if text, e := ratio.Text(a); e == api.OK {
				texts[text] = a
			}
		}
	}
	var walk func(s string)
	walk = func(s string) {
		want, is := texts[s]
		got, e := ratio.Parse(s)
		if is && (got != want || e != api.OK) || !is && (got != number{} || e != api.ErrForm) {
			t.Errorf("%q %v %v", s, got, e)
		}
		if len(s) < 4 {
			for _, next := range []string{"-", "/", "0", "1", "2", "4", ":"} {
				walk(s + next)
			}
		}
	}
	walk("")
}
