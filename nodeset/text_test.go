package nodeset_test

import (
	"regexp"
	"strconv"
	"strings"
	"testing"

	"muster/api"
	"muster/nodeset"
)

// textOf is the text of a set, told by growing runs node by node.
func textOf(s api.Set) string {
	type run struct{ first, last int }
	var runs []run
	for _, n := range listOf(members(s)) {
		if len(runs) > 0 && runs[len(runs)-1].last == n-1 {
			runs[len(runs)-1].last = n
			continue
		}
		runs = append(runs, run{n, n})
	}
	if len(runs) == 0 {
		return "none"
	}
	text := ""
	for i, r := range runs {
		if i > 0 {
			text += ","
		}
		text += strconv.Itoa(r.first)
		if r.last > r.first {
			text += "-" + strconv.Itoa(r.last)
		}
	}
	return text
}

var piece = regexp.MustCompile(`^(0|[1-9][0-9]?)(?:-([1-9][0-9]?))?$`)

// readAs is what a text says, by the chapter's grammar, piece by piece: each behind a gap, each run rising.
func readAs(text string) (api.Set, api.Errno) {
	if text == "none" {
		return 0, api.OK
	}
	var m [nodes]bool
	behind := -2
	for _, p := range strings.Split(text, ",") {
		parts := piece.FindStringSubmatch(p)
		if parts == nil {
			return 0, api.ErrSyntax
		}
		first, _ := strconv.Atoi(parts[1])
		last := first
		if parts[2] != "" {
			last, _ = strconv.Atoi(parts[2])
			if last <= first {
				return 0, api.ErrSyntax
			}
		}
		if first < behind+2 || last >= nodes {
			return 0, api.ErrSyntax
		}
		for n := first; n <= last; n++ {
			m[n] = true
		}
		behind = last
	}
	return setOf(m), api.OK
}

// rightTexts are sets and their texts, each told.
func rightTexts() map[string]api.Set {
	return map[string]api.Set{
		"none":            0,
		"0":               1,
		"1":               2,
		"9":               1 << 9,
		"10":              1 << 10,
		"30":              1 << 30,
		"31":              top,
		"0-1":             3,
		"0-2":             7,
		"1-2":             6,
		"1-3":             14,
		"30-31":           0xc0000000,
		"29-31":           0xe0000000,
		"29-30":           0x60000000,
		"0-30":            all ^ top,
		"1-31":            all ^ lowest,
		"1-30":            all ^ top ^ lowest,
		"0-31":            all,
		"0,31":            top | lowest,
		"0-1,30-31":       0xc0000003,
		"0-2,29-31":       0xe0000007,
		"0-2,5":           0x27,
		"0,2,4":           21,
		"0,2":             5,
		"0-1,3-4":         27,
		"0-1,3":           11,
		"0,2-3":           13,
		"0,2-4":           29,
		"0-2,4-6,8-10":    0x777,
		"9-10":            0x600,
		"9,11":            0xa00,
		"8-11":            0xf00,
		"0-15,17-31":      all ^ 1<<16,
		"0-9,11-19,21-31": all ^ 1<<10 ^ 1<<20,
		"0,2,4,6,8,10,12,14,16,18,20,22,24,26,28,30":      0x55555555,
		"1,3,5,7,9,11,13,15,17,19,21,23,25,27,29,31":      0xaaaaaaaa,
		"0,2-3,5-6,8-9,11-12,14-15,17-18,20-21,23-24,26":  0x05b6db6d,
		"0-1,4-5,8-9,12-13,16-17,20-21,24-25,28-29":       0x33333333,
		"2-3,6-7,10-11,14-15,18-19,22-23,26-27,30-31":     0xcccccccc,
		"0-1,3-4,6-7,9-10,12-13,15-16,18-19,21-22,24-25":  0x036db6db,
		"1-2,4-5,7-8,10-11,13-14,16-17,19-20,22-23,25-26": 0x06db6db6,
		"0-2,4-6,8-10,12-14,16-18,20-22,24-26,28-30":      0x77777777,
		"1-3,5-7,9-11,13-15,17-19,21-23,25-27,29-31":      0xeeeeeeee,
		"0,5,10,15,20,25,30":                              0x42108421,
		"3,7,11,15,19,23,27,31":                           0x88888888,
		"0-3,8-11,16-19,24-27":                            0x0f0f0f0f,
		"4-7,12-15,20-23,28-31":                           0xf0f0f0f0,
		"16-31":                                           0xffff0000,
		"0-15":                                            0x0000ffff,
		"8-15,24-31":                                      0xff00ff00,
		"10-19":                                           0xffc00,
		"20-29":                                           0x3ff00000,
		"2,4-9,11,13-14,16,18-20,22,24,26-27,29,31":       0xad5d6bf4,
		"1,4-6,9,11-13,15":                                0xba72,
	}
}

// P10.3: Print and Parse, of runs of one, two and three nodes, at both ends and side by side, of none and of all.
func TestTexts(t *testing.T) {
	for text, s := range rightTexts() {
		if textOf(s) != text {
			t.Errorf("the test is wrong: %#x is %s, not %s", s, textOf(s), text)
		}
		for range 2 {
			if got := nodeset.Print(s); got != text {
				t.Errorf("Print(%#x) = %q, not %q", s, got, text)
			}
			if got, e := nodeset.Parse(text); got != s || e != api.OK {
				t.Errorf("Parse(%q) = %#x, %d, not %#x", text, got, e, s)
			}
		}
	}
}

// P10.3: the texts of all sets of ten nodes at both ends and in the middle, of all single runs, and of many more.
func TestPrintMany(t *testing.T) {
	for _, s := range manySets() {
		if got := nodeset.Print(s); got != textOf(s) {
			t.Fatalf("Print(%#x) = %q, not %q", s, got, textOf(s))
		}
	}
}

// wrongTexts say no set, by what is wrong with them.
func wrongTexts() map[string][]string {
	long := strings.Repeat("9", 100000)
	return map[string][]string{
		"nothing, or blanks":        {"", " ", "\t", "\n", "\x00"},
		"commas alone":              {",", ",,", ",-,"},
		"a - alone":                 {"-", "--", "-,-"},
		"a comma ahead":             {",0", ",0-2", ",none", ",31"},
		"a comma behind":            {"0,", "0-2,", "none,", "31,", "0-31,"},
		"two commas":                {"0,,2", "0-1,,3", "0,,", ",,0"},
		"a - with nothing behind":   {"0-", "0-,2", "0,2-", "31-", "0-1-"},
		"a - with nothing ahead":    {"-0", "-1", "-31", "0,-2", "-1-2", "-,0"},
		"two -":                     {"0--1", "0-1-2", "0-2-", "0--", "1-2-3-4"},
		"a run of one as a run":     {"0-0", "2-2", "31-31", "0,2-2", "2-2,4", "0-0,2"},
		"a run of two as two":       {"0,1", "1,2", "30,31", "0,1,3", "0,2,3", "9,10"},
		"a run of three in parts":   {"0,1,2", "0-1,2", "0,1-2", "29,30-31", "29-30,31", "0-0,1-2"},
		"runs that touch":           {"0-1,2-3", "0-15,16-31", "0-2,3", "0,1-31", "0-30,31"},
		"runs that overlap":         {"0-2,2-4", "0-4,2", "0-4,1-3", "0-31,5", "5,0-31", "0-2,1-3"},
		"a node twice":              {"0,0", "5,5", "31,31", "0-2,0-2", "0-31,0-31", "0,2,0", "0,2,2"},
		"runs that fall":            {"1,0", "2,0", "31,0", "5,0-2", "3-4,0-1", "0,4,2", "2,4,0"},
		"a run from high to low":    {"3-1", "1-0", "31-0", "0,3-2", "3-1,5", "0,9-5,20"},
		"noughts ahead":             {"00", "01", "000", "007", "031", "0,02", "00-2", "0-02", "0-031", "00-01", "0000000000000000000000000001", strings.Repeat("0", 100000), strings.Repeat("0", 100000) + "5"},
		"signs":                     {"+0", "+1", "-0", "+31", "0-+2", "0,+2", "+0-2", "0+", "0+2"},
		"blanks":                    {" 0", "0 ", "0, 2", "0 ,2", "0 -2", "0- 2", "0-2 ", " none", "none ", "0\n", "0\t", "\r0", "1 2", "0\u00a0", "\u00a00", "0\u2003"},
		"above 31":                  {"32", "33", "0-32", "31-32", "32-33", "30-33", "40", "63", "64", "99", "100", "128", "255", "256", "0,32", "32,0", "31,33", "99-0", "0-99"},
		"very many digits":          {"310", "1000", "65536", "4294967295", "4294967296", "4294967297", "0-4294967298", "4294967301", "9223372036854775807", "9223372036854775808", "18446744073709551615", "18446744073709551616", "18446744073709551617", "18446744073709551621", "0-18446744073709551618", "340282366920938463463374607431768211456", "340282366920938463463374607431768211461", long, "0-" + long, long + "-1", "0," + long, "1" + strings.Repeat("0", 64), "1" + strings.Repeat("0", 100000)},
		"none with something":       {"none,0", "0,none", "none,none", "nonenone", "none-0", "0-none", "none0", "0none", "none-", "-none", "none,1-2", "1-2,none"},
		"none in other letters":     {"None", "NONE", "nonE", "n0ne", "no", "non", "nonee", "nnone", "one", "nοne", "ｎｏｎｅ", "nil", "all", "no ne"},
		"no digits":                 {"a", "0a", "a0", "0-a", "a-0", "0,a", "0x1", "0b1", "1e1", "1_0", "1.0", "0.5", "1/2", "0:2", "0;2", "0..2", "0–2", "0−2", "[0-2]", "(0)", "\"0\"", "/", ":", "0/", "0:", "*"},
		"digits of other alphabets": {"٣", "０", "１-２", "0-２", "0，2", "৩", "²", "①", "0،2", "𝟎"},
		"bytes that are no runes":   {"\xff", "\x80", "0\xff", "\xff0", "0-\xff", "0,\xff", "0-2\xff", "0\xff2", "\xc0\xb0", "\xe0\x80\xb0", "0\xc0\xad2", "0\xc0\xac2", "none\xff", "\xffnone", "\xed\xa0\x80", "\xf4\x90\x80\x80", "\xc2", "1\xe2\x88", "\xef\xbf\xbd", "0\xef\xbf\xbd"},
		"much of what is right":     {strings.Repeat("0,", 100000) + "0", strings.Repeat("0-1,", 10000), "0" + strings.Repeat(",2", 1000), strings.Repeat("none", 1000), strings.Repeat("0-", 10000) + "1"},
		"what wraps round":          {"4294967296-4294967297", "18446744073709551616-18446744073709551617", "-4294967296", "-18446744073709551615", "34359738368"},
		"something behind a set":    {"0-2,5x", "0-2,5,", "0-2,5 ", "0-2,5-", "0-2,5\x00", "31\x00", "0-31\n", "0-2,5#"},
		"a list in other clothes":   {"{0}", "0|2", "0 2", "0+2", "0&2", "node0", "n0", "0-2/2", "0-10:2", "~0", "!0", "0x1f", "#0"},
	}
}

// P10.3: Parse, of texts that say a set in another way, or none.
func TestWrongTexts(t *testing.T) {
	for what, texts := range wrongTexts() {
		for _, text := range texts {
			if s, e := nodeset.Parse(text); s != 0 || e != api.ErrSyntax {
				t.Errorf("%s: Parse(%.40q) = %#x, %d", what, text, s, e)
			}
		}
	}
}

// tellSame asks Parse, and the chapter's grammar, for one text.
func tellSame(t *testing.T, text string) {
	want, err := readAs(text)
	if s, e := nodeset.Parse(text); s != want || e != err {
		t.Fatalf("Parse(%q) = %#x, %d, not %#x, %d", text, s, e, want, err)
	}
}

// P10.3: Parse, of all texts of up to six signs that can begin a set's text, and of all of up to three bytes out of most that there are.
func TestParseAllShortTexts(t *testing.T) {
	var grow func(text, signs string, most int)
	grow = func(text, signs string, most int) {
		tellSame(t, text)
		for i := 0; most > 0 && i < len(signs); i++ {
			grow(text+signs[i:i+1], signs, most-1)
		}
	}
	grow("", "0123,-", 6)
	grow("", "029,-", 7)
	grow("", "none,", 6)
	grow("", "0123456789,-+ \x00\x7f\x80\xff./:;anoe_N\t\n\xc2\xb2", 3)
}

// P10.3: Parse, of the texts of sets in which one byte is left out, put in, or another one.
func TestParseNearRightTexts(t *testing.T) {
	bytes := "0123456789,-+ \x00\xffn"
	for text := range rightTexts() {
		for i := range len(text) + 1 {
			tellSame(t, text[:i])
			tellSame(t, text[i:])
			for _, b := range []byte(bytes) {
				tellSame(t, text[:i]+string([]byte{b})+text[i:])
			}
			if i == len(text) {
				continue
			}
			tellSame(t, text[:i]+text[i+1:])
			for b := range 256 {
				tellSame(t, text[:i]+string([]byte{byte(b)})+text[i+1:])
			}
		}
	}
}

// P10.3: Parse, of lists of runs that look like chance: rising, falling, touching, with gaps.
func TestParseAnyRuns(t *testing.T) {
	d := dice(3)
	right := 0
	for range 50000 {
		var pieces []string
		at := d.below(3)
		for range 1 + d.below(4) {
			long := d.below(4)
			p := strconv.Itoa(at)
			if long > 0 || d.below(20) == 0 {
				p += "-" + strconv.Itoa(at+long)
			}
			pieces = append(pieces, p)
			at += long + 2 + d.below(6)
			if d.below(8) == 0 {
				at = d.below(34)
			}
			if d.below(12) == 0 {
				at--
			}
		}
		text := strings.Join(pieces, ",")
		if _, e := readAs(text); e == api.OK {
			right++
		}
		tellSame(t, text)
	}
	if right < 5000 || right > 45000 {
		t.Errorf("the test is wrong: %d of its texts are right", right)
	}
}
