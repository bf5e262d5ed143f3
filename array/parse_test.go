package array_test

import (
	"fmt"
	"regexp"
	"slices"
	"strconv"
	"strings"
	"testing"

	"muster/api"
	"muster/array"
)

var pieceForm = regexp.MustCompile(`\A(0|[1-9][0-9]{0,3})(?:-(0|[1-9][0-9]{0,3})(?::([1-9][0-9]{0,3}))?)?\z`)

// readAs is what a text says, by the chapter's grammar: all of its indexes, one behind the other, and then what is wrong with them.
func readAs(text string) ([]int, api.Errno) {
	if len(text) > maxBytes {
		return nil, api.ErrLong
	}
	var all []int
	for _, piece := range strings.Split(text, ",") {
		m := pieceForm.FindStringSubmatch(piece)
		if m == nil {
			return nil, api.ErrSyntax
		}
		a, _ := strconv.Atoi(m[1])
		b, s := a, 1
		if m[2] != "" {
			b, _ = strconv.Atoi(m[2])
		}
		if m[3] != "" {
			s, _ = strconv.Atoi(m[3])
		}
		if b < a {
			return nil, api.ErrSyntax
		}
		for i := range b - a + 1 {
			if i%s == 0 {
				all = append(all, a+i)
			}
		}
	}
	there := map[int]bool{}
	for place, i := range all {
		switch {
		case there[i]:
			return nil, api.ErrTwice
		case place == maxArray:
			return nil, api.ErrLong
		}
		there[i] = true
	}
	return slices.Sorted(slices.Values(all)), api.OK
}

// tellSame asks Parse, and the chapter's grammar, for one text.
func tellSame(t *testing.T, text string) api.Errno {
	t.Helper()
	want, err := readAs(text)
	if l, e := array.Parse(text); e != err || !slices.Equal(l, want) {
		t.Fatalf("Parse(%q) = %v, %d, not %v, %d", text, l, e, want, err)
	}
	return err
}

// numbers is the text of l without runs.
func numbers(l []int) string {
	var texts []string
	for _, i := range l {
		texts = append(texts, strconv.Itoa(i))
	}
	return strings.Join(texts, ",")
}

// rightTexts are texts, each with the indexes that it says.
func rightTexts() map[string][]int {
	return map[string][]int{
		"0":                       {0},
		"7":                       {7},
		"10":                      {10},
		"100":                     {100},
		"1000":                    {1000},
		"9999":                    {9999},
		"0,9999":                  {0, 9999},
		"1,2,3":                   {1, 2, 3},
		"3,2,1":                   {1, 2, 3},
		"9,0-2":                   {0, 1, 2, 9},
		"5-7,1-3":                 {1, 2, 3, 5, 6, 7},
		"100,20,3":                {3, 20, 100},
		"0-4:2,1-5:2":             {0, 1, 2, 3, 4, 5},
		"1-5:2,0-4:2":             {0, 1, 2, 3, 4, 5},
		"10-20:5,12-18:2":         {10, 12, 14, 15, 16, 18, 20},
		"0-1":                     {0, 1},
		"0-2":                     {0, 1, 2},
		"9-11":                    {9, 10, 11},
		"99-101":                  {99, 100, 101},
		"998-1002":                {998, 999, 1000, 1001, 1002},
		"9998-9999":               {9998, 9999},
		"0-0":                     {0},
		"5-5":                     {5},
		"9999-9999":               {9999},
		"3-5:1":                   {3, 4, 5},
		"5-5:1":                   {5},
		"0-0:1":                   {0},
		"5-5:9999":                {5},
		"0-6:2":                   {0, 2, 4, 6},
		"0-7:2":                   {0, 2, 4, 6},
		"0-8:4":                   {0, 4, 8},
		"0-11:4":                  {0, 4, 8},
		"0-5:5":                   {0, 5},
		"0-5:4":                   {0, 4},
		"0-5:6":                   {0},
		"0-5:9":                   {0},
		"0-5:9999":                {0},
		"1-9999:9998":             {1, 9999},
		"0-9999:9999":             {0, 9999},
		"0-9999:1000":             {0, 1000, 2000, 3000, 4000, 5000, 6000, 7000, 8000, 9000},
		"0-9999:333":              span(0, 9999, 333),
		"9999-9999:9999":          {9999},
		"0-31":                    span(0, 31, 1),
		"9968-9999":               span(9968, 9999, 1),
		"0-63:2":                  span(0, 63, 2),
		"0-30":                    span(0, 30, 1),
		"0-15,16-31":              span(0, 31, 1),
		"16-31,0-15":              span(0, 31, 1),
		"0-9,20-29,40-49,60,70":   join(span(0, 9, 1), span(20, 29, 1), span(40, 49, 1), of(60, 70)),
		"70,60,40-49,20-29,0-9":   join(span(0, 9, 1), span(20, 29, 1), span(40, 49, 1), of(60, 70)),
		"1-3,4-6:1,7-7,8,9-13:4":  {1, 2, 3, 4, 5, 6, 7, 8, 9, 13},
		"4-4:4,3-3:3,2-2:2,1-1:1": {1, 2, 3, 4},
	}
}

// P19.1: right texts: numbers at both ends, runs up to, at and ahead of their ends, steps of each kind, pieces that do not rise.
func TestRightTexts(t *testing.T) {
	for text, want := range rightTexts() {
		checkParse(t, "a right text", text, want, api.OK)
	}
	for i := range maxIndex + 1 {
		checkParse(t, "a number", strconv.Itoa(i), of(i), api.OK)
	}
}

// wrongTexts say no indexes, by what is wrong with them.
func wrongTexts() map[string][]string {
	return map[string][]string{
		"nothing":                   {"", " ", "\t", "\n", "\x00"},
		"a comma at the front":      {",", ",1", ",0-2", ",0-6:2,9"},
		"a comma at the end":        {"1,", "0-2,", "0-6:2,", "1,2,"},
		"two commas side by side":   {",,", "1,,2", "0-2,,5", ",,1", "1,,", "1,,,2"},
		"a number of no digit":      {"-", "-5", "5-", "-:", "5-:", "-5:1", "5-:1", "-:1", "1-5:", ":", ":5", "1,-", "1-,2", "1-5:,7"},
		"five digits":               {"10000", "99999", "10000-10001", "0-10000", "1-5:10000", "12345", "0-10000:9999", "1,10000", "00000", "00001", "65536"},
		"very many digits":          {"4294967296", "4294967297", "18446744073709551616", "18446744073709551617", "0-18446744073709551618", "1-5:18446744073709551617", "1" + strings.Repeat("0", 64), "0-1" + strings.Repeat("0", 64), strings.Repeat("9", maxBytes)},
		"a nought ahead":            {"00", "01", "09", "001", "0001", "0000", "010", "00-1", "01-2", "0-01", "0-00", "00-00", "1-5:01", "1-5:00", "1-5:0001", "1,02", "-0", "-00"},
		"a above b":                 {"1-0", "2-1", "9-8", "10-9", "100-99", "1000-999", "9999-0", "9999-9998", "5-3:1", "5-3:2", "5-3:9", "9-0:9999", "1,5-3", "5-3,1"},
		"s of 0":                    {"0-4:0", "0-0:0", "5-5:0", "0-9999:0", "1-9:0,10", "1,2-4:0"},
		"two dashes":                {"1-2-3", "1--2", "--1", "1--", "--", "1-2-", "-1-2", "1-2-3:1", "1-2:3-4", "1-2:-3", "1-2:3-"},
		"two colons":                {"1-5:1:1", "1-5::1", "1-5:1:", "1::5", "::", "1-5::", ":1-5:1", "1:2-5:1", "1-5:2:2"},
		"a colon without a dash":    {"1:2", "5:1", "0:1", ":1", "1:", "1:2-3", "1,2:3", "9999:1", "1:1,2"},
		"signs":                     {"+1", "-1", "1-+2", "+1-2", "1-5:+2", "1-5:-2", "1+2", "−1", "1–5", "1,+2", "+", "+0", "-0"},
		"blanks":                    {" 1", "1 ", "1, 2", "1 ,2", "1 -2", "1- 2", "1-2 :1", "1-2: 1", "1-5 ", " 1-5", "1 2", "\t1", "1\n", "1\u00a0", "1\u2003"},
		"letters":                   {"a", "1a", "a1", "1-a", "a-1", "1-5:a", "0x1", "1e1", "1_0", "none", "all", "1-5%2", "1.5", "1..5", "1/2", "1;2", "[1-5]", "1-5/2", "*"},
		"digits of other alphabets": {"٣", "１", "１-２", "1-２", "1-5:２", "1，2", "৩", "²", "①", "𝟏", "1٣"},
		"bytes that are no runes":   {"\xff", "\x80", "1\xff", "\xff1", "1-\xff5", "1-5:\xff", "1\xff2", "\xc0\xb1", "\xe0\x80\xb1", "1\xc0\xad5", "1\xc0\xac2", "\xc2", "\xef\xbf\xbd", "1-5:2\x80"},
		"right ones around":         {"1,2,x,4", "x,1,2", "1,2,x", "0-2,3-1,7", "1,2,01,4", "1,2:3,4", "0-31,x", "0-63,x", "0-9999,10000"},
	}
}

// P19.1: texts that are no texts of indexes.
func TestWrongTexts(t *testing.T) {
	for what, texts := range wrongTexts() {
		for _, text := range texts {
			checkParse(t, what, text, nil, api.ErrSyntax)
		}
	}
}

// P19.1: what may not stand in a text, put into each place of each kind of piece, and put there in place of a byte; for itself, and among other pieces.
func TestStrangeAtEachPlace(t *testing.T) {
	strange := of("+", " ", "\t", "\n", "\x00", "a", "Z", "_", ".", ";", "/", "'", "é", "٣", "１", "–", "𝟏", "\u00a0", "\xff", "\x80", "\xc3", "\xc0\xb1", "\xed\xa0\x80", "\xef\xbf\xbd")
	for _, piece := range of("0", "5", "12", "9999", "0-6", "10-20", "0-6:2", "10-20:15", "1000-2000:999") {
		for i := range len(piece) + 1 {
			for _, x := range strange {
				texts := of(piece[:i] + x + piece[i:])
				if i < len(piece) {
					texts = append(texts, piece[:i]+x+piece[i+1:])
				}
				for _, text := range texts {
					for _, around := range of("%s", "7777,%s", "%s,7777", "7777,%s,8888-8889") {
						checkParse(t, "strange", fmt.Sprintf(around, text), nil, api.ErrSyntax)
					}
				}
			}
		}
	}
}

// P19.1: all texts of up to seven of the signs that texts are made of.
func TestAllShortTexts(t *testing.T) {
	told := map[api.Errno]int{}
	var grow func(text, signs string, most int)
	grow = func(text, signs string, most int) {
		told[tellSame(t, text)]++
		for i := 0; most > 0 && i < len(signs); i++ {
			grow(text+signs[i:i+1], signs, most-1)
		}
	}
	grow("", "012,-:", 7)
	grow("", "19-:", 8)
	grow("", "0123456789,-:+ \x00\x7f\x80\xff./;anoe_N\t\n\xc2\xb2", 3)
	if told[api.OK] < 1000 || told[api.ErrSyntax] < 100000 || told[api.ErrTwice] < 500 || told[api.ErrLong] < 500 {
		t.Errorf("the test is wrong: %v", told)
	}
}

// P19.1: right texts with one byte left out, put in, or another one, and what is left of them when they are cut.
func TestNearRightTexts(t *testing.T) {
	for text := range rightTexts() {
		for i := range len(text) + 1 {
			tellSame(t, text[:i])
			tellSame(t, text[i:])
			for b := range 256 {
				x := string([]byte{byte(b)})
				tellSame(t, text[:i]+x+text[i:])
				if i < len(text) {
					tellSame(t, text[:i]+x+text[i+1:])
				}
			}
			if i < len(text) {
				tellSame(t, text[:i]+text[i+1:])
			}
		}
	}
}

// P19.1: all runs near one another, with all steps, and at the top.
func TestAllRuns(t *testing.T) {
	for _, from := range of(0, 1, 9, 95, 9960) {
		for a := from; a < min(from+40, maxIndex+1); a++ {
			for b := from; b < min(from+40, maxIndex+1); b++ {
				run := strconv.Itoa(a) + "-" + strconv.Itoa(b)
				tellSame(t, run)
				for s := range 42 {
					tellSame(t, run+":"+strconv.Itoa(s))
				}
			}
		}
	}
}

// long is pieces of 14 bytes each, of one index each, and a last piece, which together have that many bytes and say those indexes.
func long(t *testing.T, bytes int) (string, []int) {
	t.Helper()
	var pieces []string
	var l []int
	for i := range 26 {
		at := 1000 + i
		pieces, l = append(pieces, fmt.Sprintf("%d-%d:9999", at, at)), append(l, at)
	}
	last := map[int]string{399: "11-11:999", 400: "11-11:9999", 401: "111-111:999"}[bytes]
	text := strings.Join(append(pieces, last), ",")
	first, _, _ := strings.Cut(last, "-")
	at, _ := strconv.Atoi(first)
	if len(text) != bytes {
		t.Fatalf("the test is wrong: %d bytes, not %d", len(text), bytes)
	}
	return text, append(of(at), l...)
}

// P19.1: texts of 399, 400 and 401 bytes, right ones, wrong ones, and such as say an index twice or too many.
func TestLongTexts(t *testing.T) {
	for _, bytes := range of(399, 400) {
		text, l := long(t, bytes)
		checkParse(t, "a long right text", text, l, api.OK)
		for i := range text {
			checkParse(t, "a long wrong text", text[:i]+"x"+text[i+1:], nil, api.ErrSyntax)
		}
		checkParse(t, "a long text, with a comma at the end", text[:bytes-1]+",", nil, api.ErrSyntax)
		checkParse(t, "a long text of no pieces", strings.Repeat(",", bytes), nil, api.ErrSyntax)
		checkParse(t, "a long text of blanks", strings.Repeat(" ", bytes), nil, api.ErrSyntax)
		checkParse(t, "a long number", strings.Repeat("1", bytes), nil, api.ErrSyntax)
		checkParse(t, "a long text of runes", strings.Repeat("é", bytes/2), nil, api.ErrSyntax)
		checkParse(t, "a long text, an index twice", "0"+strings.Repeat(",0", (bytes-1)/2), nil, api.ErrTwice)
	}
	checkParse(t, "399 bytes, too many indexes", numbers(span(1000, 1079, 1)), nil, api.ErrLong)
	checkParse(t, "400 bytes, too many indexes", "0-999,"+numbers(span(1000, 1078, 1)), nil, api.ErrLong)
	checkParse(t, "400 bytes, too many indexes and a wrong end", numbers(span(1000, 1079, 1))+",", nil, api.ErrSyntax)
}

// P19.1: above 400 bytes a text is too long, whatever it says.
func TestTooLongTexts(t *testing.T) {
	right, _ := long(t, maxBytes+1)
	for _, text := range of(
		right,
		right[:maxBytes]+",",
		right[:maxBytes]+"x",
		right[:maxBytes]+"\xff",
		"x"+right[:maxBytes],
		"0"+strings.Repeat(",0", maxBytes/2),
		"0-9999,"+right[:maxBytes-6],
		strings.Repeat("é", maxBytes/2)+"1",
		strings.Repeat("é", maxBytes/2+1),
		strings.Repeat(",", maxBytes+1),
		strings.Repeat(" ", maxBytes+1),
		strings.Repeat("0", maxBytes+1),
		strings.Repeat("1", maxBytes+1),
		strings.Repeat("\x00", maxBytes+1),
		strings.Repeat("1,", 1<<20),
		strings.Repeat("7", 1<<24),
	) {
		checkParse(t, "too long", text, nil, api.ErrLong)
	}
	for bytes := range 2 * maxBytes {
		err := api.ErrSyntax
		if bytes > maxBytes {
			err = api.ErrLong
		}
		checkParse(t, "x", strings.Repeat("x", bytes), nil, err)
	}
}

// P19.1: an index that stands twice: in a run and a piece behind it, ahead of it, in two runs, at their ends, side by side.
func TestTwice(t *testing.T) {
	for _, text := range of(
		"0,0", "1,1", "9999,9999", "1,2,1", "1,2,2", "1,2,3,1", "3,1,2,3",
		"1-3,1", "1-3,2", "1-3,3", "1,1-3", "2,1-3", "3,1-3", "1-3,3-5", "3-5,1-3", "1-3,1-3", "1-5,2-4", "2-4,1-5", "0-6:2,4", "0-6:2,0", "0-6:2,6", "0-6:2,3-9:3", "0-6:2,6-8:2",
		"5-5,5", "5,5-5", "5-5,5-5", "0-5:9,0", "0,0-5:9", "0-9999:9999,9999", "1,3,5,1-9:4", "7,0-31:31,31",
	) {
		checkParse(t, "twice", text, nil, api.ErrTwice)
	}
	for text, l := range map[string][]int{"0-6:2,1": {0, 1, 2, 4, 6}, "0-6:2,7": {0, 2, 4, 6, 7}, "0-7:2,7": {0, 2, 4, 6, 7}, "1-3,4": {1, 2, 3, 4}, "1-3,0": {0, 1, 2, 3}, "0-5:9,5": {0, 5}, "1,10,100,1000": {1, 10, 100, 1000}} {
		checkParse(t, "not twice", text, l, api.OK)
	}
	for i := range maxArray {
		checkParse(t, "twice", "0-31,"+strconv.Itoa(i), nil, api.ErrTwice)
		checkParse(t, "twice", strconv.Itoa(i)+",0-31", nil, api.ErrTwice)
	}
}

// P19.1: 31, 32 and 33 indexes, as runs, as numbers, as both, with steps, rising and falling.
func TestHowMany(t *testing.T) {
	for _, count := range of(31, 32, 33, 34, 64) {
		l, evens := span(0, count-1, 1), span(0, 2*count-2, 2)
		falling := slices.Clone(l)
		slices.Reverse(falling)
		texts := of("0-"+strconv.Itoa(count-1), numbers(l), numbers(falling), "0-9,10-"+strconv.Itoa(count-1), "10-"+strconv.Itoa(count-1)+",0-9", "0-29,"+numbers(l[30:]))
		evenTexts := of("0-"+strconv.Itoa(2*count-2)+":2", "0-"+strconv.Itoa(2*count-1)+":2", "0-18:2,20-"+strconv.Itoa(2*count-2)+":2")
		err := api.OK
		if count > maxArray {
			err, l, evens = api.ErrLong, nil, nil
		}
		for _, text := range texts {
			checkParse(t, strconv.Itoa(count), text, l, err)
		}
		for _, text := range evenTexts {
			checkParse(t, strconv.Itoa(count)+" even ones", text, evens, err)
		}
	}
	for _, text := range of("0-9999", "1-9999", "0-9999:2", "0-9999:311", "9967-9999") {
		checkParse(t, "very many", text, nil, api.ErrLong)
	}
	checkParse(t, "as many as can be", "0-9999:322", span(0, 9999, 322), api.OK)
}

// P19.1: which error comes first: what is no text ahead of all that its indexes are, and of these the first one, index by index.
func TestWhichErrorFirst(t *testing.T) {
	for text, err := range map[string]api.Errno{
		"1,1,a":                api.ErrSyntax,
		"1,1,":                 api.ErrSyntax,
		"1,1,2-1":              api.ErrSyntax,
		"1,1,1-5:0":            api.ErrSyntax,
		"a,1,1":                api.ErrSyntax,
		"1-3,2,01":             api.ErrSyntax,
		"0-32,a":               api.ErrSyntax,
		"0-32,":                api.ErrSyntax,
		"0-9999,10000":         api.ErrSyntax,
		"0-9999,5-3":           api.ErrSyntax,
		"0-32,0,x":             api.ErrSyntax,
		"0-31,0":               api.ErrTwice,
		"0-31,31":              api.ErrTwice,
		"0-31,0-5":             api.ErrTwice,
		"0-31,31,32":           api.ErrTwice,
		"0-31,31-40":           api.ErrTwice,
		"0-30,30,31,32":        api.ErrTwice,
		"0-30,30-60":           api.ErrTwice,
		"1,1,2-60":             api.ErrTwice,
		"5,0-99":               api.ErrTwice,
		"31,0-99":              api.ErrTwice,
		"0-31,16-47:31":        api.ErrTwice,
		"0-31,32":              api.ErrLong,
		"0-31,40":              api.ErrLong,
		"0-32,0":               api.ErrLong,
		"0-32,32":              api.ErrLong,
		"0-31,32,0":            api.ErrLong,
		"0-31,32,32":           api.ErrLong,
		"0-99,5":               api.ErrLong,
		"32,0-99":              api.ErrLong,
		"33,0-99":              api.ErrLong,
		"40,0-99":              api.ErrLong,
		"10-41,9-20":           api.ErrLong,
		"10-41,10-20":          api.ErrTwice,
		"0-62:2,1,2":           api.ErrLong,
		"0-62:2,2,1":           api.ErrTwice,
		"0-31,40-50,40":        api.ErrLong,
		"0-30,40,41,40":        api.ErrLong,
		"0-30,40,40,41":        api.ErrTwice,
		"9999,0-9999":          api.ErrLong,
		"0-9999:9999,9999,1-5": api.ErrTwice,
	} {
		checkParse(t, "which error first", text, nil, err)
	}
}

// P19.1: any texts of right pieces, and of such as look so.
func TestAnyTexts(t *testing.T) {
	d := dice(1)
	told := map[api.Errno]int{}
	for range 60000 {
		told[tellSame(t, d.text())]++
	}
	for _, err := range of(api.OK, api.ErrSyntax, api.ErrTwice, api.ErrLong) {
		if told[err] < 2000 {
			t.Errorf("the test is wrong: %v", told)
		}
	}
}
