package array_test

import (
	"math"
	"strconv"
	"strings"
	"testing"

	"muster/api"
	"muster/array"
)

// textOf is the text of an index list, word by word as the chapter tells it.
func textOf(l []int) string {
	var pieces []string
	for len(l) > 0 {
		i := l[0]
		piece, taken := strconv.Itoa(i), 1
		if len(l) > 1 {
			s, e, count := l[1]-i, l[1], 2
			for count < len(l) && l[count] == e+s {
				e, count = e+s, count+1
			}
			if count > 2 {
				piece, taken = piece+"-"+strconv.Itoa(e), count
				if s > 1 {
					piece += ":" + strconv.Itoa(s)
				}
			}
		}
		pieces, l = append(pieces, piece), l[taken:]
	}
	return strings.Join(pieces, ",")
}

// printed are index lists by their texts.
func printed() map[string][]int {
	return map[string][]int{
		"0":                        {0},
		"4":                        {4},
		"9999":                     {9999},
		"0,1":                      {0, 1},
		"1,2":                      {1, 2},
		"5,9":                      {5, 9},
		"0,9999":                   {0, 9999},
		"9998,9999":                {9998, 9999},
		"0-2":                      {0, 1, 2},
		"1-3":                      {1, 2, 3},
		"9-11":                     {9, 10, 11},
		"9997-9999":                {9997, 9998, 9999},
		"0-4:2":                    {0, 2, 4},
		"7-21:7":                   {7, 14, 21},
		"1-9999:4999":              {1, 5000, 9999},
		"0,1,3":                    {0, 1, 3},
		"0,2,3":                    {0, 2, 3},
		"0-3":                      {0, 1, 2, 3},
		"0-9:3":                    {0, 3, 6, 9},
		"0,2-4":                    {0, 2, 3, 4},
		"0,1,3,4":                  {0, 1, 3, 4},
		"0,1,3-5":                  {0, 1, 3, 4, 5},
		"0,1,4,9,16":               {0, 1, 4, 9, 16},
		"1,2,4,8,16,32":            {1, 2, 4, 8, 16, 32},
		"0-6:2,9":                  {0, 2, 4, 6, 9},
		"0-6:2,9,10":               {0, 2, 4, 6, 9, 10},
		"0,5-7":                    {0, 5, 6, 7},
		"0,5,6":                    {0, 5, 6},
		"0-2,5,9":                  {0, 1, 2, 5, 9},
		"0-2,4-6":                  {0, 1, 2, 4, 5, 6},
		"3-5,10-40:10":             {3, 4, 5, 10, 20, 30, 40},
		"0,3-7:2,10-16:3,17":       {0, 3, 5, 7, 10, 13, 16, 17},
		"0,10-12,20,30-34:2,40,41": {0, 10, 11, 12, 20, 30, 32, 34, 40, 41},
		// The first run takes the index at which it meets the next one; what is left of that may be no run any more.
		"0-2,4,6":      {0, 1, 2, 4, 6},
		"0-2,4-8:2":    {0, 1, 2, 4, 6, 8},
		"0-3,5,7":      {0, 1, 2, 3, 5, 7},
		"0-4:2,5":      {0, 2, 4, 5},
		"0-4:2,5,6":    {0, 2, 4, 5, 6},
		"0-4:2,5-7":    {0, 2, 4, 5, 6, 7},
		"0-4:2,7,10":   {0, 2, 4, 7, 10},
		"0-4:2,7-13:3": {0, 2, 4, 7, 10, 13},
		"0-10:5,11-13": {0, 5, 10, 11, 12, 13},
		// Two alone are no run, so the second one may begin one.
		"1,2-8:2":        {1, 2, 4, 6, 8},
		"0,3-5":          {0, 3, 4, 5},
		"0,1,3-9:3":      {0, 1, 3, 6, 9},
		"0-30":           span(0, 30, 1),
		"0-31":           span(0, 31, 1),
		"9968-9999":      span(9968, 9999, 1),
		"0-62:2":         span(0, 62, 2),
		"0-9982:322":     span(0, 9982, 322),
		"0-15,17-32":     join(span(0, 15, 1), span(17, 32, 1)),
		"0-15,17-47:2":   join(span(0, 15, 1), span(17, 47, 2)),
		"0-30:2,31-46":   join(span(0, 30, 2), span(31, 46, 1)),
		"0-30,32":        join(span(0, 30, 1), of(32)),
		"0,2-32":         join(of(0), span(2, 32, 1)),
		"0,1,3-31":       join(of(0, 1), span(3, 31, 1)),
		"0-28,30,31,33":  join(span(0, 28, 1), of(30, 31, 33)),
		"5-7,9984-9999":  join(span(5, 7, 1), span(9984, 9999, 1)),
		"0-9,9000,9999":  join(span(0, 9, 1), of(9000, 9999)),
		"0-999:333,1000": join(span(0, 999, 333), of(1000)),
	}
}

// P19.2: lists of one index, of two, of three in a run, of runs with each kind of step, of runs that share an index at their ends, of runs one behind the other, of as many as can be.
func TestPrint(t *testing.T) {
	for text, l := range printed() {
		checkPrint(t, text, l, text)
	}
	for i := range maxIndex + 1 {
		checkPrint(t, "one", of(i), strconv.Itoa(i))
	}
}

// P19.2: lists that are no index lists, by what is wrong with them.
func TestPrintOfWhatIsNone(t *testing.T) {
	for what, lists := range map[string][][]int{
		"none":              {nil, {}},
		"they fall":         {{2, 1}, {1, 0}, {3, 2, 1}, {1, 3, 2}, {2, 1, 3}, {9999, 0}, {0, 1, 2, 1}, {0, 2, 4, 6, 5}, {5, 0, 1, 2}},
		"one twice":         {{1, 1}, {0, 0}, {9999, 9999}, {1, 2, 2}, {1, 1, 2}, {1, 2, 1}, {0, 1, 2, 2, 3}, {5, 5, 5}},
		"below 0":           {{-1}, {-1, 0}, {-1, 0, 1}, {-2, -1}, {0, -1}, {-9999}, {math.MinInt}, {math.MinInt, 0, math.MaxInt}},
		"above 9999":        {{10000}, {9999, 10000}, {9998, 9999, 10000}, {0, 10000}, {10000, 10001}, {10000, 0}, {65536}, {1 << 32}, {1<<32 + 1}, {math.MaxInt}, {0, math.MaxInt}},
		"33":                {span(0, 32, 1), span(0, 64, 2), span(9967, 9999, 1), append(span(0, 31, 1), 9999)},
		"very many":         {span(0, 63, 1), span(0, maxIndex, 1), span(0, 1<<20, 1), make([]int, 1<<20), make([]int, 33)},
		"32, one of it bad": {append(span(0, 30, 1), 30), append(span(0, 30, 1), 10000), append(of(-1), span(0, 30, 1)...), append(of(1), span(1, 31, 1)...)},
	} {
		for _, l := range lists {
			checkPrint(t, what, l, "")
		}
	}
}

// tellSameText asks Print, and the chapter's words, for one list.
func tellSameText(t *testing.T, l []int) api.Errno {
	t.Helper()
	want, err := "", api.ErrArg
	if isListOf(l) {
		want, err = textOf(l), api.OK
	}
	if text, e := array.Print(l); e != err || text != want {
		t.Fatalf("Print(%v) = %q, %d, not %q, %d", l, text, e, want, err)
	}
	return err
}

// P19.2: all lists out of fifteen indexes, at both ends and between.
func TestPrintAllLists(t *testing.T) {
	const many = 15
	for _, from := range of(0, 3, 95, 9985) {
		for bits := range 1 << many {
			var l []int
			for i := range many {
				if bits>>i&1 == 1 {
					l = append(l, from+i)
				}
			}
			tellSameText(t, l)
		}
	}
}

// P19.2: all lists of four numbers, right and wrong ones, at both bounds.
func TestPrintAllFours(t *testing.T) {
	for _, from := range of(-2, maxIndex-5) {
		for bits := range 1 << 12 {
			l := of(from+bits&7, from+bits>>3&7, from+bits>>6&7, from+bits>>9&7)
			for count := range 5 {
				tellSameText(t, l[:count])
			}
		}
	}
}

// P19.2: any lists, and such with one thing changed.
func TestPrintAny(t *testing.T) {
	d := dice(2)
	told := map[api.Errno]int{}
	for range 100000 {
		l := d.list()
		told[tellSameText(t, l)]++
		told[tellSameText(t, d.bent(l))]++
	}
	if told[api.OK] < 100000 || told[api.ErrArg] < 10000 {
		t.Errorf("the test is wrong: %v", told)
	}
}
