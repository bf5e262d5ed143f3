package steps_test

import (
	"math"
	"slices"
	"testing"

	"muster/api"
	"muster/steps"
)

// fitOf is what Fit is to tell, of all times that are from or a cut's, the first that holds.
func fitOf(s []api.Cut, from, length int64, n int) (int64, api.Errno) {
	times := []int64{from}
	for _, c := range s {
		if c.At > from && c.At <= maxTime {
			times = append(times, c.At)
		}
	}
	for _, t := range times {
		if leastOf(s, t, t+length) >= n {
			return t, api.OK
		}
	}
	return 0, api.ErrOver
}

// fitCase is a Fit, and what it is to answer.
type fitCase struct {
	s            []api.Cut
	from, length int64
	n            int
	want         int64
	err          api.Errno
}

// fitsThatAre are at from, or at a cut.
func fitsThatAre() map[string]fitCase {
	dent := fn(0, 4, 10, 1, 20, 4)
	stair := fn(0, 1, 10, 2, 20, 3, 30, 4)
	gaps := fn(0, 0, 10, 5, 12, 0, 20, 5, 25, 0, 30, 5, 40, 0)
	full := zigzag(maxCuts, 1, 3)
	return map[string]fitCase{
		"flat, at 0":                      {fn(0, 4), 0, 1, 4, 0, api.OK},
		"flat, at 5":                      {fn(0, 4), 5, 1000, 4, 5, api.OK},
		"flat, at MaxTime":                {fn(0, 4), maxTime, 1, 4, maxTime, api.OK},
		"flat, at MaxTime, the longest":   {fn(0, 4), maxTime, 1 << 40, 4, maxTime, api.OK},
		"flat, at 0, the longest":         {fn(0, 4), 0, 1 << 40, 4, 0, api.OK},
		"one below the longest":           {fn(0, 4), 7, 1<<40 - 1, 4, 7, api.OK},
		"0, of 0":                         {fn(0, 0), 7, 5, 0, 7, api.OK},
		"of 0, in a dent of 0":            {fn(0, 4, 10, 0, 20, 4), 12, 50, 0, 12, api.OK},
		"2^30, of 2^30":                   {fn(0, most), 7, 5, most, 7, api.OK},
		"just up to a cut":                {dent, 5, 5, 2, 5, api.OK},
		"one tick beyond a cut":           {dent, 5, 6, 2, 20, api.OK},
		"one tick less":                   {dent, 5, 4, 2, 5, api.OK},
		"from 0 up to a cut":              {dent, 0, 10, 4, 0, api.OK},
		"from 0, one tick beyond":         {dent, 0, 11, 4, 20, api.OK},
		"the last tick ahead of a cut":    {dent, 9, 1, 2, 9, api.OK},
		"two ticks there":                 {dent, 9, 2, 2, 20, api.OK},
		"from a cut":                      {dent, 10, 1, 2, 20, api.OK},
		"from behind a cut":               {dent, 11, 1, 2, 20, api.OK},
		"from a dent's last tick":         {dent, 19, 1, 2, 20, api.OK},
		"from a dent's end":               {dent, 20, 1, 2, 20, api.OK},
		"from behind a dent":              {dent, 21, 100, 4, 21, api.OK},
		"what a dent has":                 {dent, 5, 100, 1, 5, api.OK},
		"from within a dent, what it has": {dent, 15, 100, 1, 15, api.OK},
		"up the stairs, 1":                {stair, 0, 100, 1, 0, api.OK},
		"up the stairs, 2":                {stair, 0, 100, 2, 10, api.OK},
		"up the stairs, 3":                {stair, 0, 100, 3, 20, api.OK},
		"up the stairs, 4":                {stair, 0, 100, 4, 30, api.OK},
		"up the stairs, from 25":          {stair, 25, 100, 2, 25, api.OK},
		"the first gap":                   {gaps, 0, 2, 5, 10, api.OK},
		"the second gap":                  {gaps, 0, 3, 5, 20, api.OK},
		"the second gap, whole":           {gaps, 0, 5, 5, 20, api.OK},
		"the third gap":                   {gaps, 0, 6, 5, 30, api.OK},
		"the third gap, whole":            {gaps, 0, 10, 5, 30, api.OK},
		"within the first gap":            {gaps, 11, 1, 5, 11, api.OK},
		"too late for the first gap":      {gaps, 11, 2, 5, 20, api.OK},
		"within the second gap":           {gaps, 21, 4, 1, 21, api.OK},
		"too late for the second gap":     {gaps, 21, 5, 1, 30, api.OK},
		"within the third gap":            {gaps, 37, 3, 1, 37, api.OK},
		"a cut at MaxTime":                {fn(0, 0, maxTime, 5), 0, 1, 5, maxTime, api.OK},
		"a cut at MaxTime, the longest":   {fn(0, 0, maxTime, 5), 0, 1 << 40, 5, maxTime, api.OK},
		"a cut ahead of MaxTime":          {fn(0, 0, maxTime-1, 5), 0, 1 << 40, 5, maxTime - 1, api.OK},
		"up to a cut behind MaxTime":      {fn(0, 5, maxTime+1, 0), maxTime, 1, 5, maxTime, api.OK},
		"up to MaxTime":                   {fn(0, 5, maxTime, 0), maxTime - 1, 1, 5, maxTime - 1, api.OK},
		"up to MaxTime, the longest":      {fn(0, 5, maxTime, 0), 0, 1 << 40, 5, 0, api.OK},
		"up to 2^41":                      {fn(0, 5, last, 0), maxTime, 1 << 40, 5, maxTime, api.OK},
		"up to ahead of 2^41":             {fn(0, 5, last-1, 0), maxTime, 1<<40 - 1, 5, maxTime, api.OK},
		"up to ahead of 2^41, earlier":    {fn(0, 5, last-1, 0), maxTime - 1, 1 << 40, 5, maxTime - 1, api.OK},
		"a dent ahead of 2^41":            {fn(0, 5, last-1, 2), maxTime, 1 << 40, 2, maxTime, api.OK},
		"of MaxCuts, the last":            {full, 0, 11, 3, 40950, api.OK},
		"of MaxCuts, the first":           {full, 0, 10, 3, 10, api.OK},
		"of MaxCuts, the second high one": {full, 11, 10, 3, 30, api.OK},
		"of MaxCuts, from the last":       {full, 40950, 1 << 40, 3, 40950, api.OK},
		"of MaxCuts, behind the last":     {full, 99999, 1 << 40, 3, 99999, api.OK},
		"of MaxCuts, anywhere":            {full, 3, 1 << 40, 1, 3, api.OK},
	}
}

// fitsThatAreNot have no time, or are asked with what may not be.
func fitsThatAreNot() map[string]fitCase {
	dent := fn(0, 4, 10, 1, 20, 4)
	none := zigzag(maxCuts-1, 1, 3)
	cases := map[string]fitCase{
		"flat, one more":                    {fn(0, 4), 0, 1, 5, 0, api.ErrOver},
		"flat, 2^30":                        {fn(0, 4), 0, 1, most, 0, api.ErrOver},
		"flat, one below 2^30":              {fn(0, most-1), 0, 1, most, 0, api.ErrOver},
		"0, of 1":                           {fn(0, 0), 0, 1, 1, 0, api.ErrOver},
		"a dent, one more":                  {dent, 0, 1, 5, 0, api.ErrOver},
		"down the stairs, the last":         {fn(0, 4, 10, 3, 20, 2), 0, 21, 3, 0, api.ErrOver},
		"down the stairs, too late":         {fn(0, 4, 10, 3, 20, 2), 20, 1, 3, 0, api.ErrOver},
		"down the stairs, one too long":     {fn(0, 4, 10, 3, 20, 2), 15, 6, 3, 0, api.ErrOver},
		"gaps, too long":                    {fn(0, 0, 10, 5, 20, 0), 0, 11, 5, 0, api.ErrOver},
		"gaps, too late":                    {fn(0, 0, 10, 5, 20, 0), 11, 10, 5, 0, api.ErrOver},
		"gaps, over":                        {fn(0, 0, 10, 5, 20, 0), 20, 1, 5, 0, api.ErrOver},
		"a cut one behind MaxTime":          {fn(0, 0, maxTime+1, 5), 0, 1, 5, 0, api.ErrOver},
		"a cut one behind it, from MaxTime": {fn(0, 0, maxTime+1, 5), maxTime, 1, 5, 0, api.ErrOver},
		"a cut at 2^41":                     {fn(0, 0, last, 5), maxTime, 1 << 40, 5, 0, api.ErrOver},
		"a dent ahead of 2^41":              {fn(0, 5, last-1, 0), maxTime, 1 << 40, 5, 0, api.ErrOver},
		"a dent there, and over":            {fn(0, 5, last-1, 0, last, 5), maxTime, 1 << 40, 5, 0, api.ErrOver},
		"a dent at MaxTime":                 {fn(0, 5, maxTime, 0, maxTime+1, 5), maxTime, 1, 5, 0, api.ErrOver},
		"a dent just behind MaxTime":        {fn(0, 5, maxTime+1, 0, maxTime+2, 5), maxTime, 2, 5, 0, api.ErrOver},
		"a dent at MaxTime, the longest":    {fn(0, 5, maxTime, 0, maxTime+1, 5), 1, 1 << 40, 5, 0, api.ErrOver},
		"of MaxCuts less 1, too long":       {none, 0, 11, 3, 0, api.ErrOver},
		"of MaxCuts less 1, too late":       {none, 40935, 10, 3, 0, api.ErrOver},
		"-1, ahead of ErrOver":              {fn(0, 4), -1, 1, 5, 0, api.ErrArg},
		"one above MaxTime, of 5":           {fn(0, 4), maxTime + 1, 1, 5, 0, api.ErrArg},
		"length 0, of 5":                    {fn(0, 4), 0, 0, 5, 0, api.ErrArg},
		"one above the longest, of 5":       {fn(0, 4), 0, 1<<40 + 1, 5, 0, api.ErrArg},
		"all wrong":                         {fn(0, 4), -1, 0, -1, 0, api.ErrArg},
	}
	for _, from := range []int64{-1, -2, -maxTime, least64, least64 + 5, maxTime + 1, maxTime + 2, last, last + 1, great64 - 1, great64} {
		cases["from "+text(from)] = fitCase{dent, from, 1, 0, 0, api.ErrArg}
		cases["from, of 4 "+text(from)] = fitCase{fn(0, 4), from, 1 << 40, 4, 0, api.ErrArg}
	}
	for _, length := range []int64{0, -1, -2, -maxTime, least64, least64 + 5, 1<<40 + 1, 1<<40 + 2, last, great64 - 1, great64} {
		cases["length "+text(length)] = fitCase{dent, 0, length, 0, 0, api.ErrArg}
		cases["length, at MaxTime "+text(length)] = fitCase{fn(0, 4), maxTime, length, 4, 0, api.ErrArg}
	}
	for _, n := range []int{-1, -2, -most, -most - 1, most + 1, most + 2, 2 * most, 4 * most, math.MinInt, math.MaxInt} {
		cases["n "+text(int64(n))] = fitCase{dent, 0, 1, n, 0, api.ErrArg}
		cases["n, of 2^30 "+text(int64(n))] = fitCase{fn(0, most), 0, 1, n, 0, api.ErrArg}
	}
	return cases
}

// P11.4: Fit, with each edge that the document names.
func TestFit(t *testing.T) {
	for _, cases := range []map[string]fitCase{fitsThatAre(), fitsThatAreNot()} {
		for name, c := range cases {
			for range 2 {
				if at, e := steps.Fit(c.s, c.from, c.length, c.n); at != c.want || e != c.err {
					t.Errorf("%s: %d, %d, not %d, %d", name, at, e, c.want, c.err)
				}
			}
		}
	}
}

// P11.4: Fit, of all step functions with three values over six ticks: each tick is asked, one behind the other.
func TestFitEveryTick(t *testing.T) {
	const ticks = 20
	eachValues(6, 0, func(values []int) {
		s := ofValues(grids()[0], values)
		var all [ticks]int
		for i := range all {
			all[i] = values[min(i, len(values)-1)]
		}
		for from := range 8 {
			for length := 1; length <= 8; length++ {
				for n := range 4 {
					want, err := 0, api.ErrOver
					for i := from; i < 10 && err != api.OK; i++ {
						if slices.Min(all[i:i+length]) >= n {
							want, err = i, api.OK
						}
					}
					if at, e := steps.Fit(s, int64(from), int64(length), n); at != int64(want) || e != err {
						t.Fatalf("Fit(%v, %d, %d, %d) = %d, %d, not %d, %d", s, from, length, n, at, e, want, err)
					}
				}
			}
		}
	})
}

// P11.4: Fit, of step functions around MaxTime and up to 2^41, from and for times that meet their cuts, or just not.
func TestFitFarOut(t *testing.T) {
	for _, grid := range grids()[1:] {
		times := around(grid)
		eachValues(len(grid), 0, func(values []int) {
			s := ofValues(grid, values)
			for i, from := range times {
				for j, to := range append(times[i+1:], last) {
					length := to - from
					if from > maxTime || length < 1 || length > maxTime {
						continue
					}
					n := (i + j) % 3
					want, err := fitOf(s, from, length, n)
					if at, e := steps.Fit(s, from, length, n); at != want || e != err {
						t.Fatalf("Fit(%v, %d, %d, %d) = %d, %d, not %d, %d", s, from, length, n, at, e, want, err)
					}
				}
			}
		})
	}
}

// P11.4: Fit, of step functions, times and numbers that look like chance.
func TestFitMany(t *testing.T) {
	d := dice(5)
	seen := map[string]int{}
	for range 60000 {
		s := d.function(30)
		from := d.time(s, maxTime)
		length := 1 + d.time(s, maxTime-1)
		if d.below(2) == 0 {
			length = min(max(1, s[d.below(len(s))].At-from+int64(d.below(3))-1), maxTime)
		}
		n := s[d.below(len(s))].Free
		want, err := fitOf(s, from, length, n)
		switch {
		case err != api.OK:
			seen["none"]++
		case want == from:
			seen["from"]++
		default:
			seen["cut"]++
		}
		if at, e := steps.Fit(s, from, length, n); at != want || e != err {
			t.Fatalf("Fit(%v, %d, %d, %d) = %d, %d, not %d, %d", s, from, length, n, at, e, want, err)
		}
	}
	if seen["none"] < 5000 || seen["from"] < 5000 || seen["cut"] < 5000 {
		t.Errorf("the test is wrong: %v", seen)
	}
}
