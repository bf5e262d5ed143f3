package steps_test

import (
	"math"
	"slices"
	"testing"

	"muster/api"
	"muster/steps"
)

// sumOf is what Add is to tell: the values at all times at which one may change, those in the window n more, with cuts only where they do change.
func sumOf(s []api.Cut, from, to int64, n int) ([]api.Cut, api.Errno) {
	times := []int64{from, to}
	for _, c := range s {
		times = append(times, c.At)
	}
	slices.Sort(times)
	times = slices.Compact(times)
	var values []int
	for _, t := range times {
		v := valueAt(s, t)
		if from <= t && t < to {
			v += n
		}
		if v < 0 || v > most {
			return nil, api.ErrOver
		}
		values = append(values, v)
	}
	sum := ofValues(times, values)
	if len(sum) > maxCuts {
		return nil, api.ErrFull
	}
	return sum, api.OK
}

// addCase is an Add, and what it is to answer.
type addCase struct {
	s        []api.Cut
	from, to int64
	n        int
	want     []api.Cut
	err      api.Errno
}

// addsWithin are those that only lay their windows.
func addsWithin() map[string]addCase {
	low := fn(0, 4, 10, 1, 20, 5)
	return map[string]addCase{
		"a flat one, in the middle":       {fn(0, 4), 10, 20, -3, fn(0, 4, 10, 1, 20, 4), api.OK},
		"a flat one, from 0 on":           {fn(0, 4), 0, 20, -3, fn(0, 1, 20, 4), api.OK},
		"a flat one, one tick":            {fn(0, 4), 0, 1, 3, fn(0, 7, 1, 4), api.OK},
		"a flat one, one tick later":      {fn(0, 4), 1, 2, 3, fn(0, 4, 1, 7, 2, 4), api.OK},
		"a flat one, up to 2^41":          {fn(0, 4), 10, last, -3, fn(0, 4, 10, 1, last, 4), api.OK},
		"a flat one, all of it":           {fn(0, 4), 0, last, -3, fn(0, 1, last, 4), api.OK},
		"a flat one, the last tick":       {fn(0, 4), last - 1, last, 3, fn(0, 4, last-1, 7, last, 4), api.OK},
		"around MaxTime":                  {fn(0, 4), maxTime, maxTime + 1, 3, fn(0, 4, maxTime, 7, maxTime+1, 4), api.OK},
		"behind MaxTime":                  {fn(0, 4), maxTime + 1, last, 3, fn(0, 4, maxTime+1, 7, last, 4), api.OK},
		"cut to cut":                      {low, 10, 20, 1, fn(0, 4, 10, 2, 20, 5), api.OK},
		"one ahead, to a cut":             {low, 9, 20, 1, fn(0, 4, 9, 5, 10, 2, 20, 5), api.OK},
		"one ahead, one ahead":            {low, 9, 19, 1, fn(0, 4, 9, 5, 10, 2, 19, 1, 20, 5), api.OK},
		"one ahead, one behind":           {low, 9, 21, 1, fn(0, 4, 9, 5, 10, 2, 20, 6, 21, 5), api.OK},
		"from a cut, one ahead":           {low, 10, 19, 1, fn(0, 4, 10, 2, 19, 1, 20, 5), api.OK},
		"from a cut, one behind":          {low, 10, 21, 1, fn(0, 4, 10, 2, 20, 6, 21, 5), api.OK},
		"one behind, to a cut":            {low, 11, 20, 1, fn(0, 4, 10, 1, 11, 2, 20, 5), api.OK},
		"one behind, one ahead":           {low, 11, 19, 1, fn(0, 4, 10, 1, 11, 2, 19, 1, 20, 5), api.OK},
		"one behind, one behind":          {low, 11, 21, 1, fn(0, 4, 10, 1, 11, 2, 20, 6, 21, 5), api.OK},
		"within the first step":           {low, 3, 4, -1, fn(0, 4, 3, 3, 4, 4, 10, 1, 20, 5), api.OK},
		"up to the first cut":             {low, 3, 10, -1, fn(0, 4, 3, 3, 10, 1, 20, 5), api.OK},
		"within the last step":            {low, 30, 40, -5, fn(0, 4, 10, 1, 20, 5, 30, 0, 40, 5), api.OK},
		"from the last cut on":            {low, 20, last, 2, fn(0, 4, 10, 1, 20, 7, last, 5), api.OK},
		"from the last cut, one tick":     {low, 20, 21, 2, fn(0, 4, 10, 1, 20, 7, 21, 5), api.OK},
		"over all":                        {low, 0, last, 2, fn(0, 6, 10, 3, 20, 7, last, 5), api.OK},
		"over all, less":                  {low, 0, last, -1, fn(0, 3, 10, 0, 20, 4, last, 5), api.OK},
		"over many, within the ends":      {low, 1, 100, 2, fn(0, 4, 1, 6, 10, 3, 20, 7, 100, 5), api.OK},
		"ahead of a cut at 2^41":          {fn(0, 4, last, 5), 0, last, 2, fn(0, 6, last, 5), api.OK},
		"the last tick, a cut at 2^41":    {fn(0, 4, last, 5), last - 1, last, 2, fn(0, 4, last-1, 6, last, 5), api.OK},
		"ahead of the last tick's cut":    {fn(0, 4, last-1, 5), 0, last - 1, 2, fn(0, 6, last-1, 5), api.OK},
		"of the last tick's cut":          {fn(0, 4, last-1, 5), last - 1, last, 2, fn(0, 4, last-1, 7, last, 5), api.OK},
		"values that change places":       {fn(0, 4, 10, 1, 20, 5), 10, 20, 5, fn(0, 4, 10, 6, 20, 5), api.OK},
		"side by side, one more":          {fn(0, 4, 10, 1, 20, 4), 20, 30, -1, fn(0, 4, 10, 1, 20, 3, 30, 4), api.OK},
		"windows of a step that is gone":  {fn(0, 4, 10, 1, 11, 4), 10, 11, 2, fn(0, 4, 10, 3, 11, 4), api.OK},
		"MaxCuts, cut to cut":             {zigzag(maxCuts, 1, 3), 10, 20, 1, with(zigzag(maxCuts, 1, 3), 1, 4), api.OK},
		"MaxCuts, from the last but one":  {zigzag(maxCuts, 1, 3), 40940, 40950, 1, with(zigzag(maxCuts, 1, 3), maxCuts-2, 2), api.OK},
		"MaxCuts, from 0 to the last cut": {zigzag(maxCuts, 1, 4), 0, 40950, 1, with(zigzag(maxCuts, 2, 5), maxCuts-1, 4), api.OK},
	}
}

// with is s with another value at its i-th cut.
func with(s []api.Cut, i, free int) []api.Cut {
	s[i].Free = free
	return s
}

// addsToTheEdge are those that come just to 0, to 2^30, or one beyond.
func addsToTheEdge() map[string]addCase {
	low := fn(0, 4, 10, 1, 20, 5)
	high := fn(0, most-4, 10, most-1, 20, most-5)
	return map[string]addCase{
		"just to 0":                        {fn(0, 4), 10, 20, -4, fn(0, 4, 10, 0, 20, 4), api.OK},
		"one below 0":                      {fn(0, 4), 10, 20, -5, nil, api.ErrOver},
		"just to 0, of one of many":        {low, 0, 30, -1, fn(0, 3, 10, 0, 20, 4, 30, 5), api.OK},
		"one below 0, of one of many":      {low, 0, 30, -2, nil, api.ErrOver},
		"by a window's last tick":          {low, 0, 11, -2, nil, api.ErrOver},
		"not behind a window":              {low, 0, 10, -2, fn(0, 2, 10, 1, 20, 5), api.OK},
		"by a window's first tick":         {low, 19, 30, -2, nil, api.ErrOver},
		"not ahead of a window":            {low, 20, 30, -2, fn(0, 4, 10, 1, 20, 3, 30, 5), api.OK},
		"within a low step":                {low, 15, 16, -2, nil, api.ErrOver},
		"by the first step":                {fn(0, 1, 10, 4), 9, 20, -2, nil, api.ErrOver},
		"by the last step":                 {fn(0, 4, 10, 1), 0, 11, -2, nil, api.ErrOver},
		"not by one at 2^41":               {fn(0, 4, last, 1), 0, last, -2, fn(0, 2, last, 1), api.OK},
		"by one ahead of 2^41":             {fn(0, 4, last-1, 1), 0, last, -2, nil, api.ErrOver},
		"0, one less":                      {fn(0, 0), 0, 1, -1, nil, api.ErrOver},
		"0, 2^30 less":                     {fn(0, 0), 0, 1, -most, nil, api.ErrOver},
		"0, 2^30 more":                     {fn(0, 0), 0, 1, most, fn(0, most, 1, 0), api.OK},
		"1, 2^30 more":                     {fn(0, 1), 0, 1, most, nil, api.ErrOver},
		"2^30, 2^30 less":                  {fn(0, most), 5, 6, -most, fn(0, most, 5, 0, 6, most), api.OK},
		"one below 2^30, 2^30 less":        {fn(0, most-1), 5, 6, -most, nil, api.ErrOver},
		"2^30, one more":                   {fn(0, most), 5, 6, 1, nil, api.ErrOver},
		"2^30, 2^30 more":                  {fn(0, most), 5, 6, most, nil, api.ErrOver},
		"one below 2^30, one more":         {fn(0, most-1), 5, 6, 1, fn(0, most-1, 5, most, 6, most-1), api.OK},
		"one below 2^30, two more":         {fn(0, most-1), 5, 6, 2, nil, api.ErrOver},
		"just to 2^30, of one of many":     {high, 0, 30, 1, fn(0, most-3, 10, most, 20, most-4, 30, most-5), api.OK},
		"one above 2^30, of one of many":   {high, 0, 30, 2, nil, api.ErrOver},
		"above, by a window's last tick":   {high, 0, 11, 2, nil, api.ErrOver},
		"above, not behind a window":       {high, 0, 10, 2, fn(0, most-2, 10, most-1, 20, most-5), api.OK},
		"above, by a window's first tick":  {high, 19, 30, 2, nil, api.ErrOver},
		"above, not ahead of a window":     {high, 20, 30, 2, fn(0, most-4, 10, most-1, 20, most-3, 30, most-5), api.OK},
		"above, not by one at 2^41":        {fn(0, 4, last, most), 0, last, 2, fn(0, 6, last, most), api.OK},
		"above and below 0 elsewhere":      {fn(0, 0, 10, 5, 20, most), 10, 20, -5, fn(0, 0, 20, most), api.OK},
		"too low ahead of what just holds": {fn(0, 3, 10, 4), 5, 20, -4, nil, api.ErrOver},
		"too low behind what just holds":   {fn(0, 4, 10, 3), 5, 20, -4, nil, api.ErrOver},
		"too low, and again in reach":      {fn(0, 4, 10, 3, 20, 4), 0, 30, -4, nil, api.ErrOver},
	}
}

// addsThatVanish are those behind which a cut is gone, at one end of the window or at both, and those of an n of 0.
func addsThatVanish() map[string]addCase {
	dent := fn(0, 4, 10, 1, 20, 4)
	stair := fn(0, 1, 10, 2, 20, 3)
	return map[string]addCase{
		"at both ends":                  {dent, 10, 20, 3, fn(0, 4), api.OK},
		"at the first one":              {fn(0, 4, 10, 1, 20, 5), 10, 20, 3, fn(0, 4, 20, 5), api.OK},
		"at the last one":               {fn(0, 5, 10, 1, 20, 4), 10, 20, 3, fn(0, 5, 10, 4), api.OK},
		"at the first one, one comes":   {dent, 10, 15, 3, fn(0, 4, 15, 1, 20, 4), api.OK},
		"at the last one, one comes":    {dent, 15, 20, 3, fn(0, 4, 10, 1, 15, 4), api.OK},
		"none, both come":               {dent, 15, 16, 3, fn(0, 4, 10, 1, 15, 4, 16, 1, 20, 4), api.OK},
		"at the first one, downwards":   {stair, 10, 20, -1, fn(0, 1, 20, 3), api.OK},
		"at the last one, upwards":      {stair, 10, 20, 1, fn(0, 1, 10, 3), api.OK},
		"from 0 on, at the last one":    {stair, 0, 10, 1, fn(0, 2, 20, 3), api.OK},
		"from 0 on, over many":          {stair, 0, 20, 1, fn(0, 2, 10, 3), api.OK},
		"at the first one, over many":   {stair, 10, 30, -1, fn(0, 1, 20, 2, 30, 3), api.OK},
		"at both ends, over many":       {fn(0, 4, 10, 1, 20, 2, 30, 5), 10, 30, 3, fn(0, 4, 20, 5), api.OK},
		"at 2^41":                       {fn(0, 4, last, 5), 10, last, 1, fn(0, 4, 10, 5), api.OK},
		"at 2^41, of all":               {fn(0, 4, last, 5), 0, last, 1, fn(0, 5), api.OK},
		"at 2^41, and at the first one": {fn(0, 4, 10, 1, last, 4), 10, last, 3, fn(0, 4), api.OK},
		"one tick":                      {fn(0, 4, 10, 1, 11, 4), 10, 11, 3, fn(0, 4), api.OK},
		"a dent becomes 0":              {fn(0, 0, 10, 3, 20, 0), 10, 20, -3, fn(0, 0), api.OK},
		"a dent becomes 2^30":           {fn(0, most, 10, 0, 20, most), 10, 20, most, fn(0, most), api.OK},
		"a hill is gone":                {fn(0, 0, 10, most, 20, 0), 10, 20, -most, fn(0, 0), api.OK},
		"nothing, flat":                 {fn(0, 4), 10, 20, 0, fn(0, 4), api.OK},
		"nothing, over all":             {dent, 0, last, 0, dent, api.OK},
		"nothing, from a cut":           {dent, 10, 20, 0, dent, api.OK},
		"nothing, within a step":        {dent, 11, 12, 0, dent, api.OK},
		"nothing, over a cut":           {dent, 9, 11, 0, dent, api.OK},
		"nothing, at 2^30":              {fn(0, most), 0, 5, 0, fn(0, most), api.OK},
		"nothing, at 0":                 {fn(0, 0), 0, 5, 0, fn(0, 0), api.OK},
		"nothing, up to a cut at 2^41":  {fn(0, 4, last, 5), 3, last, 0, fn(0, 4, last, 5), api.OK},
		"nothing, MaxCuts":              {zigzag(maxCuts, 1, 2), 15, 25, 0, zigzag(maxCuts, 1, 2), api.OK},
		"nothing, MaxCuts, one tick":    {zigzag(maxCuts, 1, 2), 15, 16, 0, zigzag(maxCuts, 1, 2), api.OK},
		"nothing, MaxCuts, over all":    {zigzag(maxCuts, 1, 2), 0, last, 0, zigzag(maxCuts, 1, 2), api.OK},
		"MaxCuts, two vanish":           {zigzag(maxCuts, 1, 2), 10, 20, -1, slices.Delete(zigzag(maxCuts, 1, 2), 1, 3), api.OK},
		"MaxCuts, the last, one comes":  {zigzag(maxCuts, 1, 2), 5, 10, 1, at(zigzag(maxCuts, 1, 2), 1, 5), api.OK},
		"MaxCuts, the first, one comes": {zigzag(maxCuts, 1, 2), 10, 15, -1, at(zigzag(maxCuts, 1, 2), 1, 15), api.OK},
		"MaxCuts, up to the last one":   {zigzag(maxCuts, 1, 2), 40945, 40950, 1, at(zigzag(maxCuts, 1, 2), maxCuts-1, 40945), api.OK},
		"MaxCuts, from the last one on": {zigzag(maxCuts, 1, 2), 40950, 40999, -1, at(zigzag(maxCuts, 1, 2), maxCuts-1, 40999), api.OK},
		"MaxCuts, from it to 2^41":      {zigzag(maxCuts, 1, 2), 40950, last, -1, at(zigzag(maxCuts, 1, 2), maxCuts-1, last), api.OK},
	}
}

// at is s with another time at its i-th cut.
func at(s []api.Cut, i int, time int64) []api.Cut {
	s[i].At = time
	return s
}

// addsThatFill are those that need as many cuts as there may be, and more.
func addsThatFill() map[string]addCase {
	two, one, full := zigzag(maxCuts-2, 1, 3), zigzag(maxCuts-1, 1, 3), zigzag(maxCuts, 1, 3)
	put := func(s []api.Cut, i int, pairs ...int64) []api.Cut {
		return slices.Insert(slices.Clone(s), i, fn(pairs...)...)
	}
	return map[string]addCase{
		"two below, two more":               {two, 3, 5, 1, put(two, 1, 3, 2, 5, 1), api.OK},
		"two below, two more, at the end":   {two, 90000, last, 1, put(two, maxCuts-2, 90000, 4, last, 3), api.OK},
		"one below, one more at the end":    {one, 5, 10, 1, put(one, 1, 5, 2), api.OK},
		"one below, one more at the first":  {one, 10, 15, 1, with(put(one, 2, 15, 3), 1, 4), api.OK},
		"one below, one more from 0 on":     {one, 0, 5, 1, put(with(slices.Clone(one), 0, 2), 1, 5, 1), api.OK},
		"one below, two more":               {one, 3, 5, 1, nil, api.ErrFull},
		"one below, two more, at the end":   {one, 90000, 90001, 1, nil, api.ErrFull},
		"one below, two more, over all":     {one, 1, last, 1, nil, api.ErrFull},
		"full, one more at the window's to": {full, 10, 15, 1, nil, api.ErrFull},
		"full, one more at its from":        {full, 5, 10, 1, nil, api.ErrFull},
		"full, one more from 0 on":          {full, 0, 5, 1, nil, api.ErrFull},
		"full, one more at 2^41":            {full, 0, last, 1, nil, api.ErrFull},
		"full, one more from the last on":   {full, 40950, last, 1, nil, api.ErrFull},
		"full, two more":                    {full, 3, 5, 1, nil, api.ErrFull},
		"full, two more, over many":         {full, 15, 25, 1, nil, api.ErrFull},
		"full, two more, at the end":        {full, 90000, last, -1, nil, api.ErrFull},
		"full, one comes, one vanishes":     {full, 5, 10, 2, at(slices.Clone(full), 1, 5), api.OK},
		"full, one comes, none vanishes":    {full, 5, 10, 3, nil, api.ErrFull},
		"full, just to 0, two more":         {full, 3, 5, -1, nil, api.ErrFull},
	}
}

// addsThatAreWrong are those whose window or n may not be, or where two errors apply.
func addsThatAreWrong() map[string]addCase {
	low, full := fn(0, 4, 10, 1, 20, 5), zigzag(maxCuts, 1, 3)
	cases := map[string]addCase{
		"one above 2^30":                  {fn(0, 0), 0, 1, most + 1, nil, api.ErrArg},
		"one below -2^30":                 {fn(0, most), 0, 1, -most - 1, nil, api.ErrArg},
		"the greatest n":                  {fn(0, 0), 0, 1, math.MaxInt, nil, api.ErrArg},
		"the least n":                     {fn(0, most), 0, 1, math.MinInt, nil, api.ErrArg},
		"an n that would wrap round":      {fn(0, most), 0, 1, math.MaxInt - most + 1, nil, api.ErrArg},
		"2^31":                            {fn(0, 0), 0, 1, 2 * most, nil, api.ErrArg},
		"-2^31":                           {fn(0, most), 0, 1, -2 * most, nil, api.ErrArg},
		"2^32 and 1":                      {fn(0, 0), 0, 1, 4*most + 1, nil, api.ErrArg},
		"a wrong n ahead of ErrOver":      {low, 10, 20, -most - 1, nil, api.ErrArg},
		"a wrong n ahead of ErrFull":      {full, 3, 5, most + 1, nil, api.ErrArg},
		"a wrong window ahead of ErrOver": {low, 20, 10, -2, nil, api.ErrArg},
		"an empty window, an n of 0":      {low, 10, 10, 0, nil, api.ErrArg},
		"a window too long, over":         {low, 0, last + 1, -2, nil, api.ErrArg},
		"a window too long, full":         {full, 5, last + 1, 1, nil, api.ErrArg},
		"below 0, and full":               {full, 3, 5, -2, nil, api.ErrOver},
		"above 2^30, and full":            {full, 3, 5, most, nil, api.ErrOver},
		"above at the end, and full":      {full, 3, 40951, most - 2, nil, api.ErrOver},
		"below at the last, and full":     {with(slices.Clone(full), maxCuts-1, 0), 3, last, -1, nil, api.ErrOver},
		"one below full, and below 0":     {zigzag(maxCuts-1, 1, 3), 13, 15, -4, nil, api.ErrOver},
		"all three":                       {full, 5, 5, -most - 1, nil, api.ErrArg},
	}
	for what, w := range wrongWindows() {
		cases["low, "+what] = addCase{low, w[0], w[1], 1, nil, api.ErrArg}
		cases["full, "+what] = addCase{full, w[0], w[1], -5, nil, api.ErrArg}
	}
	return cases
}

// P11.3: Add, with each edge that the document names.
func TestAdd(t *testing.T) {
	for _, cases := range []map[string]addCase{addsWithin(), addsToTheEdge(), addsThatVanish(), addsThatFill(), addsThatAreWrong()} {
		for name, c := range cases {
			for range 2 {
				s, e := steps.Add(c.s, c.from, c.to, c.n)
				if e != c.err || !slices.Equal(s, c.want) {
					t.Errorf("%s: %d cuts %.60v, %d, not %d cuts %.60v, %d", name, len(s), s, e, len(c.want), c.want, c.err)
				}
			}
		}
	}
}

// P11.3: Add, of all step functions with three values over six ticks: the values at each tick.
func TestAddEveryTick(t *testing.T) {
	const ticks = 9
	check := func(s []api.Cut, all []int, from, to, n int) {
		over := false
		for i := from; i < to; i++ {
			over = over || all[i]+n < 0 || all[i]+n > most
		}
		sum, e := steps.Add(s, int64(from), int64(to), n)
		if over {
			if e != api.ErrOver || len(sum) != 0 {
				t.Fatalf("Add(%v, %d, %d, %d) = %v, %d", s, from, to, n, sum, e)
			}
			return
		}
		if e != api.OK || !isRight(sum) {
			t.Fatalf("Add(%v, %d, %d, %d) = %v, %d", s, from, to, n, sum, e)
		}
		for i, v := range all {
			if from <= i && i < to {
				v += n
			}
			if valueAt(sum, int64(i)) != v {
				t.Fatalf("Add(%v, %d, %d, %d) = %v: at %d it is not %d", s, from, to, n, sum, i, v)
			}
		}
	}
	for _, low := range []int{0, most - 2} {
		eachValues(6, low, func(values []int) {
			s := ofValues(grids()[0], values)
			var all []int
			for i := range ticks {
				all = append(all, values[min(i, len(values)-1)])
			}
			for from := range ticks - 1 {
				for to := from + 1; to < ticks; to++ {
					for n := -3; n <= 3; n++ {
						check(s, all, from, to, n)
					}
				}
			}
		})
	}
}

// P11.3: Add, of step functions far out, with windows at and around all their cuts.
func TestAddFarOut(t *testing.T) {
	for _, grid := range grids()[1:] {
		times := around(grid)
		turn := 0
		eachValues(len(grid), 0, func(values []int) {
			turn++
			s := ofValues(grid, values)
			for i, from := range times {
				for j, to := range times[i+1:] {
					n := (turn+i+j)%5 - 2
					want, err := sumOf(s, from, to, n)
					if sum, e := steps.Add(s, from, to, n); e != err || !slices.Equal(sum, want) {
						t.Fatalf("Add(%v, %d, %d, %d) = %v, %d, not %v, %d", s, from, to, n, sum, e, want, err)
					}
				}
			}
		})
	}
}

// P11.3: Add, of step functions, windows and numbers that look like chance, some of which may not be.
func TestAddMany(t *testing.T) {
	d := dice(3)
	seen := map[api.Errno]int{}
	for range 60000 {
		s := d.function(20)
		from, to := d.time(s, last), d.time(s, last)
		n := d.below(9) - 4
		switch d.below(5) {
		case 0:
			n = d.below(2*most+3) - most - 1
		case 1:
			n = s[d.below(len(s))].Free - s[d.below(len(s))].Free
		case 2:
			n = -valueAt(s, from)
		}
		want, err := []api.Cut(nil), api.ErrArg
		if from < to && -most <= n && n <= most {
			want, err = sumOf(s, from, to, n)
		}
		seen[err]++
		if sum, e := steps.Add(s, from, to, n); e != err || !slices.Equal(sum, want) {
			t.Fatalf("Add(%v, %d, %d, %d) = %v, %d, not %v, %d", s, from, to, n, sum, e, want, err)
		}
	}
	if seen[api.OK] < 5000 || seen[api.ErrOver] < 5000 || seen[api.ErrArg] < 5000 {
		t.Errorf("the test is wrong: %v", seen)
	}
}

// P11.3: Add, of step functions with about as many cuts as there may be.
func TestAddAboutFull(t *testing.T) {
	d := dice(4)
	seen := map[api.Errno]int{}
	for range 400 {
		s := zigzag(maxCuts-d.below(4), 2+d.below(2), 4+d.below(2))
		first := d.below(len(s))
		near := s[max(0, first-3):min(len(s), first+4)]
		from, to := d.time(near, last), d.time(near, last)
		if from >= to {
			from, to = to, from+1
		}
		n := d.below(7) - 3
		// Behind and ahead of the window the model need not look: its many cuts stay as they are.
		want, err := sumNear(s, from, to, n)
		seen[err]++
		if sum, e := steps.Add(s, from, to, n); e != err || !slices.Equal(sum, want) {
			t.Fatalf("Add of %d cuts, %d, %d, %d: %d cuts, %d, not %d, %d", len(s), from, to, n, len(sum), e, len(want), err)
		}
	}
	if seen[api.OK] < 50 || seen[api.ErrFull] < 50 || seen[api.ErrOver] < 5 {
		t.Errorf("the test is wrong: %v", seen)
	}
}

// sumNear is sumOf, reckoned for the cuts around the window alone.
func sumNear(s []api.Cut, from, to int64, n int) ([]api.Cut, api.Errno) {
	begin, end := 0, len(s)
	for i, c := range s {
		if c.At < from-20 {
			begin = i
		}
		if c.At > to+20 {
			end = min(end, i)
		}
	}
	near, err := sumOf(s[begin:end], from, to, n)
	if err != api.OK {
		return nil, err
	}
	sum := slices.Concat(s[:begin], near, s[end:])
	if len(sum) > maxCuts {
		return nil, api.ErrFull
	}
	return sum, api.OK
}
