package profile_test

import (
	"math"
	"math/bits"
	"slices"
	"testing"

	"muster/api"
	"muster/profile"
)

// isOpen tells whether a node is open for a at t, word by word.
func isOpen(p [][]api.Cut, a api.Ask, node int, t int64) bool {
	if !has(a.Nodes, node) || leastOf(p[node], t, t+a.Limit) < a.Cores {
		return false
	}
	for _, b := range a.Blocks {
		if has(b.Nodes, node) && max(b.From, t) < min(b.To, t+a.Limit) {
			return false
		}
	}
	return true
}

// lowest is the n lowest nodes of s, if it has as many.
func lowest(s api.Set, n int) (api.Set, bool) {
	if bits.OnesCount32(uint32(s)) < n {
		return 0, false
	}
	for bits.OnesCount32(uint32(s)) > n {
		s -= 1 << (bits.Len32(uint32(s)) - 1)
	}
	return s, true
}

// fitOf is what Fit is to tell: of all times that are From, a cut's or a block's end, the first at which enough nodes are open.
func fitOf(p [][]api.Cut, a api.Ask) (int64, api.Set, api.Errno) {
	candidates := []int64{a.From}
	for _, s := range p {
		for _, c := range s {
			candidates = append(candidates, c.At)
		}
	}
	for _, b := range a.Blocks {
		candidates = append(candidates, b.To)
	}
	slices.Sort(candidates)
	for _, t := range slices.Compact(candidates) {
		if t < a.From || t > maxTime {
			continue
		}
		var open api.Set
		for node := range p {
			if isOpen(p, a, node, t) {
				open += 1 << node
			}
		}
		if on, is := lowest(open, a.Count); is {
			return t, on, api.OK
		}
	}
	return 0, 0, api.ErrOver
}

// blocks is a list of blocks, each told by its nodes, its From and its To.
func blocks(numbers ...int64) []api.Block {
	var l []api.Block
	for i := 0; i < len(numbers); i += 3 {
		l = append(l, api.Block{Nodes: api.Set(numbers[i]), From: numbers[i+1], To: numbers[i+2]})
	}
	return l
}

// ask is one for nodes, told by its count, cores, limit, from and set.
func ask(count, cores int, limit, from int64, nodes api.Set, numbers ...int64) api.Ask {
	return api.Ask{Count: count, Cores: cores, Limit: limit, From: from, Nodes: nodes, Blocks: blocks(numbers...)}
}

// fitCase is a Fit, and what it is to answer.
type fitCase struct {
	p   [][]api.Cut
	a   api.Ask
	at  int64
	on  api.Set
	err api.Errno
}

// check asks Fit, twice: the same call has the same answer.
func (c fitCase) check(t *testing.T, name string) {
	t.Helper()
	for range 2 {
		if at, on, e := profile.Fit(c.p, c.a); at != c.at || on != c.on || e != c.err {
			t.Errorf("%s: %d, %b, %d, not %d, %b, %d", name, at, on, e, c.at, c.on, c.err)
		}
	}
}

// fitsOfCores are those in which only cores are asked for.
func fitsOfCores() map[string]fitCase {
	two := flats(4, 4)
	taken := of(fn(0, 1, 10, 4), fn(0, 4))
	stairs := of(fn(0, 4, 10, 0, 30, 4), fn(0, 0, 10, 4, 20, 0, 40, 4), fn(0, 0, 20, 4))
	full := flats(times(maxNodes, maxCores)...)
	return map[string]fitCase{
		"at From":                            {two, ask(1, 4, 5, 0, 3), 0, 1, api.OK},
		"at a later From":                    {two, ask(1, 4, 5, 7, 3), 7, 1, api.OK},
		"the second node alone":              {two, ask(1, 4, 5, 0, 2), 0, 2, api.OK},
		"both":                               {two, ask(2, 4, 5, 0, 3), 0, 3, api.OK},
		"three of two":                       {two, ask(3, 1, 5, 0, 3), 0, 0, api.ErrOver},
		"three of two, all asked":            {two, ask(3, 1, 5, 0, every), 0, 0, api.ErrOver},
		"MaxNodes of two":                    {two, ask(maxNodes, 1, 5, 0, every), 0, 0, api.ErrOver},
		"two of one that is asked":           {two, ask(2, 1, 5, 0, 1), 0, 0, api.ErrOver},
		"one of none":                        {two, ask(1, 1, 5, 0, 0), 0, 0, api.ErrOver},
		"one that is not there":              {two, ask(1, 1, 5, 0, 4), 0, 0, api.ErrOver},
		"node 31, not there":                 {full[:31], ask(1, 1, 5, 0, node31), 0, 0, api.ErrOver},
		"one that is there":                  {two, ask(1, 1, 5, 0, every&^1), 0, 2, api.OK},
		"two, one of them there":             {two, ask(2, 1, 5, 0, every&^1), 0, 0, api.ErrOver},
		"too many cores":                     {two, ask(1, 5, 5, 0, 3), 0, 0, api.ErrOver},
		"MaxCores":                           {full, ask(1, maxCores, 5, 0, every), 0, 1, api.OK},
		"MaxCores, of one less":              {flats(maxCores-1, maxCores), ask(1, maxCores, 5, 0, 3), 0, 2, api.OK},
		"node 31":                            {full, ask(1, maxCores, 5, 0, node31), 0, node31, api.OK},
		"MaxNodes":                           {full, ask(maxNodes, maxCores, maxLimit, maxTime, every), maxTime, every, api.OK},
		"MaxNodes, one not asked":            {full, ask(maxNodes, 1, 1, 0, every&^16), 0, 0, api.ErrOver},
		"the lowest of many":                 {full, ask(3, 1, 1, 0, every), 0, 7, api.OK},
		"the lowest of those asked":          {full, ask(3, 1, 1, 0, 0xF0F0), 0, 0x70, api.OK},
		"the lowest of the highest":          {full, ask(1, 1, 1, 0, 3<<30), 0, 1 << 30, api.OK},
		"the lowest of those open":           {of(fn(0, 1, 10, 4), fn(0, 4), fn(0, 4), fn(0, 4)), ask(2, 2, 5, 0, 15), 0, 6, api.OK},
		"the other node":                     {taken, ask(1, 2, 5, 0, 3), 0, 2, api.OK},
		"the first node, at a cut":           {taken, ask(1, 2, 5, 0, 1), 10, 1, api.OK},
		"both, at a cut":                     {taken, ask(2, 2, 5, 0, 3), 10, 3, api.OK},
		"both, what is left":                 {taken, ask(2, 1, 5, 0, 3), 0, 3, api.OK},
		"from ahead of a cut":                {taken, ask(2, 2, 5, 9, 3), 10, 3, api.OK},
		"from a cut on":                      {taken, ask(2, 2, 5, 10, 3), 10, 3, api.OK},
		"from behind a cut":                  {taken, ask(2, 2, 5, 11, 3), 11, 3, api.OK},
		"just up to a cut":                   {of(fn(0, 4, 10, 1, 20, 4)), ask(1, 2, 10, 0, 1), 0, 1, api.OK},
		"one tick beyond a cut":              {of(fn(0, 4, 10, 1, 20, 4)), ask(1, 2, 11, 0, 1), 20, 1, api.OK},
		"one tick late":                      {of(fn(0, 4, 10, 1, 20, 4)), ask(1, 2, 10, 1, 1), 20, 1, api.OK},
		"a gap that is just enough":          {of(fn(0, 0, 10, 4, 15, 0, 20, 4)), ask(1, 2, 5, 0, 1), 10, 1, api.OK},
		"a gap that is too short":            {of(fn(0, 0, 10, 4, 15, 0, 20, 4)), ask(1, 2, 6, 0, 1), 20, 1, api.OK},
		"no gap that is enough":              {of(fn(0, 0, 10, 4, 15, 0)), ask(1, 2, 6, 0, 1), 0, 0, api.ErrOver},
		"one of three":                       {stairs, ask(1, 4, 10, 0, 7), 0, 1, api.OK},
		"one of three, one tick longer":      {stairs, ask(1, 4, 11, 0, 7), 20, 4, api.OK},
		"two of three":                       {stairs, ask(2, 4, 10, 0, 7), 30, 5, api.OK},
		"all of three":                       {stairs, ask(3, 4, 10, 0, 7), 40, 7, api.OK},
		"two of three, the last ones":        {stairs, ask(2, 4, 10, 0, 6), 40, 6, api.OK},
		"never at once":                      {of(fn(0, 4, 10, 0), fn(0, 0, 10, 4)), ask(2, 1, 1, 0, 3), 0, 0, api.ErrOver},
		"never at once, but one of them":     {of(fn(0, 4, 10, 0), fn(0, 0, 10, 4)), ask(1, 1, 1, 9, 3), 9, 1, api.OK},
		"the other one, a tick later":        {of(fn(0, 4, 10, 0), fn(0, 0, 10, 4)), ask(1, 1, 1, 10, 3), 10, 2, api.OK},
		"the other one, two ticks":           {of(fn(0, 4, 10, 0), fn(0, 0, 10, 4)), ask(1, 1, 2, 9, 3), 10, 2, api.OK},
		"for one tick at once":               {of(fn(0, 4, 11, 0), fn(0, 0, 10, 4)), ask(2, 1, 1, 0, 3), 10, 3, api.OK},
		"for one tick, two asked":            {of(fn(0, 4, 11, 0), fn(0, 0, 10, 4)), ask(2, 1, 2, 0, 3), 0, 0, api.ErrOver},
		"low steps side by side":             {of(fn(0, 4, 10, 1, 11, 2, 12, 0, 13, 4)), ask(1, 3, 2, 9, 1), 13, 1, api.OK},
		"steps that are enough side by side": {of(fn(0, 1, 10, 4, 11, 3, 12, 5, 13, 1)), ask(1, 3, 3, 0, 1), 10, 1, api.OK},
		"ends of one node, then another":     {of(fn(0, 0, 5, 4, 6, 0, 20, 4), fn(0, 0, 6, 4, 7, 0, 20, 4)), ask(2, 1, 1, 0, 3), 20, 3, api.OK},
	}
}

// fitsFarOut are those around MaxTime and behind it, and with the longest limit.
func fitsFarOut() map[string]fitCase {
	return map[string]fitCase{
		"at MaxTime":                         {flats(4), ask(1, 4, 1, maxTime, 1), maxTime, 1, api.OK},
		"at MaxTime, the longest":            {flats(4), ask(1, 4, maxLimit, maxTime, 1), maxTime, 1, api.OK},
		"at a cut at MaxTime":                {of(fn(0, 0, maxTime, 4)), ask(1, 4, maxLimit, 0, 1), maxTime, 1, api.OK},
		"at a cut ahead of MaxTime":          {of(fn(0, 0, maxTime-1, 4)), ask(1, 4, maxLimit, 0, 1), maxTime - 1, 1, api.OK},
		"a cut behind MaxTime":               {of(fn(0, 0, maxTime+1, 4)), ask(1, 4, 1, 0, 1), 0, 0, api.ErrOver},
		"a cut behind it, from MaxTime":      {of(fn(0, 0, maxTime+1, 4)), ask(1, 4, 1, maxTime, 1), 0, 0, api.ErrOver},
		"a cut at 2^41":                      {of(fn(0, 0, last, 4)), ask(1, 4, 1, 0, 1), 0, 0, api.ErrOver},
		"down at MaxTime":                    {of(fn(0, 4, maxTime, 0)), ask(1, 4, 1, maxTime-1, 1), maxTime - 1, 1, api.OK},
		"down at MaxTime, two ticks":         {of(fn(0, 4, maxTime, 0)), ask(1, 4, 2, maxTime-1, 1), 0, 0, api.ErrOver},
		"down at MaxTime, from there":        {of(fn(0, 4, maxTime, 0)), ask(1, 4, 1, maxTime, 1), 0, 0, api.ErrOver},
		"down for a tick at MaxTime":         {of(fn(0, 4, maxTime, 0, maxTime+1, 4)), ask(1, 4, 1, maxTime, 1), 0, 0, api.ErrOver},
		"down behind MaxTime":                {of(fn(0, 4, maxTime+1, 0)), ask(1, 4, 1, maxTime, 1), maxTime, 1, api.OK},
		"down behind MaxTime, two ticks":     {of(fn(0, 4, maxTime+1, 0)), ask(1, 4, 2, maxTime, 1), 0, 0, api.ErrOver},
		"just up to where it is down":        {of(fn(0, 4, maxTime+maxLimit, 0)), ask(1, 4, maxLimit, maxTime, 1), maxTime, 1, api.OK},
		"one tick too early down":            {of(fn(0, 4, maxTime+maxLimit-1, 0)), ask(1, 4, maxLimit, maxTime, 1), 0, 0, api.ErrOver},
		"down at 2^41":                       {of(fn(0, 4, last, 0)), ask(1, 4, maxLimit, maxTime, 1), maxTime, 1, api.OK},
		"the longest, just up to a cut":      {of(fn(0, 4, maxLimit, 0)), ask(1, 4, maxLimit, 0, 1), 0, 1, api.OK},
		"the longest, one tick beyond":       {of(fn(0, 4, maxLimit, 0)), ask(1, 4, maxLimit, 1, 1), 0, 0, api.ErrOver},
		"a block that ends at MaxTime":       {flats(4), ask(1, 4, maxLimit, 0, 1, 1, 0, maxTime), maxTime, 1, api.OK},
		"a block that ends behind MaxTime":   {flats(4), ask(1, 4, 1, 0, 1, 1, 0, maxTime+1), 0, 0, api.ErrOver},
		"a block that ends at 2^41":          {flats(4), ask(1, 4, 1, 0, 1, 1, 0, last), 0, 0, api.ErrOver},
		"a block up to 2^41, ahead of it":    {flats(4), ask(1, 4, 5, 0, 1, 1, 5, last), 0, 1, api.OK},
		"a block up to 2^41, one tick into":  {flats(4), ask(1, 4, 6, 0, 1, 1, 5, last), 0, 0, api.ErrOver},
		"a block of the last tick":           {flats(4), ask(1, 4, maxLimit, maxTime, 1, 1, last-1, last), maxTime, 1, api.OK},
		"a block of MaxTime alone":           {flats(4), ask(1, 4, 1, maxTime, 1, 1, maxTime, maxTime+1), 0, 0, api.ErrOver},
		"a block just behind MaxTime":        {flats(4), ask(1, 4, 1, maxTime, 1, 1, maxTime+1, last), maxTime, 1, api.OK},
		"a block just behind, two ticks":     {flats(4), ask(1, 4, 2, maxTime, 1, 1, maxTime+1, last), 0, 0, api.ErrOver},
		"at MaxTime, of two, one is blocked": {flats(4, 4), ask(1, 4, 1, maxTime, 3, 1, 0, last), maxTime, 2, api.OK},
	}
}

// fitsOfBlocks are those with blocks.
func fitsOfBlocks() map[string]fitCase {
	two := flats(4, 4)
	taken := of(fn(0, 1, 10, 4), fn(0, 4))
	return map[string]fitCase{
		"that ends where the window begins":    {two, ask(2, 1, 5, 10, 3, 3, 0, 10), 10, 3, api.OK},
		"that ends one tick into it":           {two, ask(2, 1, 5, 10, 3, 3, 0, 11), 11, 3, api.OK},
		"that begins where the window ends":    {two, ask(2, 1, 5, 10, 3, 3, 15, 20), 10, 3, api.OK},
		"that begins one tick into it":         {two, ask(2, 1, 5, 10, 3, 3, 14, 20), 20, 3, api.OK},
		"on both sides of the window":          {two, ask(2, 1, 5, 10, 3, 3, 0, 10, 3, 15, 20), 10, 3, api.OK},
		"that leave one tick too few":          {two, ask(2, 1, 5, 0, 3, 3, 0, 10, 3, 14, 20), 20, 3, api.OK},
		"that leave just enough":               {two, ask(2, 1, 5, 0, 3, 3, 0, 10, 3, 15, 20), 10, 3, api.OK},
		"within the window":                    {two, ask(2, 1, 5, 10, 3, 3, 12, 13), 13, 3, api.OK},
		"around the window":                    {two, ask(2, 1, 5, 10, 3, 3, 9, 16), 16, 3, api.OK},
		"just the window":                      {two, ask(2, 1, 5, 10, 3, 3, 10, 15), 15, 3, api.OK},
		"of the window's first tick":           {two, ask(2, 1, 5, 10, 3, 3, 10, 11), 11, 3, api.OK},
		"of the window's last tick":            {two, ask(2, 1, 5, 10, 3, 3, 14, 15), 15, 3, api.OK},
		"of one tick, one tick is asked":       {two, ask(2, 1, 1, 10, 3, 3, 10, 11), 11, 3, api.OK},
		"of tick 0":                            {two, ask(2, 1, 1, 0, 3, 3, 0, 1), 1, 3, api.OK},
		"that end one behind the other":        {two, ask(2, 1, 5, 0, 3, 1, 0, 10, 2, 10, 20, 1, 20, 30), 30, 3, api.OK},
		"that touch":                           {two, ask(1, 1, 1, 0, 1, 1, 0, 10, 1, 10, 20), 20, 1, api.OK},
		"that leave one tick":                  {two, ask(1, 1, 1, 0, 1, 1, 0, 10, 1, 11, 20), 10, 1, api.OK},
		"that lie in one another":              {two, ask(1, 1, 1, 0, 1, 1, 0, 30, 1, 5, 10), 30, 1, api.OK},
		"that lie in one another, turned":      {two, ask(1, 1, 1, 0, 1, 1, 5, 10, 1, 0, 30), 30, 1, api.OK},
		"that overlap":                         {two, ask(1, 1, 1, 0, 1, 1, 0, 20, 1, 10, 30), 30, 1, api.OK},
		"that fall":                            {two, ask(1, 1, 5, 0, 1, 1, 20, 30, 1, 8, 18, 1, 0, 6), 30, 1, api.OK},
		"the same twice":                       {two, ask(1, 1, 5, 0, 1, 1, 0, 6, 1, 0, 6), 6, 1, api.OK},
		"of no nodes":                          {two, ask(2, 1, 5, 0, 3, 0, 0, last), 0, 3, api.OK},
		"of one node":                          {two, ask(1, 1, 5, 0, 3, 1, 0, last), 0, 2, api.OK},
		"of one node, both asked":              {two, ask(2, 1, 5, 0, 3, 1, 0, 10), 10, 3, api.OK},
		"of one node, both asked, always":      {two, ask(2, 1, 5, 0, 3, 1, 0, last), 0, 0, api.ErrOver},
		"of a node that is not asked":          {two, ask(1, 1, 5, 0, 1, 2, 0, last), 0, 1, api.OK},
		"of a node that is not there":          {two, ask(2, 1, 5, 0, every, 4, 0, last), 0, 3, api.OK},
		"of node 31, not there":                {two, ask(2, 1, 5, 0, every, int64(node31), 0, last), 0, 3, api.OK},
		"of all, there or not":                 {two, ask(2, 1, 5, 0, every, int64(every), 0, 10), 10, 3, api.OK},
		"of all but those that are there":      {two, ask(2, 1, 5, 0, every, int64(every&^3), 0, last), 0, 3, api.OK},
		"of node 31":                           {flats(times(maxNodes, 4)...), ask(maxNodes, 1, 5, 0, every, int64(node31), 0, 10), 10, every, api.OK},
		"that end ahead of From":               {two, ask(2, 1, 5, 10, 3, 3, 0, 5), 10, 3, api.OK},
		"the chapter's, limit 5":               {taken, ask(1, 2, 5, 0, 3, 2, 3, 20), 10, 1, api.OK},
		"the chapter's, limit 3":               {taken, ask(1, 2, 3, 0, 3, 2, 3, 20), 0, 2, api.OK},
		"the chapter's, limit 4":               {taken, ask(1, 2, 4, 0, 3, 2, 3, 20), 10, 1, api.OK},
		"the chapter's, both":                  {taken, ask(2, 2, 3, 0, 3, 2, 3, 20), 20, 3, api.OK},
		"that end in a dent":                   {of(fn(0, 4, 10, 0, 20, 4)), ask(1, 1, 5, 0, 1, 1, 0, 7), 20, 1, api.OK},
		"that end just early enough":           {of(fn(0, 4, 10, 0, 20, 4)), ask(1, 1, 5, 0, 1, 1, 0, 5), 5, 1, api.OK},
		"that end one tick too late":           {of(fn(0, 4, 10, 0, 20, 4)), ask(1, 1, 5, 0, 1, 1, 0, 6), 20, 1, api.OK},
		"a dent that ends in a block":          {of(fn(0, 0, 10, 4)), ask(1, 1, 5, 0, 1, 1, 5, 15), 15, 1, api.OK},
		"a dent, then a block too early":       {of(fn(0, 0, 10, 4)), ask(1, 1, 5, 0, 1, 1, 14, 20), 20, 1, api.OK},
		"a dent, then a block":                 {of(fn(0, 0, 10, 4)), ask(1, 1, 5, 0, 1, 1, 15, 20), 10, 1, api.OK},
		"that hide the lowest":                 {flats(4, 4, 4, 4), ask(2, 1, 5, 0, 15, 2, 4, 5), 0, 5, api.OK},
		"that hide all but the highest":        {flats(4, 4, 4, 4), ask(1, 1, 5, 0, 15, 7, 4, 5), 0, 8, api.OK},
		"that hide all but the highest, twice": {flats(4, 4, 4, 4), ask(2, 1, 5, 0, 15, 7, 4, 5), 5, 3, api.OK},
	}
}

// P12.4: Fit, with each edge that the document names.
func TestFit(t *testing.T) {
	for _, cases := range []map[string]fitCase{fitsOfCores(), fitsFarOut(), fitsOfBlocks()} {
		for name, c := range cases {
			c.check(t, name)
			at, on, e := fitOf(c.p, c.a)
			if at != c.at || on != c.on || e != c.err {
				t.Errorf("%s: the test is wrong: %d, %b, %d", name, at, on, e)
			}
		}
	}
}

// changedAsk is a right ask with one thing in it changed.
func changedAsk(change func(a *api.Ask)) api.Ask {
	a := ask(1, 1, 5, 0, 3, 1, 0, 10)
	change(&a)
	return a
}

// wrongAsks are those that are not right, in each way.
func wrongAsks() map[string]api.Ask {
	wrong := map[string]api.Ask{"empty": {}}
	put := func(name string, n int64, change func(a *api.Ask)) {
		wrong[name+" "+text(n)] = changedAsk(change)
	}
	for _, n := range []int{0, -1, -2, math.MinInt, math.MinInt32, maxNodes + 1, maxNodes + 2, 2 * maxNodes, 1<<32 + 1, math.MaxInt32, math.MaxInt} {
		put("Count", int64(n), func(a *api.Ask) { a.Count = n })
	}
	for _, n := range []int{0, -1, -2, math.MinInt, math.MinInt32, maxCores + 1, maxCores + 2, 2 * maxCores, most, 1<<32 + 1, math.MaxInt32, math.MaxInt} {
		put("Cores", int64(n), func(a *api.Ask) { a.Cores = n })
	}
	for _, n := range []int64{0, -1, -2, least64, maxLimit + 1, maxLimit + 2, 2 * maxLimit, maxTime, last, 1<<32 + 1, great64} {
		put("Limit", n, func(a *api.Ask) { a.Limit = n })
	}
	for _, n := range []int64{-1, -2, -maxTime, least64, maxTime + 1, maxTime + 2, last, last + 1, great64} {
		put("From", n, func(a *api.Ask) { a.From = n })
	}
	for _, n := range []int{maxCuts + 1, maxCuts + 2, 2 * maxCuts, 100000} {
		put("blocks", int64(n), func(a *api.Ask) { a.Blocks = slices.Repeat(blocks(0, 0, 1), n) })
	}
	for name, w := range wrongWindows() {
		// A block is asked whichever nodes it has: none, such that are not asked for, such that are not there.
		for _, nodes := range []api.Set{0, 1, 2, node31, every} {
			b := api.Block{Nodes: nodes, From: w[0], To: w[1]}
			of := text(int64(nodes)) + ", " + name
			wrong["a block of "+of] = changedAsk(func(a *api.Ask) { a.Blocks = []api.Block{b} })
			wrong["the first block of "+of] = changedAsk(func(a *api.Ask) { a.Blocks = append([]api.Block{b}, a.Blocks...) })
			wrong["the last block of "+of] = changedAsk(func(a *api.Ask) { a.Blocks = append(a.Blocks, b) })
		}
		wrong["the last of MaxCuts blocks, "+name] = changedAsk(func(a *api.Ask) {
			a.Blocks = append(slices.Repeat(blocks(0, 0, 1), maxCuts-1), api.Block{Nodes: 1, From: w[0], To: w[1]})
		})
	}
	return wrong
}

// P12.4: Fit, of asks that are not right, ahead of ErrOver; and of those at the same edges that are.
func TestAsksRefused(t *testing.T) {
	for name, a := range wrongAsks() {
		for _, p := range [][][]api.Cut{flats(4, 4), flats(0), flats(times(maxNodes, 4)...)} {
			if at, on, e := profile.Fit(p, a); at != 0 || on != 0 || e != api.ErrArg {
				t.Errorf("%s: %d, %b, %d", name, at, on, e)
			}
			a.Nodes = 0 // what is asked of no node is refused, too
			if at, on, e := profile.Fit(p, a); at != 0 || on != 0 || e != api.ErrArg {
				t.Errorf("%s, no nodes: %d, %b, %d", name, at, on, e)
			}
		}
	}
	full := flats(times(maxNodes, maxCores)...)
	for name, c := range map[string]fitCase{
		"Count 1":          {full, changedAsk(func(a *api.Ask) { a.Count = 1 }), 0, 2, api.OK},
		"Count MaxNodes":   {full, changedAsk(func(a *api.Ask) { a.Count = maxNodes; a.Nodes = every }), 10, every, api.OK},
		"Cores 1":          {full, changedAsk(func(a *api.Ask) { a.Cores = 1 }), 0, 2, api.OK},
		"Cores MaxCores":   {full, changedAsk(func(a *api.Ask) { a.Cores = maxCores }), 0, 2, api.OK},
		"Limit 1":          {full, changedAsk(func(a *api.Ask) { a.Limit = 1 }), 0, 2, api.OK},
		"Limit MaxLimit":   {full, changedAsk(func(a *api.Ask) { a.Limit = maxLimit }), 0, 2, api.OK},
		"From 0":           {full, changedAsk(func(a *api.Ask) { a.From = 0 }), 0, 2, api.OK},
		"From MaxTime":     {full, changedAsk(func(a *api.Ask) { a.From = maxTime }), maxTime, 1, api.OK},
		"no blocks":        {full, changedAsk(func(a *api.Ask) { a.Blocks = nil }), 0, 1, api.OK},
		"an empty list":    {full, changedAsk(func(a *api.Ask) { a.Blocks = []api.Block{} }), 0, 1, api.OK},
		"one below":        {full, changedAsk(func(a *api.Ask) { a.Blocks = slices.Repeat(blocks(3, 0, 10), maxCuts-1) }), 10, 1, api.OK},
		"MaxCuts blocks":   {full, changedAsk(func(a *api.Ask) { a.Blocks = slices.Repeat(blocks(3, 0, 10), maxCuts) }), 10, 1, api.OK},
		"a block from 0":   {full, changedAsk(func(a *api.Ask) { a.Blocks = blocks(3, 0, 1) }), 1, 1, api.OK},
		"a block to 2^41":  {full, changedAsk(func(a *api.Ask) { a.Blocks = blocks(3, last-1, last) }), 0, 1, api.OK},
		"all that is time": {full, changedAsk(func(a *api.Ask) { a.Blocks = blocks(1, 0, last) }), 0, 2, api.OK},
	} {
		c.check(t, name)
	}
}

// P12.4: Fit, of all pairs of step functions with three values over four ticks: each tick is asked, one behind the other.
func TestFitEveryTick(t *testing.T) {
	const ticks = 16
	var functions [][]api.Cut
	for n := range 81 {
		var s []api.Cut
		for i := range 4 {
			if v := n / []int{1, 3, 9, 27}[i] % 3; i == 0 || v != s[len(s)-1].Free {
				s = append(s, api.Cut{At: int64(2 * i), Free: v})
			}
		}
		functions = append(functions, s)
	}
	for _, one := range functions {
		for _, other := range functions {
			p := of(one, other)
			for _, a := range []api.Ask{
				ask(1, 1, 1, 0, 3), ask(1, 2, 3, 0, 3), ask(2, 1, 2, 0, 3), ask(2, 2, 1, 1, 3), ask(2, 2, 3, 2, 3), ask(2, 1, 5, 0, 3),
				ask(1, 1, 2, 3, 2), ask(1, 1, 2, 0, 3, 1, 2, 4), ask(2, 1, 1, 0, 3, 1, 0, 3, 2, 4, 5), ask(2, 1, 2, 1, 3, 3, 3, 4, 2, 6, 8),
			} {
				checkTicks(t, p, a, ticks)
			}
		}
	}
}

// checkTicks asks Fit, of a profile and blocks that are the same for ever from half of the ticks on, against what single ticks say.
func checkTicks(t *testing.T, p [][]api.Cut, a api.Ask, ticks int64) {
	t.Helper()
	shut := func(node int, at int64) bool {
		for _, b := range a.Blocks {
			if has(b.Nodes, node) && b.From <= at && at < b.To {
				return true
			}
		}
		return valueAt(p[node], at) < a.Cores
	}
	wantAt, wantOn, want := int64(0), api.Set(0), api.ErrOver
	for at := a.From; at < ticks && want != api.OK; at++ {
		var open api.Set
		for node := range p {
			is := has(a.Nodes, node)
			for tick := range a.Limit {
				is = is && !shut(node, at+tick)
			}
			if is {
				open += 1 << node
			}
		}
		if on, enough := lowest(open, a.Count); enough {
			wantAt, wantOn, want = at, on, api.OK
		}
	}
	if at, on, e := profile.Fit(p, a); at != wantAt || on != wantOn || e != want {
		t.Fatalf("Fit(%v, %+v) = %d, %b, %d, not %d, %b, %d", p, a, at, on, e, wantAt, wantOn, want)
	}
}

// P12.4: Fit, of small profiles and asks that look like chance, tick by tick.
func TestFitTicksMany(t *testing.T) {
	d := dice(4)
	for range 60000 {
		var p [][]api.Cut
		for range 1 + d.below(5) {
			s := fn(0, int64(d.below(3)))
			for at := int64(1); at < 16; at += 1 + int64(d.below(5)) {
				if v := d.below(3); v != s[len(s)-1].Free {
					s = append(s, api.Cut{At: at, Free: v})
				}
			}
			p = append(p, s)
		}
		a := ask(1+d.below(len(p)), 1+d.below(2), 1+int64(d.below(6)), int64(d.below(14)), d.set()|d.set())
		for range d.below(5) {
			from := int64(d.below(15))
			a.Blocks = append(a.Blocks, api.Block{Nodes: d.set(), From: from, To: from + 1 + int64(d.below(int(16-from)))})
		}
		checkTicks(t, p, a, 40)
	}
}

// ask is one whose times are close to those of p, or not.
func (d *dice) ask(p [][]api.Cut) api.Ask {
	a := api.Ask{Count: 1 + d.below(len(p)), Cores: 1 + d.below(5), Limit: 1 + int64(d.below(int(maxLimit))), From: d.time(p, maxTime), Nodes: d.set() | d.set()}
	if d.below(2) == 0 {
		a.Limit = 1 + int64(d.below(40))
	}
	if d.below(3) == 0 {
		a.From = 0
	}
	if d.below(2) == 0 {
		a.Count = 1 + d.below(2)
	}
	for range d.below(6) {
		from, to := d.time(p, last), d.time(p, last)
		if d.below(2) == 0 {
			to = from + a.Limit + int64(d.below(3)) - 1
		}
		if from < to && to <= last {
			a.Blocks = append(a.Blocks, api.Block{Nodes: d.set(), From: from, To: to})
		}
	}
	return a
}

// P12.4: Fit, of profiles and asks that look like chance, near and far out.
func TestFitMany(t *testing.T) {
	d := dice(5)
	seen := map[string]int{}
	for range 40000 {
		p := d.profile(8, 12)
		a := d.ask(p)
		wantAt, wantOn, want := fitOf(p, a)
		isEnd := slices.ContainsFunc(a.Blocks, func(b api.Block) bool { return b.To == wantAt })
		switch {
		case want != api.OK:
			seen["none"]++
		case wantAt == a.From:
			seen["from"]++
		case isEnd:
			seen["end"]++
		default:
			seen["cut"]++
		}
		if at, on, e := profile.Fit(p, a); at != wantAt || on != wantOn || e != want {
			t.Fatalf("Fit(%v, %+v) = %d, %b, %d, not %d, %b, %d", p, a, at, on, e, wantAt, wantOn, want)
		}
	}
	for _, kind := range []string{"none", "from", "end", "cut"} {
		if seen[kind] < 1000 {
			t.Errorf("the test is wrong: %v", seen)
		}
	}
}

// P12.4: Fit, of as many cuts and blocks as may be: nodes that are open by turns, and all of them at last.
func TestFitOfMaxCuts(t *testing.T) {
	const period = 320
	p := make([][]api.Cut, maxNodes)
	for node := range p {
		// Each node is closed for ten ticks of each period, the next one for the next ten.
		begin := int64(node) * 10
		if node == 0 {
			begin = period
		}
		s := fn(0, 4)
		for len(s)+2 <= maxCuts {
			s = append(s, api.Cut{At: begin, Free: 1}, api.Cut{At: begin + 10, Free: 4})
			begin += period
		}
		p[node] = s
	}
	tail := p[0][len(p[0])-1].At
	for name, c := range map[string]fitCase{
		"all, when the last one has opened": {p, ask(maxNodes, 2, 1, 10, every), tail, every, api.OK},
		"all but one, at once":              {p, ask(maxNodes-1, 2, 5, 322, every), 322, every &^ 1, api.OK},
		"all but one, behind a cut":         {p, ask(maxNodes-1, 2, 5, 326, every), 330, every &^ 2, api.OK},
		"all but one, for longer":           {p, ask(maxNodes-1, 2, 11, 322, every), tail - 10, every &^ 1, api.OK},
		"all with one core":                 {p, ask(maxNodes, 1, maxLimit, 322, every), 322, every, api.OK},
		"too many cores":                    {p, ask(1, 5, 1, 0, every), 0, 0, api.ErrOver},
		"the last node, longer than gaps":   {p, ask(1, 2, 311, 0, node31), p[31][len(p[31])-1].At, node31, api.OK},
		"the last node, as long as a gap":   {p, ask(1, 2, 310, 1, node31), 320, node31, api.OK},
	} {
		c.check(t, name)
	}
	blocked := ask(maxNodes, 1, 1, 0, every)
	for i := range int64(maxCuts) {
		blocked.Blocks = append(blocked.Blocks, api.Block{Nodes: api.Set(1) << (i % maxNodes), From: i * 10, To: i*10 + 10})
	}
	fitCase{p, blocked, maxCuts * 10, every, api.OK}.check(t, "as many blocks as MaxCuts")
	slices.Reverse(blocked.Blocks)
	fitCase{p, blocked, maxCuts * 10, every, api.OK}.check(t, "as many blocks as MaxCuts, that fall")
	for i := range blocked.Blocks {
		blocked.Blocks[i].Nodes = every
	}
	fitCase{p, blocked, maxCuts * 10, every, api.OK}.check(t, "as many blocks as MaxCuts, of all")
	blocked.Blocks[0].To = last
	fitCase{p, blocked, 0, 0, api.ErrOver}.check(t, "as many blocks as MaxCuts, of all, for ever")
}
