package lay

import (
	"cmp"
	"slices"
	"sort"
	"strings"

	"gossamer/api"
	"gossamer/hres"
)

// few is how many keys are as fast held against all records, one by one, as the
// records are put in order.
const few = 16

// used tells of records which keys they use. There may be many records, many
// scopes, and many keys: to hold each against each would take too long.
type used struct {
	// plain has the records, if they are not put in order.
	plain []api.Record
	// exact has the bases of the records of a specifier, rising.
	exact map[string][]string
	// specs has the specifiers, rising, of the records for which keys that end
	// with / count, and levels their bases: the first level has them in the
	// order of specs, and each row of 2^n in the level n is rising.
	specs  []string
	levels [][]string
}

// use makes ready to be asked for the keys of a map.
func use(rs []api.Record, m api.Map) used {
	keys := len(m.Imports)
	for _, s := range m.Scopes {
		keys += len(s.Imports)
	}
	if keys <= few {
		return used{plain: rs}
	}
	return index(rs)
}

func index(rs []api.Record) used {
	u := used{exact: make(map[string][]string)}
	rs = slices.Clone(rs)
	slices.SortFunc(rs, func(a, b api.Record) int {
		return cmp.Or(cmp.Compare(a.Spec, b.Spec), cmp.Compare(a.Base, b.Base))
	})
	var bases []string
	for _, r := range rs {
		u.exact[r.Spec] = append(u.exact[r.Spec], r.Base)
		if far(r) {
			u.specs = append(u.specs, r.Spec)
			bases = append(bases, r.Base)
		}
	}
	for length := 1; len(bases) > 0; length *= 2 {
		u.levels = append(u.levels, bases)
		if length >= len(bases) {
			break
		}
		bases = twice(bases, length)
	}
	return u
}

// twice tells the level whose rows are twice as long.
func twice(bases []string, length int) []string {
	next := slices.Clone(bases)
	for from := 0; from < len(next); from += 2 * length {
		slices.Sort(next[from:min(from+2*length, len(next))])
	}
	return next
}

// any tells whether any record uses a key.
func (u used) any(key string) bool {
	if len(u.exact[key]) > 0 || slices.ContainsFunc(u.plain, func(r api.Record) bool { return Uses(r, key) }) {
		return true
	}
	from, to := u.beginning(key)
	return from < to
}

// under tells whether a record uses a key, for whose base a prefix holds.
func (u used) under(prefix string, key string) bool {
	if holds(prefix, u.exact[key]) || slices.ContainsFunc(u.plain, func(r api.Record) bool { return Uses(r, key) && hres.Under(prefix, r.Base) }) {
		return true
	}
	from, to := u.beginning(key)
	for n := 0; from < to; n++ {
		if from&1 == 1 {
			if holds(prefix, u.row(n, from)) {
				return true
			}
			from++
		}
		if to&1 == 1 {
			to--
			if holds(prefix, u.row(n, to)) {
				return true
			}
		}
		from, to = from/2, to/2
	}
	return false
}

// row tells a row of a level.
func (u used) row(n int, i int) []string {
	level := u.levels[n]
	return level[i<<n : min((i+1)<<n, len(level))]
}

// beginning tells from where to where the specifiers stand whose beginning a
// key is.
func (u used) beginning(key string) (int, int) {
	if !strings.HasSuffix(key, "/") {
		return 0, 0
	}
	from := sort.SearchStrings(u.specs, key)
	rest := u.specs[from:]
	return from, from + sort.Search(len(rest), func(i int) bool { return !strings.HasPrefix(rest[i], key) })
}

// holds tells whether a prefix holds for one of some bases that rise: if it
// does, then for the first one that is not less.
func holds(prefix string, bases []string) bool {
	i := sort.SearchStrings(bases, prefix)
	return i < len(bases) && hres.Under(prefix, bases[i])
}
