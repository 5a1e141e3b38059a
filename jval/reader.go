package jval

import (
	"slices"

	"gossamer/api"
)

// few is how many keys are as fast looked through as looked up.
const few = 8

// reader goes through tokens. Where a method answers a code, at is the token
// that is wrong.
type reader struct {
	toks  []api.Tok
	sizes []int
	at    int
	deep  int
}

// sizes tells for each bracket that opens how much stands within it at most:
// room for long lists is made at once.
func sizes(toks []api.Tok) []int {
	all := make([]int, len(toks))
	var open []int
	for i, t := range toks {
		switch t.Kind {
		case api.TokOpen, api.TokFirst:
			open = append(open, i)
			all[i] = 1
		case api.TokClose, api.TokLast:
			open = open[:max(len(open)-1, 0)]
		case api.TokComma:
			if len(open) > 0 {
				all[open[len(open)-1]]++
			}
		}
	}
	return all
}

// kind tells the token that comes; 0 at the end.
func (r *reader) kind() int {
	if r.at < len(r.toks) {
		return r.toks[r.at].Kind
	}
	return 0
}

// place tells where the token that comes begins.
func (r *reader) place(end int) int {
	if r.at < len(r.toks) {
		return r.toks[r.at].At
	}
	return end
}

func (r *reader) whole() (api.Value, api.Errno) {
	v, code := r.value()
	if code == api.OK && r.at < len(r.toks) {
		return api.Value{}, api.ErrJSON
	}
	return v, code
}

func (r *reader) value() (api.Value, api.Errno) {
	switch r.kind() {
	case api.TokOpen:
		return r.within(r.object)
	case api.TokFirst:
		return r.within(r.array)
	case api.TokString:
		return r.single(api.Value{Kind: api.String, S: r.toks[r.at].Text})
	case api.TokNumber:
		return r.single(api.Value{Kind: api.Number, S: r.toks[r.at].Text})
	case api.TokTrue:
		return r.single(api.Value{Kind: api.Bool, B: true})
	case api.TokFalse:
		return r.single(api.Value{Kind: api.Bool})
	case api.TokNull:
		return r.single(api.Value{Kind: api.Null})
	}
	return api.Value{}, api.ErrJSON
}

func (r *reader) single(v api.Value) (api.Value, api.Errno) {
	r.at++
	return v, api.OK
}

// within reads what stands in brackets, if there may be one more pair of them.
func (r *reader) within(read func() (api.Value, api.Errno)) (api.Value, api.Errno) {
	if r.deep == api.MaxDeep {
		return api.Value{}, api.ErrDeep
	}
	r.deep++
	r.at++
	v, code := read()
	r.deep--
	return v, code
}

func (r *reader) array() (api.Value, api.Errno) {
	v := api.Value{Kind: api.Array}
	if r.kind() == api.TokLast {
		return r.single(v)
	}
	v.L = make([]api.Value, 0, r.sizes[r.at-1])
	for {
		one, code := r.value()
		if code != api.OK {
			return api.Value{}, code
		}
		v.L = append(v.L, one)
		switch r.kind() {
		case api.TokLast:
			return r.single(v)
		case api.TokComma:
			r.at++
		default:
			return api.Value{}, api.ErrJSON
		}
	}
}

func (r *reader) object() (api.Value, api.Errno) {
	m := members{v: api.Value{Kind: api.Object}}
	if r.kind() == api.TokClose {
		return r.single(m.v)
	}
	m.v.K = make([]string, 0, r.sizes[r.at-1])
	m.v.L = make([]api.Value, 0, r.sizes[r.at-1])
	for {
		key, one, code := r.member()
		if code != api.OK {
			return api.Value{}, code
		}
		m.put(key, one)
		switch r.kind() {
		case api.TokClose:
			return r.single(m.v)
		case api.TokComma:
			r.at++
		default:
			return api.Value{}, api.ErrJSON
		}
	}
}

func (r *reader) member() (string, api.Value, api.Errno) {
	if r.kind() != api.TokString {
		return "", api.Value{}, api.ErrJSON
	}
	key := r.toks[r.at].Text
	r.at++
	if r.kind() != api.TokColon {
		return "", api.Value{}, api.ErrJSON
	}
	r.at++
	v, code := r.value()
	return key, v, code
}

// members is an object that is read. Where its keys stand is kept as soon as
// there are many, lest each new one be held against all.
type members struct {
	v     api.Value
	where map[string]int
}

// put lays a value to its key: a key that comes again stays where it stood.
func (m *members) put(key string, one api.Value) {
	if i := m.find(key); i >= 0 {
		m.v.L[i] = one
		return
	}
	m.v.K = append(m.v.K, key)
	m.v.L = append(m.v.L, one)
	if m.where != nil {
		m.where[key] = len(m.v.K) - 1
	} else if len(m.v.K) > few {
		m.where = places(m.v.K)
	}
}

func (m *members) find(key string) int {
	if m.where == nil {
		return slices.Index(m.v.K, key)
	}
	if i, ok := m.where[key]; ok {
		return i
	}
	return -1
}

func places(keys []string) map[string]int {
	where := make(map[string]int, 2*len(keys))
	for i, key := range keys {
		where[key] = i
	}
	return where
}
