package desk

import (
	"gossamer/api"
	"gossamer/cjs"
	"gossamer/esm"
	"gossamer/file"
	"gossamer/hres"
	"gossamer/smap"
	"gossamer/url"
	"gossamer/ushow"
)

// Resolve tells by one of the ways which URL a specifier means.
func (d *Desk) Resolve(way int, spec string, from string, conds ...string) api.Answer {
	if d == nil {
		return wrong(api.ErrNil, nowhere)
	}
	if way != api.HTML && way != api.ESM && way != api.CJS || len(conds) > api.MaxConds {
		return wrong(api.ErrArg, nowhere)
	}
	u, code := url.Parse(from)
	if code != api.OK {
		return wrong(code, nowhere)
	}
	switch way {
	case api.HTML:
		return d.html(spec, u)
	case api.ESM:
		return d.esm(spec, u, conds)
	}
	return d.cjs(spec, u, conds)
}

// html resolves by the map, and keeps that it did.
func (d *Desk) html(spec string, from api.URL) api.Answer {
	to, record, code := hres.Resolve(d.whole, spec, from)
	if code != api.OK {
		return wrong(code, nowhere)
	}
	if _, ok := d.seen[record]; !ok {
		if d.seen == nil {
			d.seen = make(map[api.Record]struct{})
		}
		d.seen[record] = struct{}{}
		d.records = append(d.records, record)
	}
	hash, _ := smap.Find(d.whole.Integrity, to)
	return api.Answer{URL: to, Integrity: hash.To}
}

func (d *Desk) esm(spec string, from api.URL, conds []string) api.Answer {
	to, format, code := esm.Resolve(d.tree, spec, from, conds...)
	if code != api.OK {
		return wrong(code, nowhere)
	}
	return api.Answer{URL: to, Format: format}
}

func (d *Desk) cjs(spec string, from api.URL, conds []string) api.Answer {
	p, code := file.Path(from)
	if code != api.OK {
		return wrong(code, nowhere)
	}
	found, code := cjs.Resolve(d.tree, spec, p, conds...)
	if code != api.OK {
		return wrong(code, nowhere)
	}
	u, code := file.URL(found)
	if code != api.OK {
		return wrong(code, nowhere)
	}
	format, code := esm.Format(d.tree, u)
	if code != api.OK {
		return wrong(code, nowhere)
	}
	return api.Answer{URL: ushow.Show(u), Format: format}
}
