package engine

import (
	"whetstone/api"
	"whetstone/base"
	"whetstone/check"
	"whetstone/syntax"
)

// reading is what reading an item's bytes came to.
type reading struct {
	tree syntax.Item
	at   api.Span
	e    api.Errno
}

// item is one of a text: its bytes, where they stand, and what reading them came to.
type item struct {
	text string
	span api.Span
	reading
}

// reported: the report of a text, in layer 19's steps.
func (e *Engine) reported(b []byte) check.Report {
	spans := check.Spans(b)
	// Too many items are read too: the next text may have the same ones, and then
	// they may be read no more.
	e.readAll(b, spans)
	if len(spans) > api.MaxItems {
		return check.Report{Diags: []api.Diag{check.SyntaxDiag(0, spans[api.MaxItems], api.ErrBig)}}
	}
	items := e.items(b, spans)
	if diags := unread(items); len(diags) > 0 {
		return check.Report{Diags: check.Sorted(diags)}
	}
	t := tableOf(items)
	if diags := faults(t, items); len(diags) > 0 {
		return check.Report{Diags: check.Sorted(diags)}
	}
	return e.meant(t, items)
}

// readAll: each item of a text is read, once, if it wasn't one of the last text.
func (e *Engine) readAll(b []byte, spans []api.Span) {
	now := map[string]reading{}
	for _, s := range spans {
		text := string(b[s.From:s.To])
		if _, there := now[text]; there {
			continue
		}
		r, there := e.read[text]
		if !there {
			r.tree, r.at, r.e = syntax.Parse([]byte(text))
			e.stats.Parsed++
		}
		now[text] = r
	}
	e.read = now
}

// items: those of a text all of whose items are read.
func (e *Engine) items(b []byte, spans []api.Span) []item {
	var l []item
	for _, s := range spans {
		text := string(b[s.From:s.To])
		l = append(l, item{text, s, e.read[text]})
	}
	return l
}

// unread: what is wrong with the items' bytes.
func unread(items []item) []api.Diag {
	var diags []api.Diag
	for _, it := range items {
		if it.e != api.OK {
			diags = append(diags, check.SyntaxDiag(it.span.From, it.at, it.e))
		}
	}
	return diags
}

func tableOf(items []item) *base.Table {
	var trees []syntax.Item
	for _, it := range items {
		trees = append(trees, it.tree)
	}
	return base.New(trees)
}

// faults: what is wrong with the items' names and types.
func faults(t *base.Table, items []item) []api.Diag {
	var diags []api.Diag
	for i, it := range items {
		if f, bad := t.Check(i); bad {
			diags = append(diags, check.TypeDiag(it.span.From, f))
		}
	}
	return diags
}
