package session

import (
	"whetstone/api"
	"whetstone/check"
	"whetstone/json"
	"whetstone/rpc"
	"whetstone/text"
)

const (
	publishDiagnostics = "textDocument/publishDiagnostics"
	source             = "whetstone"
	severityError      = 1
)

// rangeOf: a span's positions.
func rangeOf(d *text.Doc, s api.Span) json.Pair {
	return json.Pair{Key: "range", V: rpc.FromRange(d.Place(s.From), d.Place(s.To))}
}

// Diagnostic: how what is wrong with a document is told.
func Diagnostic(d *text.Doc, x api.Diag) json.Value {
	return json.Made(
		rangeOf(d, x.Span),
		json.Pair{Key: "severity", V: json.Of(severityError)},
		json.Pair{Key: "code", V: json.Of(x.Code)},
		json.Pair{Key: "source", V: json.Text(source)},
		json.Pair{Key: "message", V: json.Text(x.Text)})
}

// Published: how all that is wrong with a document is told.
func Published(name string, d *text.Doc, l []api.Diag) json.Value {
	version := 0 // a document that isn't there has none
	if d != nil {
		version = d.Version
	}
	list := json.Value{Kind: json.Array}
	for _, x := range l {
		list.List = append(list.List, Diagnostic(d, x))
	}
	return rpc.Notify(publishDiagnostics, json.Made(
		json.Pair{Key: "uri", V: json.Text(name)},
		json.Pair{Key: "version", V: json.Of(version)},
		json.Pair{Key: "diagnostics", V: list}))
}

// cleared: how it is told that nothing is wrong with a document any longer.
func cleared(name string) json.Value {
	return rpc.Notify(publishDiagnostics, json.Made(
		json.Pair{Key: "uri", V: json.Text(name)},
		json.Pair{Key: "diagnostics", V: json.Value{Kind: json.Array}}))
}

// Hovered: how a function's name is told of.
func Hovered(d *text.Doc, x check.Sig) json.Value {
	return json.Made(
		json.Pair{Key: "contents", V: json.Text(x.Text)},
		rangeOf(d, x.At))
}
