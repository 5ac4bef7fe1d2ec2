package session

import (
	"slices"

	"whetstone/api"
	"whetstone/engine"
	"whetstone/json"
	"whetstone/rpc"
	"whetstone/text"
)

// The notifications that are known.
const (
	exit      = "exit"
	didOpen   = "textDocument/didOpen"
	didChange = "textDocument/didChange"
	didClose  = "textDocument/didClose"
)

// document is one that is open.
type document struct {
	name   string
	text   *text.Doc
	engine *engine.Engine // its last text is the document's
}

// place: which of the open documents has a name; below 0: none.
func (s *Server) place(name string) int {
	return slices.IndexFunc(s.docs, func(d *document) bool { return d.name == name })
}

// find: the open document of a name, or nil.
func (s *Server) find(name string) *document {
	i := s.place(name)
	if i < 0 {
		return nil
	}
	return s.docs[i]
}

// notice: what is sent behind a notification, if anything is.
func (s *Server) notice(c rpc.Call) (json.Value, bool) {
	if c.Method == exit {
		s.stand = gone
		return json.Value{}, false
	}
	if s.stand != awake {
		return json.Value{}, false
	}
	switch c.Method {
	case didOpen:
		return s.open(c.Params)
	case didChange:
		return s.change(c.Params)
	case didClose:
		return s.shut(c.Params)
	}
	return json.Value{}, false
}

func (s *Server) open(params json.Value) (json.Value, bool) {
	at := targetOf(params)
	name, named := at.name()
	version, counted := at.version()
	written, told := at.text()
	if !named || !counted || !told {
		return json.Value{}, false
	}
	d := s.find(name)
	if d == nil && len(s.docs) >= api.MaxDocs {
		return json.Value{}, false
	}
	doc, e := text.Open(version, written)
	if e != api.OK {
		return json.Value{}, false
	}
	if d == nil {
		d = &document{name: name, engine: engine.New()}
		s.docs = append(s.docs, d)
	}
	d.text = doc
	return s.publish(d), true
}

func (s *Server) change(params json.Value) (json.Value, bool) {
	at := targetOf(params)
	name, named := at.name()
	version, counted := at.version()
	changes, told := changesOf(params)
	if !named || !counted || !told {
		return json.Value{}, false
	}
	d := s.find(name)
	if d == nil || d.text.Apply(version, changes) != api.OK {
		return json.Value{}, false
	}
	return s.publish(d), true
}

// shut: a document is open no longer, and nothing is wrong with it any longer.
func (s *Server) shut(params json.Value) (json.Value, bool) {
	name, named := targetOf(params).name()
	i := s.place(name)
	if !named || i < 0 {
		return json.Value{}, false
	}
	s.docs = slices.Delete(s.docs, i, i+1)
	return cleared(name), true
}

// publish: what is wrong with a document's text, which is a new one.
func (s *Server) publish(d *document) json.Value {
	r := d.engine.Update(d.text.Bytes())
	s.stats = d.engine.Stats()
	return Published(d.name, d.text, r.Diags)
}
