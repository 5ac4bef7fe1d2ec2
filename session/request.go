package session

import (
	"whetstone/json"
	"whetstone/rpc"
)

// The requests that are known.
const (
	initialize = "initialize"
	shutdown   = "shutdown"
	hover      = "textDocument/hover"
)

// wholeByRanges is how an editor is asked to tell of changes: each by its range.
const wholeByRanges = 2

// reply: what a request is answered.
func (s *Server) reply(c rpc.Call) json.Value {
	result, code := s.request(c)
	if code != 0 {
		return rpc.Error(rpc.Fault{Code: code, ID: c.ID})
	}
	return rpc.Result(c.ID, result)
}

// request: a request's result, or the code of what is wrong with it.
func (s *Server) request(c rpc.Call) (result json.Value, code int) {
	greeted := c.Method == initialize
	switch {
	case s.stand == asleep && !greeted:
		return json.Value{}, rpc.NotReady
	case s.stand == closing, s.stand == awake && greeted:
		return json.Value{}, rpc.Invalid
	}
	switch c.Method {
	case initialize:
		s.stand = awake
		return greeting(), 0
	case shutdown:
		s.stand = closing
		return json.Value{Kind: json.Null}, 0
	case hover:
		return s.hover(c.Params)
	}
	return json.Value{}, rpc.NoMethod
}

// greeting: what the server can do.
func greeting() json.Value {
	can := json.Made(
		json.Pair{Key: "textDocumentSync", V: json.Of(wholeByRanges)},
		json.Pair{Key: "hoverProvider", V: json.Value{Kind: json.True}})
	return json.Made(json.Pair{Key: "capabilities", V: can})
}

// hover: what stands at a position.
func (s *Server) hover(params json.Value) (result json.Value, code int) {
	name, named := targetOf(params).name()
	where, _ := json.Get(params, "position")
	p, placed := rpc.Position(where)
	if !named || !placed {
		return json.Value{}, rpc.InvalidParams
	}
	d := s.find(name)
	if d == nil {
		return json.Value{Kind: json.Null}, 0
	}
	sig, there := d.engine.Report().Hover(d.text.Offset(p))
	if !there {
		return json.Value{Kind: json.Null}, 0
	}
	return Hovered(d.text, sig), 0
}
