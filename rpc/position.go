package rpc

import (
	"whetstone/api"
	"whetstone/json"
)

// Position: of parameters; false: it is none.
func Position(v json.Value) (api.Pos, bool) {
	line, hasLine := whole(v, "line")
	unit, hasUnit := whole(v, "character")
	if !hasLine || !hasUnit {
		return api.Pos{}, false
	}
	return api.Pos{Line: line, Unit: unit}, true
}

// whole: the whole number under a key.
func whole(v json.Value, key string) (int, bool) {
	part, _ := json.Get(v, key)
	return json.Int(part)
}

// Range: of parameters; false: it is none.
func Range(v json.Value) (from, to api.Pos, ok bool) {
	start, _ := json.Get(v, "start")
	end, _ := json.Get(v, "end")
	from, hasFrom := Position(start)
	to, hasTo := Position(end)
	if !hasFrom || !hasTo {
		return api.Pos{}, api.Pos{}, false
	}
	return from, to, true
}

// FromPos: a position's value. FromRange: a range's.
func FromPos(p api.Pos) json.Value {
	return json.Made(json.Pair{Key: "line", V: json.Of(p.Line)}, json.Pair{Key: "character", V: json.Of(p.Unit)})
}

func FromRange(from, to api.Pos) json.Value {
	return json.Made(json.Pair{Key: "start", V: FromPos(from)}, json.Pair{Key: "end", V: FromPos(to)})
}
