package session

import (
	"whetstone/json"
	"whetstone/rpc"
	"whetstone/text"
)

// target is what parameters say of the document that is meant. Whatever else
// stands there says nothing.
type target struct {
	said json.Value
}

func targetOf(params json.Value) target {
	said, _ := json.Get(params, "textDocument")
	return target{said}
}

func (t target) name() (string, bool) { return stringOf(t.said, "uri") }

func (t target) text() (string, bool) { return stringOf(t.said, "text") }

func (t target) version() (int, bool) {
	n, _ := json.Get(t.said, "version")
	return json.Int(n)
}

// stringOf: the string under a key.
func stringOf(v json.Value, key string) (string, bool) {
	part, _ := json.Get(v, key)
	if part.Kind != json.String {
		return "", false
	}
	return part.Text, true
}

// changesOf: the changes that parameters tell; false: one of them isn't as it must be,
// or there is no list of them.
func changesOf(params json.Value) ([]text.Change, bool) {
	list, _ := json.Get(params, "contentChanges")
	if list.Kind != json.Array {
		return nil, false
	}
	var changes []text.Change
	for _, v := range list.List {
		c, ok := changeOf(v)
		if !ok {
			return nil, false
		}
		changes = append(changes, c)
	}
	return changes, true
}

// changeOf: a change. One with a range that is none isn't taken for a change of all.
func changeOf(v json.Value) (text.Change, bool) {
	put, written := stringOf(v, "text")
	bounds, ranged := json.Get(v, "range")
	from, to, whole := rpc.Range(bounds)
	if !written || ranged != whole {
		return text.Change{}, false
	}
	return text.Change{Ranged: ranged, From: from, To: to, Text: put}, true
}
