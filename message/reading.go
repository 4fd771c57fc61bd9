package message

import (
	"cashier/api"
	"cashier/catalog"
	"cashier/json"
	"cashier/node"
)

// reading is a message as it was read: beside its texts it has fields that are
// there, but not as texts.
type reading struct {
	Message
	odd map[string]int // by names the places of members that are no strings
}

// has tells whether the field is there, be it as it may.
func (r reading) has(name string) bool {
	_, odd := r.odd[name]
	return odd || r.Message.has(name)
}

// fits tells whether the field is there as its rule says.
func (r reading) fits(f catalog.Field) bool {
	text, ok := r.Get(f.Name)
	return ok && f.Rule.Fits(text)
}

// Parse gives the message that the text is, and the text's row.
func Parse(s string) (Message, []json.Node, Fault) {
	row, err := json.Parse(s)
	switch err {
	case api.OK:
		r := read(row)
		if f := r.fault(); f != (Fault{}) {
			return r.Message, nil, f
		}
		return r.Message, row, Fault{}
	case api.ErrTwice:
		return Message{}, nil, Fault{Code: api.Duplicate}
	}
	return Message{}, nil, Fault{Code: api.NotKnown}
}

// read gives what the row's members are that have a place in the message that
// it is; nothing, where it is none.
func read(row []json.Node) reading {
	name, _ := node.Text(row, 0, typeField)
	kind := catalog.Message(name)
	if kind == 0 {
		return reading{}
	}
	r := reading{Message: Message{map[string]content{}}, odd: map[string]int{}}
	for f := range catalog.Of(kind) {
		at, ok := node.Get(row, 0, f.Name)
		switch {
		case !ok:
		case row[at].Kind == json.String:
			r.fields[f.Name] = content{row[at].Text}
		default:
			r.odd[f.Name] = at
		}
	}
	return r
}
