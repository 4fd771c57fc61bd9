package message

import (
	"maps"

	"cashier/api"
	"cashier/catalog"
)

// Fault is what is wrong with a message.
type Fault struct {
	Code  api.Code
	Field string
	Kind  int
}

// Check gives the first fault of the message.
func (m Message) Check() Fault { return reading{Message: m}.fault() }

// fault gives the first fault of what was read.
func (r reading) fault() Fault {
	kind := r.Kind()
	if kind == 0 {
		return Fault{Code: api.NotKnown, Field: typeField}
	}
	for _, look := range [...]func(kind int) (api.Code, string){
		r.version, r.lacking, r.unfit, r.misplaced, r.conditions,
	} {
		if code, field := look(kind); code != api.Fine {
			return Fault{Code: code, Field: field, Kind: kind}
		}
	}
	return Fault{}
}

// version tells what is wrong with the version, of whatever kind the message
// is.
func (r reading) version(int) (api.Code, string) {
	f, _ := catalog.Find(versionField)
	switch {
	case !r.has(f.Name):
		return api.Missing, f.Name
	case !r.fits(f):
		return api.NoVersion, f.Name
	}
	return api.Fine, ""
}

// lacking tells which field is the first that is required, and isn't there.
func (r reading) lacking(kind int) (api.Code, string) {
	for f, required := range catalog.Of(kind) {
		if required && !r.has(f.Name) {
			return api.Missing, f.Name
		}
	}
	return api.Fine, ""
}

// unfit tells which field with a place is the first that is there, and doesn't
// fit.
func (r reading) unfit(kind int) (api.Code, string) {
	for f := range catalog.Of(kind) {
		if r.has(f.Name) && !r.fits(f) {
			return api.Format, f.Name
		}
	}
	return api.Fine, ""
}

// misplaced tells which field is the first that has no place.
func (m Message) misplaced(kind int) (api.Code, string) {
	others := maps.Clone(m.fields)
	for f := range catalog.Of(kind) {
		delete(others, f.Name)
	}
	for name := range (Message{others}).names() {
		return api.Format, name
	}
	return api.Fine, ""
}

// conditions tells which field isn't as others ask for, in a message whose
// fields are right one by one.
func (m Message) conditions(kind int) (api.Code, string) {
	switch kind {
	case catalog.ARes, catalog.RReq:
		return m.just(valueField, m.is(statusField, "Y", "A"))
	case catalog.CRes:
		if m.has(statusField) && !m.is(statusField, "Y", "N") {
			return api.Format, statusField
		}
		return m.just(statusField, m.is(completionField, "Y"))
	case catalog.CReq:
		if m.has(dataField) && m.has(cancelField) {
			return api.Format, cancelField
		}
	}
	return api.Fine, ""
}

// just tells whether the field isn't there, where it must be, or is there,
// where it mustn't.
func (m Message) just(name string, must bool) (api.Code, string) {
	there := m.has(name)
	switch {
	case must && !there:
		return api.Missing, name
	case there && !must:
		return api.Format, name
	}
	return api.Fine, ""
}
