package desk

import (
	"cashier/api"
	"cashier/catalog"
	"cashier/digits"
	"cashier/ids"
	"cashier/message"
	"cashier/node"
	"cashier/print"
	"cashier/serial"
)

// pageSize is how many changes are told at once: as many as fit into a text,
// whatever their ranges are.
const pageSize = 12

// Page gives the changes that are told at once to who has the table of that
// serial number, and the serial number that he has the table of behind them.
func Page(d serial.Directory, n uint64, known bool) ([]serial.Change, uint64, bool) {
	if !known {
		n = 0
	}
	changes, kept := d.Since(n)
	switch {
	case kept:
		changes = changes[:min(len(changes), pageSize)]
		return changes, n + uint64(len(changes)), true // not beyond Serial
	case len(changes) <= pageSize:
		return changes, d.Serial(), true
	}
	return nil, 0, false
}

// prepare serves a PReq.
func (d Desk) prepare(c coming) Step {
	said, known := c.m.Get(serialField)
	has, _ := digits.Number(said) // 0, where it is beyond all numbers
	changes, n, ok := Page(d.Dir, has, known)
	if !ok {
		return d.refuse(c.m, api.System, noField)
	}
	m := message.New(catalog.PRes).With(versionField, c.field(versionField)).
		With(serverField, c.field(serverField)).With(dsField, ids.Text(d.DS())).
		With(serialField, digits.Text(n, 0))
	s := d.still()
	s.say(toServer, paged(m, changes))
	return s
}

// paged gives the text of the message with the changes behind its fields.
func paged(m message.Message, changes []serial.Change) string {
	var members []node.Member
	for name, text := range m.Fields() {
		members = append(members, node.Member{Key: name, Row: node.String(text)})
	}
	members = append(members, node.Member{Key: rangesField, Row: serial.Row(changes...)})
	text, _ := print.Print(node.Object(members...)) // of so few the row may be
	return text
}
