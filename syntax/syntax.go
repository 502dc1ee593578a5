// Package syntax has what a tree (chapter 5) says, without spaces, remarks and signs: items and expressions, each kind a type of its own.
package syntax

// Name is a name, and where it begins; one that is missing has no text.
type Name struct {
	Text string
	At   int
}

// Missing tells whether the name is none.
func (n Name) Missing() bool { return n.Text == "" }

// File is a file of a workspace, by what its tree says.
type File struct {
	Name  string
	Items []Item
}

// Item is a *Use or a *Def.
type Item interface {
	// Called gives the name by which the item is known (N2).
	Called() Name
	// Shown tells whether other files may use it (N2).
	Shown() bool
}

// Use is an NUse.
type Use struct {
	Pub    bool
	Module Name // ahead of the `.`
	Item   Name // behind it
	As     bool // whether there is an `as`
	Alias  Name // behind that
}

// Called gives the name behind `as`, if there is an `as`, else that behind the `.`.
func (u *Use) Called() Name {
	if u.As {
		return u.Alias
	}
	return u.Item
}

// Shown tells whether it has a `pub`.
func (u *Use) Shown() bool { return u.Pub }

// Def is an NDef.
type Def struct {
	Pub      bool
	Name     Name
	Params   *Params // nil: it has no NParams
	Body     Expression
	From, To int // where its first token begins that is no space and no remark, and where its last one ends
}

// Called gives its name.
func (d *Def) Called() Name { return d.Name }

// Shown tells whether it has a `pub`.
func (d *Def) Shown() bool { return d.Pub }

// Params is an NParams: its names, also those that are missing.
type Params struct{ Names []Name }
