package syntax

// Expression is a pointer to one of the types below that have an Extent.
type Expression interface {
	// Parts gives the expressions that stand right in it, from the left.
	Parts() []Expression
	// Place tells where it stands.
	Place() Extent
	// stand says where it stands, which is known when all of it has been passed.
	stand(Extent)
}

// Extent is where an expression stands: from where its first token begins that is no space and no remark to where its last one ends.
// What is missing has no token: it stands nowhere, from 0 to 0.
type Extent struct {
	From, To int
	Gaps     bool // whether in it something is missing, or stands a `?`
}

// Place gives it.
func (x *Extent) Place() Extent { return *x }

func (x *Extent) stand(at Extent) { *x = at }

// Literal is an NNum, NStr or NBool: which of these, and its token.
type Literal struct {
	Extent
	Kind int
	Text string
}

// Hole is an NHole.
type Hole struct{ Extent }

// Missing is an NMissing where an expression should stand.
type Missing struct{ Extent }

// Var is an NVar.
type Var struct {
	Extent
	Name Name
}

// Let is an NLet.
type Let struct {
	Extent
	Name        Name
	Value, Body Expression
}

// If is an NIf.
type If struct {
	Extent
	Test, Then, Else Expression
}

// Fun is an NFun.
type Fun struct {
	Extent
	Params *Params
	Body   Expression
}

// Binary is an NBinary.
type Binary struct {
	Extent
	Left  Expression
	Sign  string
	Right Expression
}

// Call is an NCall, with what its NArgs has.
type Call struct {
	Extent
	Called Expression
	Args   []Expression
}

// List is an NList.
type List struct {
	Extent
	All []Expression
}

// Group is an NGroup.
type Group struct {
	Extent
	Inner Expression
}

// Parts of what is only a token are none.
func (*Literal) Parts() []Expression { return nil }

// Parts of a hole are none.
func (*Hole) Parts() []Expression { return nil }

// Parts of what is missing are none.
func (*Missing) Parts() []Expression { return nil }

// Parts of a name are none.
func (*Var) Parts() []Expression { return nil }

// Parts are what is named, and that in which it is.
func (l *Let) Parts() []Expression { return []Expression{l.Value, l.Body} }

// Parts are all three.
func (i *If) Parts() []Expression { return []Expression{i.Test, i.Then, i.Else} }

// Parts are the one behind `=>`.
func (f *Fun) Parts() []Expression { return []Expression{f.Body} }

// Parts are those around the sign.
func (b *Binary) Parts() []Expression { return []Expression{b.Left, b.Right} }

// Parts are what is called, and what it is given.
func (c *Call) Parts() []Expression { return append([]Expression{c.Called}, c.Args...) }

// Parts are all of the list.
func (l *List) Parts() []Expression { return append([]Expression(nil), l.All...) }

// Parts are what stands in the brackets.
func (g *Group) Parts() []Expression { return []Expression{g.Inner} }
