package colour

import (
	"amanuensis/api"
	"amanuensis/scope"
)

// What a token is.
const (
	kindWord   = 1
	kindInt    = 2
	kindText   = 3
	kindRemark = 4
	kindSign   = 5
	kindBad    = 6
	kindDef    = 7
	kindParam  = 8
	kindLet    = 9
	kindModule = 10
	kindItem   = 11
	kindWrong  = 12 // a name with which something is wrong
	kindOther  = 13 // a name in no item
)

// tokenKinds has what a token is, by the kind of token; of a TName: if it is in no item.
var tokenKinds = [...]int{
	api.TRemark: kindRemark,
	api.TName:   kindOther,
	api.TWord:   kindWord,
	api.TInt:    kindInt,
	api.TText:   kindText,
	api.TSign:   kindSign,
	api.TBad:    kindBad,
}

// nameKinds has what a name is, by what it stands there as; a UVar is what it stands for.
var nameKinds = [...]int{
	api.UDef:    kindDef,
	api.UParam:  kindParam,
	api.ULet:    kindLet,
	api.UModule: kindModule,
	api.UItem:   kindItem,
	api.UAlias:  kindItem,
}

// nameKind tells what a name is, one of those that Resolve gave.
func nameKind(names []api.Use, name api.Use) int {
	if name.Err != api.OK || isLost(name) {
		return kindWrong
	}
	if name.As == api.UVar {
		name, _ = nameAt(names, name.ToFile, name.To)
	}
	return nameKinds[name.As]
}

// isLost tells whether a name should stand for something that is named somewhere, and does not, though what is wrong is told elsewhere.
func isLost(name api.Use) bool {
	return (name.As == api.UVar || name.As == api.UAlias) && name.To < 0
}

// nameAt gives the name, one of those that Resolve gave, that begins at a place.
func nameAt(names []api.Use, file, at int) (api.Use, bool) {
	some := scope.Within(names, file, at, at+1)
	if len(some) == 0 {
		return api.Use{}, false
	}
	return some[0], true
}
