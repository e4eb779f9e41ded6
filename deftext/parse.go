package deftext

import "rosetta/api"

// assocWords is how each order is told; none has no word.
var assocWords = [...]string{api.AssocNone: "", api.AssocLeft: "left", api.AssocRight: "right", api.AssocNon: "non"}

// breakWords is how each break is told; 0 is no break.
var breakWords = [...]string{"", "soft", "line", "in", "out"}

// parser reads a module off its words.
type parser struct {
	words
	module api.Module
}

// partReaders tells what each word begins that a part of a module begins with.
func partReaders() map[string]func(*parser) {
	return map[string]func(*parser){
		"import":   (*parser).readImport,
		"start":    (*parser).readStart,
		"layout":   (*parser).readLayout,
		"comment":  (*parser).readComment,
		"lexical":  (*parser).readLexical,
		"syntax":   (*parser).readSyntax,
		"restrict": (*parser).readRestrict,
		"priority": (*parser).readPrio,
		"scope":    (*parser).readScope,
	}
}

// readModule reads the whole.
func (p *parser) readModule() {
	p.pass("module")
	p.module.Name = p.name()
	p.pass(";")
	readers := partReaders()
	for !p.atEnd() {
		read, begins := readers[p.spelling()]
		p.want(begins)
		read(p)
	}
}

// some reads one or more pieces into a list: one that begins where one must, and further ones while there are more.
func some[T any](p *parser, list []T, begins func() bool, read func() T, more func() bool) []T {
	for {
		p.want(begins())
		p.room(len(list), api.MaxProds)
		list = append(list, read())
		if !more() {
			return list
		}
	}
}

// readImport reads an import.
func (p *parser) readImport() {
	p.room(len(p.module.Imports), api.MaxModules)
	p.pass("import")
	i := api.DefImport{Name: p.name()}
	if p.skip("(") {
		i.Renames = some(p, nil, p.beginsName, p.rename, func() bool { return p.skip(",") })
		p.pass(")")
	}
	p.pass(";")
	p.module.Imports = append(p.module.Imports, i)
}

// rename reads a pair of an import.
func (p *parser) rename() api.DefRename {
	from := p.name()
	p.pass("=")
	return api.DefRename{From: from, To: p.name()}
}

// readStart reads the start.
func (p *parser) readStart() {
	p.readOnce("start", &p.module.Start)
}

// readLayout reads the layout.
func (p *parser) readLayout() {
	p.readOnce("layout", &p.module.Layout)
}

// readOnce reads a word and a sort that stand once at most.
func (p *parser) readOnce(word string, sort *string) {
	p.want(*sort == "")
	p.pass(word)
	*sort = p.name()
	p.pass(";")
}

// readComment reads a comment's sort.
func (p *parser) readComment() {
	p.room(len(p.module.Comments), api.MaxProds)
	p.pass("comment")
	p.module.Comments = append(p.module.Comments, p.name())
	p.pass(";")
}

// readLexical reads a lexical production.
func (p *parser) readLexical() {
	p.room(len(p.module.Prods), api.MaxProds)
	p.pass("lexical")
	d := api.DefProd{Lexical: true, Sort: p.name()}
	p.pass("=")
	d.Right = p.symbols()
	if p.skip("(") {
		p.pass("reject")
		p.pass(")")
		d.Reject = true
	}
	p.pass(";")
	p.module.Prods = append(p.module.Prods, d)
}

// readSyntax reads a syntax production.
func (p *parser) readSyntax() {
	p.room(len(p.module.Prods), api.MaxProds)
	p.pass("syntax")
	d := api.DefProd{Sort: p.name()}
	if p.skip(".") {
		d.Cons = p.name()
	}
	p.pass("=")
	d.Right = p.symbols()
	if p.skip("(") {
		p.readMarks(&d)
	}
	if p.skip("as") {
		d.Template = some(p, nil, p.beginsItem, p.item, p.beginsItem)
	}
	p.pass(";")
	p.module.Prods = append(p.module.Prods, d)
}

// symbols reads a production's symbols.
func (p *parser) symbols() []api.DefSym {
	var out []api.DefSym
symbols:
	for {
		read := p.symbol
		switch {
		case p.spelling() == "{":
			read = p.listSymbol
		case !p.beginsThing():
			break symbols
		}
		p.room(len(out), api.MaxRight)
		out = append(out, read())
	}
	return out
}

// beginsThing tells whether a thing is next.
func (p *parser) beginsThing() bool {
	return p.beginsName() || p.isKind(api.WordText) || p.isKind(api.WordSet)
}

// thing reads a sort, a literal or a set.
func (p *parser) thing() api.DefSym {
	switch p.next().Kind {
	case api.WordText:
		return api.DefSym{Is: api.DefLit, Text: p.text()}
	case api.WordSet:
		return api.DefSym{Is: api.DefSet, Set: p.set()}
	}
	return api.DefSym{Is: api.DefSort, Name: p.name()}
}

// symbol reads a thing, and how often it stands.
func (p *parser) symbol() api.DefSym {
	s := p.thing()
	switch p.spelling() {
	case "?":
		s.Many = api.ManyOpt
	case "*":
		s.Many = api.ManyStar
	case "+":
		s.Many = api.ManyPlus
	default:
		return s
	}
	p.take()
	return s
}

// listSymbol reads a thing that stands often, with a text between.
func (p *parser) listSymbol() api.DefSym {
	p.pass("{")
	s := p.thing()
	s.Sep = p.text()
	p.pass("}")
	if p.skip("*") {
		s.Many = api.ManyStar
		return s
	}
	p.pass("+")
	s.Many = api.ManyPlus
	return s
}

// readMarks reads a syntax production's marks, behind their bracket.
func (p *parser) readMarks(d *api.DefProd) {
	p.readMark(d)
	for p.skip(",") {
		p.readMark(d)
	}
	p.pass(")")
}

// readMark reads a mark: none that shuts it out may stand already.
func (p *parser) readMark(d *api.DefProd) {
	mark := p.spelling()
	switch mark {
	case "prefer":
		fallthrough
	case "avoid":
		p.want(!d.Prefer && !d.Avoid)
		d.Prefer, d.Avoid = mark == "prefer", mark == "avoid"
	case "bracket":
		p.want(!d.Bracket)
		d.Bracket = true
	case "left":
		fallthrough
	case "right":
		fallthrough
	case "non":
		p.want(d.Assoc == api.AssocNone)
		d.Assoc = p.assoc()
	default:
		p.refuse(api.ErrDefine)
	}
	p.take()
}

// assoc tells the order whose word is next, without moving on.
func (p *parser) assoc() api.Assoc {
	for a, word := range assocWords {
		if word == p.spelling() {
			return api.Assoc(a)
		}
	}
	return api.AssocNone
}

// breakKind tells the break whose word is next, without moving on.
func (p *parser) breakKind() int {
	for b, word := range breakWords {
		if word == p.spelling() {
			return b
		}
	}
	return 0
}

// beginsItem tells whether an item of a template is next.
func (p *parser) beginsItem() bool {
	return p.isKind(api.WordText) || p.beginsNumber() || p.breakKind() != 0
}

// item reads an item of a template.
func (p *parser) item() api.DefItem {
	switch p.next().Kind {
	case api.WordText:
		return api.DefItem{Text: p.text()}
	case api.WordNumber:
		return api.DefItem{Kid: p.number()}
	}
	i := api.DefItem{Break: p.breakKind()}
	p.take()
	return i
}

// readRestrict reads a restriction.
func (p *parser) readRestrict() {
	p.room(len(p.module.Restricts), api.MaxProds)
	p.pass("restrict")
	var r api.DefRestrict
	if p.isKind(api.WordText) {
		r.Text = p.text()
	} else {
		r.Name = p.name()
	}
	p.pass("not")
	r.Not = p.set()
	p.pass(";")
	p.module.Restricts = append(p.module.Restricts, r)
}

// readPrio reads a priority.
func (p *parser) readPrio() {
	p.room(len(p.module.Prios), api.MaxProds)
	p.pass("priority")
	groups := some(p, nil, p.beginsGroup, p.group, func() bool { return p.skip(">") })
	p.pass(";")
	p.module.Prios = append(p.module.Prios, api.DefPrio{Groups: groups})
}

// beginsGroup tells whether a group of constructors is next.
func (p *parser) beginsGroup() bool {
	return p.beginsName() || p.assoc() != api.AssocNone
}

// group reads a group of constructors.
func (p *parser) group() api.DefGroup {
	g := api.DefGroup{Assoc: p.assoc()}
	if g.Assoc != api.AssocNone {
		p.take()
	}
	g.Names = some(p, nil, p.beginsName, p.cons, p.beginsName)
	return g
}

// cons reads a constructor.
func (p *parser) cons() api.DefName {
	sort := p.name()
	p.pass(".")
	return api.DefName{Sort: sort, Cons: p.name()}
}

// readScope reads a scope.
func (p *parser) readScope() {
	p.room(len(p.module.Scopes), api.MaxProds)
	p.pass("scope")
	s := api.DefScope{Of: p.cons()}
	p.pass("{")
	for !p.skip("}") {
		p.readKids(&s)
	}
	p.module.Scopes = append(p.module.Scopes, s)
}

// readKids reads what a scope says of some kids.
func (p *parser) readKids(s *api.DefScope) {
	switch p.spelling() {
	case "declare":
		p.room(len(s.Declares), api.MaxProds)
		s.Declares = append(s.Declares, p.declare())
	case "use":
		p.room(len(s.Uses), api.MaxProds)
		s.Uses = append(s.Uses, api.DefUse(p.declare()))
	case "inner":
		p.take()
		s.Inner = some(p, s.Inner, p.beginsNumber, p.number, p.beginsNumber)
	default:
		p.refuse(api.ErrDefine)
	}
	p.pass(";")
}

// declare reads a declare, or a use, which has the same parts.
func (p *parser) declare() api.DefDeclare {
	p.take()
	own := p.skip("own")
	kid := p.number()
	return api.DefDeclare{Kid: kid, Space: p.name(), Own: own}
}
