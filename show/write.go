package show

import "strings"

// writer is a right node, or a part of one, that writes its one form.
type writer interface {
	write(out *strings.Builder)
}

// word is what is written as it is.
type word string

// list is a word and parts in parentheses.
type list struct {
	head  word
	parts []writer
}

// unary is a sign, with its blank, and an operand.
type unary struct {
	sign word
	kid  writer
}

// binary is a sign between two operands.
type binary struct {
	sign          word
	first, second writer
}

// choice is an If.
type choice struct {
	test, first, second writer
}

// row is a line of a module.
type row []writer

// rows are a module's lines.
type rows []writer

func (w word) write(out *strings.Builder) { out.WriteString(string(w)) }

func (l list) write(out *strings.Builder) {
	writeAll(out, l.head, word("("))
	for i, p := range l.parts {
		if i > 0 {
			out.WriteString(", ")
		}
		p.write(out)
	}
	out.WriteString(")")
}

func (u unary) write(out *strings.Builder) {
	u.sign.write(out)
	writeOperand(out, u.kid)
}

func (b binary) write(out *strings.Builder) {
	writeOperand(out, b.first)
	writeAll(out, word(" "), b.sign, word(" "))
	writeOperand(out, b.second)
}

func (c choice) write(out *strings.Builder) {
	writeAll(out, word("if "), c.test, word(" then "), c.first, word(" else "), c.second)
}

func (r row) write(out *strings.Builder) {
	writeAll(out, r...)
	out.WriteString(";\n")
}

func (r rows) write(out *strings.Builder) { writeAll(out, r...) }

// writeAll writes parts, one behind the other.
func writeAll(out *strings.Builder, parts ...writer) {
	for _, p := range parts {
		p.write(out)
	}
}

// writeOperand writes what a sign belongs to. What has words or signs of its own stands in parentheses, so that none of them may be taken for another's.
func writeOperand(out *strings.Builder, w writer) {
	switch w.(type) {
	case unary, binary, choice:
		writeAll(out, word("("), w, word(")"))
	default:
		w.write(out)
	}
}
