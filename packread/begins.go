package packread

// begins picks what a first byte begins; of a byte that begins no item rest is nil.
func (r *reader) begins(first byte) begun {
	switch {
	case first <= 0x7f, first >= 0xe0:
		return begun{rest: r.small, handed: says(first)}
	case first <= 0x8f:
		return begun{rest: r.dictionary, handed: says(first - 0x80)}
	case first <= 0x9f:
		return begun{rest: r.list, handed: says(first - 0x90)}
	case first <= 0xbf:
		return begun{rest: r.text, handed: says(first - 0xa0)}
	}
	switch first {
	case 0xc0:
		return begun{rest: r.null}
	case 0xc2, 0xc3:
		return begun{rest: r.truth, handed: says(first - 0xc2)}
	case 0xca:
		return begun{rest: r.single, wide: 4}
	case 0xcb:
		return begun{rest: r.double, wide: 8}
	}
	if first >= 0xcc && first <= 0xd3 {
		return r.beginsInteger(first)
	}
	return r.beginsMany(first)
}

// says is what is handed on where the first byte tells n.
func says(n byte) head { return head{n: uint64(n)} }

// beginsInteger picks from cc to d3. The widths of a family double from one to the next.
func (r *reader) beginsInteger(first byte) begun {
	width := 1
	switch first {
	case 0xcf:
		width *= 2
		fallthrough
	case 0xce:
		width *= 2
		fallthrough
	case 0xcd:
		width *= 2
		fallthrough
	case 0xcc:
		return begun{rest: r.natural, wide: width}
	case 0xd3:
		width *= 2
		fallthrough
	case 0xd2:
		width *= 2
		fallthrough
	case 0xd1:
		width *= 2
		fallthrough
	case 0xd0:
		// Where the sign stands hangs on the width, and so that is handed on.
		return begun{rest: r.signed, handed: head{n: uint64(width)}}
	}
	return begun{}
}

// beginsMany picks from c4 to c9 and from d4 to df: bytes and items, as many as is said. The widths double here too.
func (r *reader) beginsMany(first byte) begun {
	wide, n := 1, uint64(1)
	switch first {
	case 0xc6:
		wide *= 2
		fallthrough
	case 0xc5:
		wide *= 2
		fallthrough
	case 0xc4:
		return begun{rest: r.bytes, wide: wide}
	case 0xc9:
		wide *= 2
		fallthrough
	case 0xc8:
		wide *= 2
		fallthrough
	case 0xc7:
		return begun{rest: r.extension, wide: wide}
	case 0xd8:
		n *= 2
		fallthrough
	case 0xd7:
		n *= 2
		fallthrough
	case 0xd6:
		n *= 2
		fallthrough
	case 0xd5:
		n *= 2
		fallthrough
	case 0xd4:
		return begun{rest: r.extension, handed: head{n: n}}
	case 0xdb:
		wide *= 2
		fallthrough
	case 0xda:
		wide *= 2
		fallthrough
	case 0xd9:
		return begun{rest: r.text, wide: wide}
	case 0xdd:
		wide *= 2
		fallthrough
	case 0xdc:
		return begun{rest: r.list, wide: 2 * wide}
	case 0xdf:
		wide *= 2
		fallthrough
	case 0xde:
		return begun{rest: r.dictionary, wide: 2 * wide}
	}
	return begun{}
}
