package decode

// cursor goes through bytes, which its methods read into what they are handed. Behind the end it reads noughts: that bytes are missing, or other ones than they should be, shows when what was read is put again.
type cursor struct {
	code string
	at   int
}

func (c *cursor) byte(b *byte) *cursor {
	*b = 0
	if c.at < len(c.code) {
		*b = c.code[c.at]
	}
	c.at++
	return c
}

// skip goes past bytes that tell nothing more.
func (c *cursor) skip(n int) *cursor {
	c.at += n
	return c
}

// number reads a number of so many bytes, with its sign.
func (c *cursor) number(n *int64, size int) *cursor {
	var b byte
	*n = 0
	for k := range size {
		c.byte(&b)
		*n |= int64(b) << (8 * k)
	}
	above := 64 - 8*size
	*n = *n << above >> above
	return c
}

func (c *cursor) rex(o *operands) *cursor {
	return c.byte((*byte)(&o.rex))
}

// operands reads RM; rex has been read.
func (c *cursor) operands(o *operands) *cursor {
	var b byte
	c.byte(&b)
	o.middle = int(b>>3&7) | o.rex.middle()
	c.operand(b, &o.last)
	o.last = o.last.wide(o.rex)
	return c
}

// operand reads what stands last, behind RM's first byte.
func (c *cursor) operand(first byte, o *operand) *cursor {
	mode, low := first>>6, int(first&7)
	if mode == 3 {
		*o = register(low)
		return c
	}
	p := place{Base: low, Index: scaleFollows, Scale: 1}
	c.scale(&p).number(&p.Disp, sizeOfDisp(mode))
	*o = p
	return c
}

// scaleFollows stands where else Base does, if a byte with the scale follows, and there in Index' stead, if there is none.
const scaleFollows = 4

// scale reads the byte with the scale and with a place's registers, if it follows.
func (c *cursor) scale(p *place) *cursor {
	if p.Base != scaleFollows {
		return c
	}
	var b byte
	c.byte(&b)
	p.Base, p.Index, p.Scale = int(b&7), int(b>>3&7), 1<<(b>>6)
	return c
}

func sizeOfDisp(mode byte) int {
	if mode == 2 {
		return 4
	}
	return int(mode)
}
