package words

// read goes on to the next token.
func (p *parser) read() {
	if p.bad {
		return
	}
	for p.next < len(p.s) && isBlank(p.s[p.next]) {
		p.next++
	}
	p.at = p.next
	p.text = ""
	p.n = 0
	if p.at == len(p.s) {
		p.kind = end
		return
	}
	c := p.s[p.at]
	switch {
	case isLetter(c):
		p.readWord()
	case isDigit(c):
		p.readNumber()
	case c == quote:
		p.readText()
	case c == '(' || c == ')' || c == ',':
		p.kind = c
		p.next++
	default:
		p.kind = none
	}
}

func isBlank(c byte) bool {
	return c == ' ' || c == '\n'
}

func isLetter(c byte) bool {
	return c >= 'a' && c <= 'z'
}

func isDigit(c byte) bool {
	return c >= '0' && c <= '9'
}

// span goes on as long as the bytes are so; those are the text.
func (p *parser) span(is func(c byte) bool) {
	for p.next < len(p.s) && is(p.s[p.next]) {
		p.next++
	}
	p.text = p.s[p.at:p.next]
}

// readWord reads as many letters as there are.
func (p *parser) readWord() {
	p.span(isLetter)
	p.kind = letter
}

// readNumber reads as many digits as there are; too many, or a 0 ahead, are no number.
func (p *parser) readNumber() {
	p.span(isDigit)
	digits := p.text
	if len(digits) > most || len(digits) > 1 && digits[0] == '0' {
		p.kind = none
		return
	}
	for i := range len(digits) {
		p.n = p.n*10 + int(digits[i]-'0')
	}
	p.kind = digit
}

// readText reads a text; one that does not end is none.
func (p *parser) readText() {
	b := []byte(nil)
	for i := p.at + 1; i < len(p.s); i++ {
		c := p.s[i]
		if c == quote {
			p.text = string(b)
			p.next = i + 1
			p.kind = quote
			return
		}
		if c == escape {
			i++
			if i == len(p.s) {
				break
			}
			c = p.s[i]
		}
		b = append(b, c)
	}
	p.kind = none
}
