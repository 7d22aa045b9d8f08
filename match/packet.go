package match

// packet is what one process sends to another one.
type packet interface {
	source() int
}

// message is a packet that begins a message: all of it, or its envelope alone.
type message interface {
	packet
	about() envelope
}

// envelope says all of a message but its data.
type envelope struct {
	from, context, tag, size int
	parts                    int // 0 if it is not in parts
}

func (e envelope) source() int { return e.from }

func (e envelope) about() envelope { return e }

func (e envelope) status() Status { return Status{Source: e.from, Tag: e.tag, Size: e.size} }

// sender is the source of a packet without an envelope.
type sender struct{ from int }

func (s sender) source() int { return s.from }

// eager is a message with its data.
type eager struct {
	envelope
	data []byte
}

// ask is a message whose data waits for a receive.
type ask struct {
	envelope
	req int
}

// credit gives a credit back.
type credit struct{ sender }

// cleared says that a message was matched, and that its data can be sent.
type cleared struct {
	sender
	req int
}

// body is the data of a message that was matched.
type body struct {
	sender
	req  int
	data []byte
}

// part is one part of the data of a message that was matched.
type part struct {
	sender
	req, number int
	data        []byte
}
