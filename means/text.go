package means

import (
	"strconv"
	"strings"

	"burnbag/api"
)

// Text tells all that a state has, part by part, a line each. It leaves out how often sets were changed, so that states that came to the same in other ways are told alike.
func (s State) Text() string {
	var b strings.Builder
	s.writeSessions(&b)
	for _, held := range s.sets {
		held.write(&b)
	}
	s.writeQueue(&b)
	s.writeNodes(&b)
	return b.String()
}

// writeSessions tells sessions: each key with its pair.
func (p sessions) writeSessions(b *strings.Builder) {
	b.WriteString("sessions")
	for _, x := range p.open {
		writeRow(b, x)
	}
	b.WriteByte('\n')
}

// write tells a set: its hand, and of each way the key with its pair, and a star, if it is touched, or a minus, if it is empty.
func (s set) write(b *strings.Builder) {
	b.WriteString("hand ")
	b.WriteString(strconv.Itoa(s.Hand))
	for i, way := range s.Ways {
		if way.Slot != full {
			b.WriteString(" -")
			continue
		}
		writeRow(b, s.has[i])
		if way.Touched {
			b.WriteByte('*')
		}
	}
	b.WriteByte('\n')
}

// writeQueue tells a queue: each pair, in turn.
func (p queue) writeQueue(b *strings.Builder) {
	b.WriteString("queue")
	for _, pair := range p.waiting.All() {
		b.WriteByte(' ')
		writePair(b, pair)
	}
	b.WriteByte('\n')
}

// writeNodes tells raw nodes: each live handle, as a number of the same bits, with its pair; and each handle that was ever told.
func (p nodes) writeNodes(b *strings.Builder) {
	b.WriteString("live")
	for _, x := range p.live {
		writeRow(b, x)
	}
	b.WriteString("\ntold")
	for _, h := range p.told {
		b.WriteByte(' ')
		writeWord(b, h)
	}
	b.WriteByte('\n')
}

// writeRow tells a key with its pair.
func writeRow(b *strings.Builder, x api.Row) {
	b.WriteByte(' ')
	b.WriteString(strconv.FormatInt(x.Key, 10))
	b.WriteByte('=')
	writePair(b, x.Pair)
}

// writePair tells a pair.
func writePair(b *strings.Builder, pair api.Pair) {
	writeWord(b, pair.A)
	b.WriteByte(',')
	writeWord(b, pair.B)
}

// writeWord tells a word.
func writeWord(b *strings.Builder, w uint64) {
	b.WriteString(strconv.FormatUint(w, 10))
}
