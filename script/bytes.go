package script

import (
	"strconv"

	"burnbag/api"
	"burnbag/call"
	"burnbag/conf"
	"burnbag/fail"
	"burnbag/field"
)

// How many bytes numbers have that have more than one.
const (
	gensBytes = 3
	wordBytes = 8
)

// The parts of an entry's byte.
const (
	threadAt, threadBits = 0, 3
	whatAt, whatBits     = 3, 2
	restAt, restBits     = 5, 3
)

// byteBits is how many bits a byte has.
const byteBits = 8

// tooSoon is that bytes end where one more is read; it says how many were read.
type tooSoon int

// reader reads bytes, one behind the other. It gives up by a panic: a tooSoon, where bytes end too soon, or an error, where they tell what may not be.
type reader struct {
	bytes []byte
	at    int
}

// Put writes a script.
func Put(s api.Script) ([]byte, error) {
	if e := Right(s, s.Conf.Levels-1); e != nil {
		return nil, e
	}
	b := putConf(nil, s.Conf)
	for thread := range s.Conf.Threads {
		b = append(b, byte(len(s.Programs[thread])))
		for _, c := range s.Programs[thread] {
			b = putCall(b, c)
		}
	}
	for _, entry := range s.Entries {
		b = append(b, entryByte(entry))
	}
	return b, nil
}

// Take reads a script.
func Take(b []byte) (s api.Script, e error) {
	defer func() {
		switch why := recover().(type) {
		case tooSoon:
			e = fail.Note(behind(int(why)), api.ErrEnd)
		case error:
			e = why
		}
	}()
	r := reader{bytes: b}
	return r.script(), nil
}

// putConf writes a configuration behind other bytes.
func putConf(b []byte, c api.Conf) []byte {
	b = append(b, byte(c.Levels), byte(c.Threads))
	for _, level := range c.Of {
		b = append(b, byte(level))
	}
	b = append(b, byte(c.Slots), byte(c.Limbo))
	b = putNumber(b, uint64(c.Gens), gensBytes)
	return append(b, byte(c.Quota))
}

// putCall writes a call behind other bytes.
func putCall(b []byte, c api.Call) []byte {
	b = append(b, byte(c.Op), byte(c.Level), byte(c.Reg))
	for _, word := range [...]uint64{field.Bits(c.Key), c.Pair.A, c.Pair.B, c.Handle} {
		b = putNumber(b, word, wordBytes)
	}
	return b
}

// putNumber writes a number's lowest bytes behind other bytes, the lowest one first.
func putNumber(b []byte, n uint64, size int) []byte {
	for i := range size {
		b = append(b, byte(field.Cut(n, i*byteBits, byteBits)))
	}
	return b
}

// entryByte is an entry's byte.
func entryByte(e api.Entry) byte {
	w := field.Set(0, threadAt, threadBits, uint64(e.Thread))
	return byte(field.Set(w, whatAt, whatBits, uint64(e.What)))
}

// script reads a script, to the end of the bytes.
func (r *reader) script() api.Script {
	s := api.Script{Conf: r.conf()}
	for thread := range s.Conf.Threads {
		s.Programs[thread] = r.program()
	}
	for !r.ended() {
		if len(s.Entries) == api.MaxEntries {
			r.refuse(api.ErrLong)
		}
		s.Entries = append(s.Entries, r.entry(s.Conf))
	}
	return s
}

// conf reads a configuration.
func (r *reader) conf() api.Conf {
	c := api.Conf{Levels: r.small(), Threads: r.small()}
	for thread := range c.Of {
		c.Of[thread] = r.small()
	}
	c.Slots, c.Limbo = r.small(), r.small()
	c.Gens = int(r.number(gensBytes))
	c.Quota = r.small()
	if !conf.May(c) {
		r.refuse(api.ErrRange)
	}
	return c
}

// program reads a thread's program.
func (r *reader) program() []api.Call {
	size := r.small()
	if size > api.MaxProgram {
		r.refuse(api.ErrLong)
	}
	var program []api.Call
	for range size {
		program = append(program, r.call())
	}
	return program
}

// call reads a call.
func (r *reader) call() api.Call {
	c := api.Call{Op: r.small(), Level: r.small(), Reg: r.small()}
	c.Key = field.Number(r.number(wordBytes))
	c.Pair = api.Pair{A: r.number(wordBytes), B: r.number(wordBytes)}
	c.Handle = r.number(wordBytes)
	if !call.May(c) {
		r.refuse(api.ErrBad)
	}
	return c
}

// entry reads an entry, of a thread that a configuration has.
func (r *reader) entry(c api.Conf) api.Entry {
	w := r.number(1)
	entry := api.Entry{Thread: int(field.Cut(w, threadAt, threadBits)), What: int(field.Cut(w, whatAt, whatBits))}
	if field.Cut(w, restAt, restBits) != 0 || !there(c, entry.Thread) {
		r.refuse(api.ErrForm)
	}
	return entry
}

// small reads a number of one byte.
func (r *reader) small() int {
	return int(r.number(1))
}

// number reads a number of some bytes, the lowest one first.
func (r *reader) number(size int) uint64 {
	var n uint64
	for i := range size {
		if r.ended() {
			panic(tooSoon(r.at))
		}
		n = field.Set(n, i*byteBits, byteBits, uint64(r.bytes[r.at]))
		r.at++
	}
	return n
}

// ended tells whether all bytes are read.
func (r *reader) ended() bool {
	return r.at == len(r.bytes)
}

// refuse gives up, as what was read may not be.
func (r *reader) refuse(code api.Errno) {
	panic(fail.Note(behind(r.at), code))
}

// behind says how many bytes were read.
func behind(at int) string {
	return "behind " + strconv.Itoa(at) + " bytes"
}
