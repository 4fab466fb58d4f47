package impl

import "strings"

const MaxRoom = 2000

type Pipe struct {
	Room   int64
	Bytes  string
	Ended  bool
	Broken bool
}

func PipeOk(p Pipe) bool { return p.right() }

func NewPipe(room int64) (Pipe, bool) {
	p := Pipe{Room: room}
	if !p.right() {
		return Pipe{}, false
	}
	return p, true
}

func Pushed(p Pipe, s string) (Pipe, int64) {
	if !p.right() {
		return Pipe{}, 0
	}
	return p.push(s)
}

func Pulled(p Pipe, n int64) (Pipe, string) {
	if !p.right() {
		return Pipe{}, ""
	}
	return p.pull(n)
}

func Closed(p Pipe) Pipe { return p.ifRight(p.end) }

func Burst(p Pipe) Pipe { return p.ifRight(p.tear) }

func Dry(p Pipe) bool { return p.right() && p.shut() && p.Bytes == "" }

func (p Pipe) right() bool {
	if p.Room < 1 || p.Room > MaxRoom || int64(len(p.Bytes)) > p.Room {
		return false
	}
	return !p.Broken || p.Bytes == ""
}

func (p Pipe) shut() bool { return p.Ended || p.Broken }

// ifRight takes what is to be done as a method value of the same pipe, so that
// the one fixed answer for a pipe that is not right stands in one place.
func (p Pipe) ifRight(do func() Pipe) Pipe {
	if !p.right() {
		return Pipe{}
	}
	return do()
}

// apart is the pipe as it is, but in memory of its own: an answer shares none
// with its argument, even where nothing is done.
func (p Pipe) apart() Pipe {
	p.Bytes = strings.Clone(p.Bytes)
	return p
}

func (p Pipe) end() Pipe {
	p.Ended = true
	return p.apart()
}

func (p Pipe) tear() Pipe {
	p.Broken = true
	p.Bytes = ""
	return p
}

func (p Pipe) push(s string) (Pipe, int64) {
	if p.shut() {
		return p.apart(), 0
	}
	// held is as long as there is room, so copy itself stops where the pipe is full.
	held := make([]byte, p.Room)
	had := copy(held, p.Bytes)
	took := copy(held[had:], s)
	full := had + took
	p.Bytes = string(held[:full:full])
	return p, int64(took)
}

func (p Pipe) pull(n int64) (Pipe, string) {
	held := []byte(p.Bytes)
	all := int64(len(held))
	n = min(max(n, 0), all)
	// Capped at n, what goes has no way into what stays.
	gone, left := held[:n:n], held[n:all:all]
	p.Bytes = string(left)
	return p, string(gone)
}
