package wal

import (
	"escrow/api"
	"escrow/frame"
)

// numberAt is where the number stands in a frame, headSize the bytes ahead of its payload.
const (
	numberAt = 4
	headSize = 16
)

// load: what stands on the disk is remembered, and safe; the payloads from first on. ErrLog, and the disk's.
func (l *Log) load(first int64) ([]string, api.Errno) {
	if !l.find() {
		return nil, api.ErrLog
	}
	payloads, torn, e := l.read()
	if e != api.OK {
		return nil, e
	}
	if len(payloads) == 0 {
		l.next = first
	}
	known := int64(len(payloads))
	begin := l.next - known
	if first < begin || first > l.next {
		return nil, api.ErrLog
	}
	if torn {
		last := l.segments[len(l.segments)-1]
		if e := l.disk.Truncate(l.file(last), last.size); e != api.OK {
			return nil, e
		}
	}
	if e := l.syncAll(); e != api.OK {
		return nil, e
	}
	return payloads[first-begin:], api.OK
}

// read: the payloads of all frames, and whether something else stands behind those of the last segment. ErrLog: behind those of another.
func (l *Log) read() ([]string, bool, api.Errno) {
	var payloads []string
	known, torn := 0, false
segments:
	for s, file := range l.inOrder() {
		text, e := l.disk.Read(file, 0, api.MaxFile)
		if e != api.OK {
			return nil, false, e
		}
		if len(payloads) == 0 {
			l.next = firstNumber(text)
		}
		var more []string
		more, s.size, torn = frame.Scan(text, l.next)
		payloads = append(payloads, more...)
		l.next += int64(len(more))
		s.end = l.next
		known++
		if torn {
			break segments
		}
	}
	if torn && known < len(l.segments) {
		return nil, false, api.ErrLog
	}
	return payloads, torn, api.OK
}

func (l *Log) syncAll() api.Errno {
	for _, file := range l.inOrder() {
		if e := l.disk.Sync(file); e != api.OK {
			return e
		}
	}
	return api.OK
}

// firstNumber: the number of the first frame of all, if the text begins with it; -1, of which there is no frame, if no first frame has what stands there.
func firstNumber(text string) int64 {
	if len(text) < headSize {
		return -1
	}
	var n uint64
	for i := range 8 {
		n = n<<8 | uint64(text[numberAt+i])
	}
	if n >= numbersEnd {
		return -1
	}
	return int64(n)
}
