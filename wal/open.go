package wal

import (
	"isthmus/api"
	"isthmus/files"
	"isthmus/frame"
)

// Open is the Log with that name, and all its records. Each of its segments has at most limit bytes, but one record at
// least.
func Open(f *files.FS, name string, limit int) (*Log, [][]byte, error) {
	if limit < 1 || !valid(name) {
		return nil, nil, api.ErrArg
	}
	l := &Log{disk: f, name: name, limit: limit}
	var records [][]byte
	firsts := segments(f, name)
	for i, first := range firsts {
		payloads, err := l.load(first, i == len(firsts)-1)
		if err != nil {
			return nil, nil, err
		}
		records = append(records, payloads...)
	}
	return l, records, nil
}

// load takes up the segment that begins with a number, behind those that were taken up already, and returns its records.
func (l *Log) load(first int, last bool) ([][]byte, error) {
	if len(l.firsts) > 0 && first != l.next {
		return nil, api.ErrHalt
	}
	name := Name(l.name, first)
	b, err := l.disk.Read(name)
	if err != nil {
		return nil, err
	}
	payloads, whole, err := frame.Scan(b)
	switch {
	case last && frame.Torn(err):
		// Cut off, since what is appended behind a torn record could not be read again.
		if err := l.disk.Cut(name, whole); err != nil {
			return nil, err
		}
		fallthrough
	case err == nil:
		l.firsts = append(l.firsts, first)
		l.next = first + len(payloads)
		l.size = whole
		return payloads, nil
	default:
		return nil, api.ErrHalt
	}
}
