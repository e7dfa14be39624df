package kv

import (
	"errors"

	"isthmus/api"
	"isthmus/files"
	"isthmus/frame"
)

// Open is the Store of the file with that name, which is created when something is written.
func Open(f *files.FS, name string) (*Store, error) {
	s := &Store{disk: f, name: name, pairs: map[string]api.Pair{}}
	if err := s.load(); err != nil {
		return nil, err
	}
	// A second file is what a crash left of a Compact that has changed nothing.
	if _, err := f.Read(s.second()); err == nil {
		if err := f.Remove(s.second()); err != nil {
			return nil, err
		}
	}
	return s, nil
}

// Apply appends a batch, and performs it once it is safe.
func (s *Store) Apply(l []Change) error {
	if s == nil {
		return api.ErrArg
	}
	if s.failed != nil || len(l) == 0 {
		return s.failed
	}
	b, err := record(l)
	if err != nil {
		return err
	}
	if s.failed = s.write(s.name, b); s.failed != nil {
		return s.failed
	}
	s.size += len(b)
	s.perform(l)
	return nil
}

// Compact rewrites the file, without what has been replaced or is gone.
func (s *Store) Compact() error {
	if s == nil {
		return api.ErrArg
	}
	if s.failed != nil {
		return s.failed
	}
	b, err := s.records()
	if err != nil {
		return err
	}
	if s.failed = s.replace(b); s.failed != nil {
		return s.failed
	}
	s.size = len(b)
	return nil
}

// load performs the batches of the file, if there is one. A torn record is cut off: what is appended behind it could not
// be read again.
func (s *Store) load() error {
	b, err := s.disk.Read(s.name)
	if errors.Is(err, api.ErrNone) {
		return nil
	}
	if err != nil {
		return err
	}
	payloads, whole, torn := frame.Scan(b)
	if torn != nil && !frame.Torn(torn) {
		return api.ErrHalt
	}
	for _, payload := range payloads {
		l, err := decode(payload)
		if err != nil {
			return err
		}
		s.perform(l)
	}
	s.size = whole
	if torn != nil {
		return s.disk.Cut(s.name, whole)
	}
	return nil
}

// records are those of a compacted file: a batch for each key.
func (s *Store) records() ([]byte, error) {
	var all []byte
	for _, pair := range s.Range("", "") {
		b, err := record([]Change{{Key: pair.Key, Value: pair.Value}})
		if err != nil {
			return nil, err
		}
		all = append(all, b...)
	}
	return all, nil
}

// replace makes b the bytes of the file. The file stays as it was until all of b is safe in the second one.
func (s *Store) replace(b []byte) error {
	if err := s.write(s.second(), b); err != nil {
		return err
	}
	return s.disk.Rename(s.second(), s.name)
}

// write appends b to a file, and makes it safe.
func (s *Store) write(name string, b []byte) error {
	if err := s.disk.Append(name, b); err != nil {
		return err
	}
	return s.disk.Sync(name)
}

// second is the name of the second file.
func (s *Store) second() string {
	return s.name + ".new"
}
