package seg

import (
	"slices"

	"carrefour/api"
)

// Log is records one behind the other: those that are synced, and those that
// wait to be.
type Log struct {
	synced []byte
	waits  []byte
	begun  bool // what waits comes in the place of what is synced, not behind it
}

// Open is the log that a disk with these bytes has, and its records.
func Open(b []byte) (*Log, [][]byte) {
	l, read := Read(b)
	return &Log{synced: slices.Clone(b[:read])}, l
}

// Put lets a record of b wait.
func (l *Log) Put(b []byte) int {
	if l == nil {
		return api.ErrState
	}
	r, code := Record(b)
	l.waits = append(l.waits, r...) // nothing, beside an error
	return code
}

// Begin lets a record of b wait, to be the log's first one.
func (l *Log) Begin(b []byte) int {
	if l == nil {
		return api.ErrState
	}
	r, code := Record(b)
	if code == api.OK {
		l.waits, l.begun = r, true
	}
	return code
}

// Sync has what waits synced.
func (l *Log) Sync() {
	if l == nil {
		return
	}
	if l.begun {
		l.synced = nil
	}
	l.synced = append(l.synced, l.waits...)
	l.waits, l.begun = nil, false
}

// Crash is what the disk has, if all ends now and keep bytes more got there.
// The log itself stays as it is.
func (l *Log) Crash(keep int) []byte {
	if l == nil {
		return nil
	}
	if l.begun { // what waits has no place behind the old log
		keep = 0
	}
	keep = min(max(keep, 0), len(l.waits))
	return slices.Concat(l.synced, l.waits[:keep])
}

// Bytes is what is synced.
func (l *Log) Bytes() []byte {
	if l == nil {
		return nil
	}
	return slices.Clone(l.synced)
}

// Waits is how many bytes wait.
func (l *Log) Waits() int {
	if l == nil {
		return 0
	}
	return len(l.waits)
}
