package seg

import (
	"bytes"
	"math"
	"slices"
	"strconv"
	"testing"

	"carrefour/api"
)

// has tells whether l has those records synced, and that many bytes wait.
func has(l *Log, waits int, synced ...string) bool {
	return bytes.Equal(l.Bytes(), logOf(synced...)) && l.Waits() == waits
}

// leaves tells whether a crash leaves b.
func leaves(l *Log, keep int, b []byte) bool {
	return bytes.Equal(l.Crash(keep), b)
}

func opened(t *testing.T, l ...string) *Log {
	t.Helper()
	log, read := Open(logOf(l...))
	if !slices.Equal(texts(read), l) || !has(log, 0, l...) {
		t.Fatalf("opened with %q", texts(read))
	}
	return log
}

// put is what Put lets wait.
func put(t *testing.T, l *Log, texts ...string) {
	t.Helper()
	for _, s := range texts {
		if code := l.Put([]byte(s)); code != api.OK {
			t.Fatal("Put:", code)
		}
	}
}

func begin(t *testing.T, l *Log, s string) {
	t.Helper()
	if code := l.Begin([]byte(s)); code != api.OK {
		t.Fatal("Begin:", code)
	}
}

// Promise 11.2, Open: as far as Read reads, and no more.
func TestOpen(t *testing.T) {
	for _, l := range records() {
		opened(t, l...)
	}
	l := []string{"one", "a", "three"}
	b := logOf(l...)
	for n := range b {
		read, size := Read(b[:n])
		log, again := Open(b[:n])
		if !slices.Equal(texts(again), texts(read)) || !bytes.Equal(log.Bytes(), b[:size]) || log.Waits() != 0 || !leaves(log, 1000, b[:size]) {
			t.Error("torn at", n)
		}
		put(t, log, "new")
		log.Sync()
		if !has(log, 0, append(texts(read), "new")...) {
			t.Error("torn at", n, "and put on:", log.Bytes())
		}
	}
	for _, torn := range []string{"torn", "\x00\x00\x00\x00\x00\x01", string(headed(20001, sumOfLarge(counted(20001)), counted(20001)))} {
		log, read := Open(slices.Concat(b, []byte(torn), logOf("behind")))
		if !slices.Equal(texts(read), l) || !has(log, 0, l...) {
			t.Errorf("what is behind a torn one is read: %q", texts(read))
		}
	}
	log, read := Open(nil)
	if log == nil || len(read) != 0 || !has(log, 0) || !leaves(log, 9, nil) {
		t.Error("nothing, opened")
	}
}

// Promise 11.2, Put and Sync: what is put waits; once synced, nothing does.
func TestPut(t *testing.T) {
	l := opened(t, "old")
	put(t, l, "one")
	if !has(l, 9, "old") {
		t.Error("one is put:", l.Bytes(), l.Waits())
	}
	put(t, l, "four", "\x00")
	if !has(l, 9+10+7, "old") {
		t.Error("three are put:", l.Bytes(), l.Waits())
	}
	l.Sync()
	if !has(l, 0, "old", "one", "four", "\x00") {
		t.Error("three are synced:", l.Bytes(), l.Waits())
	}
	l.Sync()
	if !has(l, 0, "old", "one", "four", "\x00") {
		t.Error("nothing is synced:", l.Bytes(), l.Waits())
	}
	put(t, l, "same")
	put(t, l, "same", string(counted(20000)))
	l.Sync()
	if !has(l, 0, "old", "one", "four", "\x00", "same", "same", string(counted(20000))) {
		t.Error("more are synced")
	}
}

// Promise 11.2, Put and Begin: Record's error, and nothing changes.
func TestPutWrong(t *testing.T) {
	for i, b := range wrong() {
		l := opened(t, "old")
		refused := func(waits int, synced ...string) {
			t.Helper()
			left := l.Crash(1000)
			if l.Put(b) != api.ErrArg || l.Begin(b) != api.ErrArg || !has(l, waits, synced...) || !leaves(l, 1000, left) {
				t.Error(i, "is not refused, or changes the log")
			}
		}
		refused(0, "old")
		put(t, l, "one")
		refused(9, "old")
		l.Sync()
		refused(0, "old", "one")
		begin(t, l, "new")
		refused(9, "old", "one")
		put(t, l, "two")
		refused(18, "old", "one")
		l.Sync()
		refused(0, "new", "two")
	}
}

// Promise 11.2, Begin: alone with the next Sync, and what is put behind it.
func TestBegin(t *testing.T) {
	l := opened(t, "old", "older")
	put(t, l, "gone", "gone too")
	begin(t, l, "new")
	if !has(l, 9, "old", "older") || !leaves(l, 1000, logOf("old", "older")) {
		t.Error("begun:", l.Bytes(), l.Waits())
	}
	put(t, l, "behind", "it")
	if !has(l, 9+12+8, "old", "older") || !leaves(l, 1000, logOf("old", "older")) {
		t.Error("begun, and put:", l.Bytes(), l.Waits())
	}
	l.Sync()
	if !has(l, 0, "new", "behind", "it") || !leaves(l, 1000, logOf("new", "behind", "it")) {
		t.Error("synced:", l.Bytes(), l.Waits())
	}
	put(t, l, "more")
	if !leaves(l, 3, append(logOf("new", "behind", "it"), logOf("more")[:3]...)) {
		t.Error("what is put behind a Begin that is synced is not left")
	}
	l.Sync()
	if !has(l, 0, "new", "behind", "it", "more") {
		t.Error("synced, and put:", l.Bytes(), l.Waits())
	}
}

// Promise 11.2, Begin: of two ahead of one Sync the second one holds, alone.
func TestBeginAgain(t *testing.T) {
	l := opened(t, "old")
	begin(t, l, "first")
	put(t, l, "gone")
	begin(t, l, "second")
	if !has(l, 12, "old") || !leaves(l, 1000, logOf("old")) {
		t.Error("begun twice:", l.Bytes(), l.Waits())
	}
	l.Sync()
	if !has(l, 0, "second") {
		t.Error("synced:", l.Bytes(), l.Waits())
	}
	begin(t, l, "third")
	l.Sync()
	l.Sync()
	if !has(l, 0, "third") {
		t.Error("once more:", l.Bytes(), l.Waits())
	}
}

// Promise 11.2, Crash: the synced ones, and keep of those that wait at most.
func TestCrash(t *testing.T) {
	l := opened(t, "old")
	put(t, l, "one", "three")
	old, all := len(logOf("old")), logOf("old", "one", "three")
	for _, c := range []struct{ keep, left int }{
		{math.MinInt, 0}, {-1 << 32, 0}, {-1000, 0}, {-1, 0}, {0, 0}, {1, 1}, {2, 2}, {8, 8}, {9, 9}, {10, 10}, {19, 19}, {20, 20},
		{21, 20}, {22, 20}, {1000, 20}, {1 << 32, 20}, {math.MaxInt, 20},
	} {
		if !leaves(l, c.keep, all[:old+c.left]) {
			t.Error("keep", c.keep, "leaves", l.Crash(c.keep))
		}
		if !has(l, 20, "old") {
			t.Fatal("the log is changed by Crash of", c.keep)
		}
	}
	begin(t, l, "new")
	put(t, l, "behind")
	for _, keep := range []int{math.MinInt, -1, 0, 1, 9, 21, 22, 1000, math.MaxInt} {
		if !leaves(l, keep, logOf("old")) {
			t.Error("keep", keep, "behind a Begin leaves", l.Crash(keep))
		}
	}
	l.Sync()
	for _, keep := range []int{math.MinInt, -1, 0, 1, 1000, math.MaxInt} {
		if !leaves(l, keep, logOf("new", "behind")) {
			t.Error("keep", keep, "of nothing that waits leaves", l.Crash(keep))
		}
	}
}

// Promise 11.2, of nil: ErrState, nothing, 0.
func TestNil(t *testing.T) {
	var l *Log
	l.Sync()
	for _, b := range append(wrong(), []byte("x")) {
		if l.Put(b) != api.ErrState || l.Begin(b) != api.ErrState {
			t.Error("a Put, a Begin of", len(b), "bytes")
		}
	}
	for _, keep := range []int{math.MinInt, -1, 0, 5, math.MaxInt} {
		if len(l.Crash(keep)) != 0 {
			t.Error("a Crash leaves something")
		}
	}
	if len(l.Bytes()) != 0 || l.Waits() != 0 {
		t.Error("there is something")
	}
}

// model is what a log should have, as lists of records.
type model struct {
	synced, waits []string
	begun         bool
}

func (m *model) sync() {
	if m.begun {
		m.synced = nil
	}
	m.synced = append(slices.Clone(m.synced), m.waits...)
	m.waits, m.begun = nil, false
}

// left is what a crash leaves: at least what was synced.
func (m *model) left(keep int) []byte {
	b := logOf(m.synced...)
	if m.begun {
		return b
	}
	w := logOf(m.waits...)
	return append(b, w[:max(0, min(keep, len(w)))]...)
}

// crash is the model opened anew with what a crash leaves.
func (m *model) crash(keep int) {
	if !m.begun {
		for len(m.waits) > 0 && keep >= len(logOf(m.waits[0])) {
			keep -= len(logOf(m.waits[0]))
			m.synced = append(slices.Clone(m.synced), m.waits[0])
			m.waits = m.waits[1:]
		}
	}
	m.waits, m.begun = nil, false
}

// kinds of what is done to a log in TestSynced.
const (
	doPut = iota
	doBegin
	doSync
	doWrong
	doCrash      // nothing is kept of what waits
	doCrashTorn  // half a record is kept
	doCrashLater // a record and a half is kept
	doEnd
)

// do does the i-th thing to l and to m.
func do(l *Log, m *model, kind, i int) *Log {
	s := "no " + strconv.Itoa(i)
	keep := 0
	switch kind {
	case doPut:
		l.Put([]byte(s))
		m.waits = append(slices.Clone(m.waits), s)
		return l
	case doBegin:
		l.Begin([]byte(s))
		m.waits, m.begun = []string{s}, true
		return l
	case doSync:
		l.Sync()
		m.sync()
		return l
	case doWrong:
		l.Put(nil)
		l.Begin(make([]byte, 20001))
		return l
	case doCrashTorn:
		keep = 5
	case doCrashLater:
		keep = 10 + 5
	}
	l, _ = Open(l.Crash(keep))
	m.crash(keep)
	return l
}

// agrees tells whether l is as m is, and leaves what it should.
func agrees(l *Log, m *model) bool {
	if !has(l, len(logOf(m.waits...)), m.synced...) {
		return false
	}
	for _, keep := range []int{-1, 0, 1, 5, 9, 10, 11, 25, 1000} {
		b := l.Crash(keep)
		if !bytes.Equal(b, m.left(keep)) {
			return false
		}
		_, read := Open(b)
		if len(read) < len(m.synced) || !slices.Equal(texts(read)[:len(m.synced)], m.synced) {
			return false
		}
	}
	return true
}

// Promise 11.3: what was synced is there, whatever is done, and wherever it crashes.
func TestSynced(t *testing.T) {
	const long = 5
	runs := 1
	for range long {
		runs *= doEnd
	}
	for run := range runs {
		l, m := &Log{}, &model{}
		rest := run
		for i := range long {
			l = do(l, m, rest%doEnd, i)
			rest /= doEnd
			if !agrees(l, m) {
				t.Fatalf("run %d, step %d: %q, %d wait; model %q, %q", run, i, l.Bytes(), l.Waits(), m.synced, m.waits)
			}
		}
	}
}

// Rules 2 and 3: a log keeps nothing of what is handed in, and hands out
// nothing of its own; two logs have nothing in common.
func TestLogIsOwn(t *testing.T) {
	b := logOf("old", "older")
	handed := append(make([]byte, 0, 100), b...)
	l, read := Open(handed)
	if !bytes.Equal(handed, b) || slices.ContainsFunc(handed[len(b):100], func(c byte) bool { return c != 0 }) {
		t.Error("Open changes its bytes")
	}
	spoil(handed)
	spoil(read[0])
	if !has(l, 0, "old", "older") || string(read[1]) != "older" {
		t.Error("what Open answers is shared")
	}
	data := append(make([]byte, 0, 100), "data"...)
	put(t, l, "one")
	l.Put(data)
	spoil(data)
	for _, keep := range []int{0, 9, 1000} {
		spoil(l.Crash(keep))
	}
	spoil(l.Bytes())
	if !has(l, 9+10, "old", "older") || !leaves(l, 1000, logOf("old", "older", "one", "data")) {
		t.Error("the log is shared")
	}
	data = []byte("new")
	l.Begin(data)
	spoil(data)
	spoil(l.Crash(1000))
	l.Sync()
	if !has(l, 0, "new") {
		t.Error("what is begun is shared")
	}
	spoil(l.Bytes())
	spoil(l.Crash(0))
	other, _ := Open(l.Bytes())
	put(t, l, "mine")
	put(t, other, "its")
	l.Sync()
	other.Sync()
	if !has(l, 0, "new", "mine") || !has(other, 0, "new", "its") {
		t.Error("two logs share")
	}
}
