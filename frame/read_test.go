package frame

import (
	"strings"
	"testing"

	"carrefour/api"
)

// cut is what Next is to answer of a beginning, and never of what can't be one.
func cut(t *testing.T, b string) { ends(t, b, api.ErrNone) }

func never(t *testing.T, b string) { ends(t, b, api.FrameErr) }

func ends(t *testing.T, b string, want int) {
	t.Helper()
	if f, n, code := Next([]byte(b)); code != want || n != 0 || !isZero(f) {
		t.Errorf("%.40q: %d, not %d; %d bytes, kind %d", b, code, want, n, f.Kind)
	}
}

// Promise 4.2, Next: a frame, whatever stands behind it.
func TestNext(t *testing.T) {
	for k, x := range wires {
		for _, more := range []string{"", "\x00", "\xce", "\x05 none", "\x08\x00\x00", x.b} {
			b := []byte(x.b + more)
			f, n, code := Next(b)
			if code != api.OK || n != len(x.b) || !Same(f, x.f) {
				t.Errorf("%d, %q behind: kind %d, %d bytes, %d", k, more, f.Kind, n, code)
			}
			if string(b) != x.b+more {
				t.Errorf("%d: the bytes are others now", k)
			}
		}
	}
}

// Promise 4.2, Next: every front of a frame is a beginning, nothing too.
func TestNextCut(t *testing.T) {
	if f, n, code := Next(nil); code != api.ErrNone || n != 0 || !isZero(f) {
		t.Error("of nil", code)
	}
	for _, x := range wires {
		for n := range len(x.b) {
			cut(t, x.b[:n])
		}
	}
}

// Promise 4.2, Next: a front of a number says nothing, whatever it begins with.
func TestNextFronts(t *testing.T) {
	for c := range 256 {
		s := string([]byte{byte(c)})
		for _, kind := range []string{"\x01", "\x02", "\x03", "\x08"} {
			cut(t, kind+s)
			cut(t, kind+"\x00\x00"+s)
			cut(t, kind+"\x00\x00"+s+"\x01")
			cut(t, kind+"\x00\x00"+s+s+s)
		}
		cut(t, "\x02"+s+s)
		cut(t, "\x02"+s+s+"\x00\x00\x10\x00")
	}
}

// Promise 4.2, Next: the first byte says at once what is none.
func TestNextKind(t *testing.T) {
	for c := range 256 {
		s := string([]byte{byte(c)})
		switch c {
		case 1, 2, 3, 8:
			cut(t, s)
			continue
		}
		never(t, s)
		never(t, s+"\x00")
		never(t, s+"\x00\x00\x00\x00\x00\x00")
		never(t, s+"\x00\x00\x00\x00\x00\x00\xce")
	}
}

// Promise 4.2, Next: a beat's Channel says it, once both its bytes are there.
func TestNextBeat(t *testing.T) {
	for _, channel := range []string{"\x00\x01", "\x01\x00", "\x00\xff", "\xff\x00", "\xff\xff", "\x80\x00", "\x00\xce"} {
		never(t, "\x08"+channel)
		never(t, "\x08"+channel+"\x00\x00\x00")
		never(t, "\x08"+channel+"\x00\x00\x00\x00\xce")
		cut(t, "\x01"+channel)
	}
	for _, length := range []string{"\x00\x00\x00\x01", "\x00\x00\x01\x00", "\x00\x01\x00\x00", "\x01\x00\x00\x00", "\x80\x00\x00\x00", "\x00\x00\x10\x00", "\xff\xff\xff\xff"} {
		never(t, "\x08\x00\x00"+length)
		never(t, "\x08\x00\x00"+length+"x\xce")
	}
	cut(t, "\x08\x00\x00\x00\x00\x00\x00")
}

// Promise 4.2, Next: a length that may not be says it, once its four bytes are there.
func TestNextLength(t *testing.T) {
	for _, kind := range []string{"\x01", "\x02", "\x03"} {
		for _, length := range []string{"\x00\x00\x00\x01", "\x00\x00\x00\xff", "\x00\x00\x01\x00", "\x00\x00\x0f\xff", "\x00\x00\x10\x00"} {
			cut(t, kind+"\x12\x34"+length)
		}
		for _, length := range []string{"\x00\x00\x10\x01", "\x00\x00\x11\x00", "\x00\x00\xff\xff", "\x00\x01\x00\x00", "\x00\x01\x00\x01", "\x01\x00\x00\x00", "\x7f\xff\xff\xff", "\x80\x00\x00\x00", "\x80\x00\x00\x01", "\xff\xff\xff\xfe", "\xff\xff\xff\xff"} {
			never(t, kind+"\x12\x34"+length)
			never(t, kind+"\x12\x34"+length+strings.Repeat("x", 5000))
			cut(t, kind+"\x12\x34"+length[:3])
		}
	}
	never(t, "\x03\x00\x00\x00\x00\x10\x01"+strings.Repeat("x", 4097)+"\xce")
}

// Promise 4.2, Next: the last byte is 206, or it is no frame, whatever is in Data.
func TestNextEnd(t *testing.T) {
	for _, x := range wires {
		front := x.b[:len(x.b)-1]
		for c := range 256 {
			b := front + string([]byte{byte(c)})
			if c != 206 {
				never(t, b)
				never(t, b+"\xce")
			} else if _, n, code := Next([]byte(b)); code != api.OK || n != len(b) {
				t.Errorf("%.40q: %d bytes, %d", b, n, code)
			}
		}
	}
}

// judged is what chapter 4 says of b, place by place: how many bytes of a
// frame, and the code.
func judged(b string) (int, int) {
	place := func(k int64) int64 { return int64(b[k]) }
	if len(b) >= 1 && !strings.Contains("\x01\x02\x03\x08", b[:1]) {
		return 0, api.FrameErr
	}
	beat := len(b) >= 1 && place(0) == 8
	if beat && len(b) >= 3 && b[1:3] != "\x00\x00" {
		return 0, api.FrameErr
	}
	if len(b) < 7 {
		return 0, api.ErrNone
	}
	length := (place(3)*256+place(4))*65536 + place(5)*256 + place(6)
	if length > 4096 || beat && length > 0 {
		return 0, api.FrameErr
	}
	if int64(len(b)) < length+8 {
		return 0, api.ErrNone
	}
	if place(length+7) != 206 {
		return 0, api.FrameErr
	}
	return int(length) + 8, api.OK
}

// Promise 4.2, Next: with any one byte changed, whole or cut, with bytes behind or none.
func TestNextChanged(t *testing.T) {
	met := map[int]int{}
	for _, x := range wires[:9] {
		for n := range len(x.b) {
			for c := range 256 {
				b := []byte(x.b + "\xce\x08\x00")
				b[n] = byte(c)
				for k := range len(b) + 1 {
					f, size, code := Next(b[:k])
					wantSize, want := judged(string(b[:k]))
					if code != want || size != wantSize || code != api.OK && !isZero(f) {
						t.Fatalf("%q: %d bytes, %d; not %d, %d", b[:k], size, code, wantSize, want)
					}
					met[code]++
					if again, put := Put(f); code == api.OK && (put != api.OK || string(again) != string(b[:size])) {
						t.Fatalf("%q: put again it is %q", b[:size], again)
					}
				}
			}
		}
	}
	if met[api.OK] == 0 || met[api.ErrNone] == 0 || met[api.FrameErr] == 0 {
		t.Error(met)
	}
}

// Promise 4.2, All: frames, their bytes, and what ended it.
func TestAll(t *testing.T) {
	beat, hi := wires[0].b, wires[5].b
	for k, x := range []struct {
		b         string
		many, end int
		want      int
	}{
		{"", 0, 0, api.OK},
		{beat, 1, 8, api.OK},
		{beat + hi + beat, 3, 26, api.OK},
		{strings.Repeat(beat, 3000), 3000, 24000, api.OK},
		{"\x01", 0, 0, api.ErrNone},
		{beat[:7], 0, 0, api.ErrNone},
		{beat + "\x08", 1, 8, api.ErrNone},
		{hi + hi[:9], 1, 10, api.ErrNone},
		{beat + hi + beat[:1], 2, 18, api.ErrNone},
		{"\x00", 0, 0, api.FrameErr},
		{"\xce", 0, 0, api.FrameErr},
		{beat + "\x00", 1, 8, api.FrameErr},
		{beat + "\x08\x00\x01", 1, 8, api.FrameErr},
		{beat + hi + "\x04" + beat, 2, 18, api.FrameErr},
		{hi + beat[:7] + "\xcf" + hi + hi, 1, 10, api.FrameErr},
		{hi + "\x01\x00\x00\x00\x00\x10\x01", 1, 10, api.FrameErr},
	} {
		b := []byte(x.b)
		l, n, code := All(b)
		if len(l) != x.many || n != x.end || code != x.want {
			t.Errorf("%d: %d frames, %d bytes, %d", k, len(l), n, code)
		}
		if put := putAll(t, l); put != x.b[:n] || string(b) != x.b {
			t.Errorf("%d: the frames are others", k)
		}
	}
	if l, n, code := All(nil); len(l) != 0 || n != 0 || code != api.OK {
		t.Error("of nil", len(l), n, code)
	}
}

// putAll is the frames' bytes, one behind the other.
func putAll(t *testing.T, l []api.Frame) string {
	t.Helper()
	var s strings.Builder
	for _, f := range l {
		b, code := Put(f)
		if code != api.OK {
			t.Fatal("a frame may not be", f.Kind, f.Channel, len(f.Data))
		}
		s.Write(b)
	}
	return s.String()
}

// Promise 4.2, All: all frames in their order, each whole.
func TestAllInOrder(t *testing.T) {
	s := ""
	for _, x := range wires {
		s += x.b
	}
	l, n, code := All([]byte(s))
	if code != api.OK || n != len(s) || len(l) != len(wires) {
		t.Fatal(len(l), n, code)
	}
	for k, x := range wires {
		if !Same(l[k], x.f) {
			t.Errorf("%d: kind %d, channel %d", k, l[k].Kind, l[k].Channel)
		}
	}
}

// Rule 2: what is answered is the caller's own.
func TestFramesAreOwn(t *testing.T) {
	hi := wires[5]
	b := []byte(hi.b + hi.b)
	one, _, _ := Next(b)
	l, _, _ := All(b)
	clear(b)
	for k, f := range append(l, one) {
		if !Same(f, hi.f) {
			t.Errorf("%d: the frame changes with the bytes", k)
		}
	}
	_ = append(l[0].Data, "and more than was there"...)
	clear(l[0].Data[:cap(l[0].Data)])
	if !Same(l[1], hi.f) || !Same(one, hi.f) {
		t.Error("two frames share memory")
	}
	b = []byte(hi.b + "more")
	f, _, _ := Next(b)
	_ = append(f.Data, "xyz"...)
	if string(b) != hi.b+"more" {
		t.Error("the room behind Data is the caller's bytes")
	}
}

// taker takes bytes in pieces: what All did not read waits for the next piece.
type taker struct {
	waits []byte
	got   []api.Frame
	code  int
}

func (p *taker) add(piece string) {
	p.waits = append(p.waits, piece...)
	l, n, code := All(p.waits)
	p.got, p.waits, p.code = append(p.got, l...), p.waits[n:], code
}

// Promise 4.3: bytes come in pieces: however they are cut, the frames are the same.
func TestPieces(t *testing.T) {
	s := ""
	for _, x := range wires[:11] {
		s += x.b
	}
	for size := 1; size <= len(s); size++ {
		var p taker
		for at := 0; at < len(s); at += size {
			p.add(s[at:min(at+size, len(s))])
			if p.code != api.OK && p.code != api.ErrNone || (p.code == api.OK) != (len(p.waits) == 0) {
				t.Fatalf("by %d, at %d: %d, %d bytes wait", size, at, p.code, len(p.waits))
			}
		}
		if p.code != api.OK || putAll(t, p.got) != s {
			t.Fatalf("by %d: %d frames, %d", size, len(p.got), p.code)
		}
	}
}

// Promise 4.3: what can't become a frame is told with the piece that shows it, and not ahead.
func TestPiecesNot(t *testing.T) {
	good := wires[5].b + wires[0].b
	for _, bad := range []string{"\x00", "\x09", "\x08\x00\x01", "\x08\x01\x00", "\x08\x00\x00\x00\x00\x00\x01", "\x02\x00\x01\x00\x00\x10\x01", "\x02\x00\x01\xff\x00\x00\x00", "\x03\x00\x01\x00\x00\x00\x01xy"} {
		s := good + bad
		var p taker
		for k := range len(s) {
			p.add(s[k : k+1])
			if (p.code == api.FrameErr) != (k == len(s)-1) {
				t.Errorf("%q, byte %d: %d", bad, k, p.code)
			}
		}
		if len(p.got) != 2 {
			t.Errorf("%q: %d frames", bad, len(p.got))
		}
	}
}
