package service_test

import (
	"math/big"
	"strings"
	"testing"

	"wallgauge/api"
	"wallgauge/service"
)

// digest returns the digest of bytes behind others, with numbers of any size.
func digest(start uint64, s string) uint64 {
	size := new(big.Int).Lsh(big.NewInt(1), 64)
	h := new(big.Int).SetUint64(start)
	for _, x := range []byte(s) {
		h.Xor(h, big.NewInt(int64(x)))
		h.Mul(h, big.NewInt(1099511628211)).Mod(h, size)
		// Turning to the left by 23 bits: what is above 2^64 then comes in again below.
		out, in := new(big.Int).DivMod(h.Lsh(h, 23), size, new(big.Int))
		h = in.Add(in, out)
	}
	return h.Uint64()
}

// texts are texts of all kinds of bytes.
func (d dice) texts(n int) []string {
	out := []string{"", "\x00", "\xff", "a", "b1", "\n", " ", "\x80\x7f", strings.Repeat("\x00", 40)}
	for len(out) < n {
		b := make([]byte, d.from(1, 30))
		for i := range b {
			b[i] = byte(d.from(0, 255))
		}
		out = append(out, string(b))
	}
	return out
}

// replaced returns a text with another byte at a place.
func replaced(s string, at int, x byte) string { return s[:at] + string([]byte{x}) + s[at+1:] }

func TestP10_1Digest(t *testing.T) {
	d := newDice(1)
	for _, s := range d.texts(300) {
		for _, start := range []uint64{0, 1, 7, 1 << 63, 1<<64 - 1, d.Uint64()} {
			if got, want := service.Digest(start, s), digest(start, s); got != want {
				t.Errorf("Digest(%d, %q) is %d, not %d", start, s, got, want)
			}
		}
	}
}

func TestP10_1DigestExamples(t *testing.T) {
	for _, c := range []struct {
		start uint64
		text  string
		want  uint64
	}{
		{1, "", 1}, {0, "", 0}, {0, "\x00", 0}, {1, "\x01", 0},
		{0, "\x01", 0x00000000d9800000 | 0x8000<<48}, // 0x100000001b3 turned
	} {
		if got := service.Digest(c.start, c.text); got != c.want {
			t.Errorf("Digest(%d, %q) is %x, not %x", c.start, c.text, got, c.want)
		}
	}
}

func TestP10_3DigestBehind(t *testing.T) {
	d := newDice(2)
	for _, a := range d.texts(20) {
		for _, b := range d.texts(20) {
			start := d.Uint64()
			if got, want := service.Digest(service.Digest(start, a), b), service.Digest(start, a+b); got != want {
				t.Errorf("%q and %q: %x, not %x", a, b, got, want)
			}
		}
	}
}

func TestP10_3DigestOfAnotherByte(t *testing.T) {
	d := newDice(3)
	for _, s := range d.texts(60) {
		start := d.Uint64()
		want := service.Digest(start, s)
		for at := range len(s) {
			x := byte(int(s[at]) + d.from(1, 255))
			if service.Digest(start, replaced(s, at, x)) == want {
				t.Errorf("%q has the digest of %q", replaced(s, at, x), s)
			}
		}
	}
}

// packed returns the bytes of a telegram, whether its numbers are right or not.
func packed(t service.Telegram) [24]byte {
	var out [24]byte
	at := 0
	put := func(x, count int) {
		for i := range count {
			out[at+i] = byte(x >> (8 * i))
		}
		at += count
	}
	put(t.Tracker, 2)
	put(t.Time, 6)
	put(t.Place, 6)
	put(t.Battery, 2)
	put(int(digest(7, string(out[:16]))), 8)
	return out
}

// telegram returns a telegram.
func (d dice) telegram() service.Telegram {
	return service.Telegram{Tracker: d.from(0, 65535), Time: d.from(0, 1<<40), Place: d.from(0, 1<<30), Battery: d.from(0, 1000)}
}

// telegrams are telegrams with their numbers at their limits, and others.
func telegrams() []service.Telegram {
	out := []service.Telegram{{}, {65535, 1 << 40, 1 << 30, 1000}, {65535, 0, 0, 0}, {0, 1 << 40, 0, 0}, {0, 0, 1 << 30, 0}, {0, 0, 0, 1000}, {1, 2, 3, 4}}
	d := newDice(4)
	for len(out) < 200 {
		out = append(out, d.telegram())
	}
	return out
}

// badTelegrams are telegrams with a number that is too small or too great.
func badTelegrams() []service.Telegram {
	out := []service.Telegram{{Tracker: 65536}, {Time: 1<<40 + 1}, {Place: 1<<30 + 1}, {Battery: 1001}}
	for _, x := range extremes() {
		out = append(out, service.Telegram{Tracker: x}, service.Telegram{Time: x}, service.Telegram{Place: x}, service.Telegram{Battery: x})
	}
	return out
}

func TestP10_1Pack(t *testing.T) {
	for _, x := range telegrams() {
		if got, want := must[[24]byte](t)(service.Pack(x)), packed(x); got != want {
			t.Errorf("%+v: %x, not %x", x, got, want)
		}
	}
	got := must[[24]byte](t)(service.Pack(service.Telegram{Tracker: 0x0201, Time: 0x0706050403, Place: 0x0a0908, Battery: 0x0102}))
	if want := "\x01\x02\x03\x04\x05\x06\x07\x00\x08\x09\x0a\x00\x00\x00\x02\x01"; string(got[:16]) != want {
		t.Errorf("%x, not %x", got, want)
	}
	for _, x := range badTelegrams() {
		if got, e := service.Pack(x); got != [24]byte{} || e != api.ErrArg {
			t.Errorf("%+v: %x and error %v", x, got, e)
		}
	}
}

func TestP10_1Unpack(t *testing.T) {
	for _, x := range telegrams() {
		if got := must[service.Telegram](t)(service.Unpack(packed(x))); got != x {
			t.Errorf("%+v becomes %+v", x, got)
		}
	}
	for _, x := range []service.Telegram{{Time: 1<<40 + 1}, {Time: 1<<48 - 1}, {Place: 1<<30 + 1}, {Place: 1<<48 - 1}, {Battery: 1001}, {Battery: 65535}} {
		b := packed(x)
		if got, e := service.Unpack(b); got != (service.Telegram{}) || e != api.ErrForm {
			t.Errorf("%+v: %+v and error %v", x, got, e)
		}
		b[20]++ // of both errors ErrSum comes first
		if got, e := service.Unpack(b); got != (service.Telegram{}) || e != api.ErrSum {
			t.Errorf("%+v with another digest: %+v and error %v", x, got, e)
		}
	}
	if got, e := service.Unpack([24]byte{}); got != (service.Telegram{}) || e != api.ErrSum {
		t.Errorf("no bytes: %+v and error %v", got, e)
	}
}

func TestP10_3Telegrams(t *testing.T) {
	for _, x := range telegrams() {
		if got := must[service.Telegram](t)(service.Unpack(must[[24]byte](t)(service.Pack(x)))); got != x {
			t.Errorf("%+v becomes %+v", x, got)
		}
	}
}

func TestP10_3TelegramsWithAnotherByte(t *testing.T) {
	for _, x := range telegrams()[:8] {
		for at := range 24 {
			for more := 1; more < 256; more++ {
				b := packed(x)
				b[at] += byte(more)
				if got, e := service.Unpack(b); got != (service.Telegram{}) || e != api.ErrSum {
					t.Errorf("%x: %+v and error %v", b, got, e)
				}
			}
		}
	}
}
