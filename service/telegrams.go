package service

import (
	"math/bits"

	"wallgauge/api"
)

const (
	maxTracker = 65535
	maxBattery = 1000
	turn       = 23            // bits by which a digest is turned for each byte
	factor     = 1099511628211 // of a digest
	sumStart   = 7             // of the digest of a telegram
	sumAt      = 16            // where this digest is
)

// Digest returns the digest of bytes behind others.
func Digest(start uint64, s string) uint64 {
	for i := range len(s) {
		start = bits.RotateLeft64((start^uint64(s[i]))*factor, turn)
	}
	return start
}

// fits tells whether the numbers of a telegram are within their limits.
func fits(t Telegram) bool {
	return isWithin(t.Tracker, 0, maxTracker) && isWithin(t.Time, 0, api.MaxTime) && isWithin(t.Place, 0, api.MaxPlace) && isWithin(t.Battery, 0, maxBattery)
}

// Pack returns the bytes of a telegram.
func Pack(t Telegram) ([24]byte, api.Errno) {
	if !fits(t) {
		return [24]byte{}, api.ErrArg
	}
	var out []byte
	put := func(x uint64, count int) {
		for range count {
			out = append(out, byte(x))
			x >>= 8
		}
	}
	put(uint64(t.Tracker), 2)
	put(uint64(t.Time), 6)
	put(uint64(t.Place), 6)
	put(uint64(t.Battery), 2)
	put(Digest(sumStart, string(out)), 8)
	return [24]byte(out), api.OK
}

// Unpack returns the telegram in bytes.
func Unpack(b [24]byte) (Telegram, api.Errno) {
	at := 0
	take := func(count int) uint64 {
		x := uint64(0)
		for i := range count {
			x |= uint64(b[at+i]) << (8 * i)
		}
		at += count
		return x
	}
	var t Telegram
	t.Tracker = int(take(2))
	t.Time = int(take(6))
	t.Place = int(take(6))
	t.Battery = int(take(2))
	if take(8) != Digest(sumStart, string(b[:sumAt])) {
		return Telegram{}, api.ErrSum
	}
	if !fits(t) {
		return Telegram{}, api.ErrForm
	}
	return t, api.OK
}
