// Package mac is layer 2: hashes with a key (HMAC) and key derivation (HKDF).
package mac

import "sealwax/sha"

const (
	keySize   = 64
	maxExpand = 255 * 32 // the number of a part is one byte
)

// Of returns the hash of all texts with a key.
func Of(key string, l ...string) sha.Sum {
	key = short(key)
	var inner sha.State
	sum := inner.Add(masked(key, 0x36)).Add(l...).Sum()
	return sha.Of(masked(key, 0x5c), text(sum))
}

// Equal reports whether both are equal.
func Equal(a, b sha.Sum) bool {
	var differ byte
	for i := range a { // never ends early, so that its time does not tell where they differ
		differ |= a[i] ^ b[i]
	}
	return differ == 0
}

// Extract returns a key of 32 bytes, made of a salt and a key.
func Extract(salt, key string) string { return text(Of(salt, key)) }

// Expand returns n bytes (0 to 8160), made of a key and what they are for.
func Expand(key, info string, n int) string {
	n = max(0, min(n, maxExpand))
	key = short(key) // once, and not for every part
	var out []byte
	part := ""
	for i := 1; len(out) < n; i++ {
		part = text(Of(key, part, info, string([]byte{byte(i)})))
		out = append(out, part...)
	}
	return string(out[:n])
}

// Derive expands what is extracted.
func Derive(salt, key, info string, n int) string {
	return Expand(Extract(salt, key), info, n)
}

// short returns a key of at most keySize bytes that stands for key.
func short(key string) string {
	if len(key) > keySize {
		return text(sha.Of(key))
	}
	return key
}

// masked returns a short key, extended to keySize bytes, with each byte xored.
func masked(key string, mask byte) string {
	var out [keySize]byte
	copy(out[:], key)
	for i := range out {
		out[i] ^= mask
	}
	return string(out[:])
}

func text(s sha.Sum) string { return string(s[:]) }
