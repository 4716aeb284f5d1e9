package cipher

import (
	"strongroom/api"
	"strongroom/mac"
)

// Seal hides and seals a text.
func Seal(secret, nonce, label, text string) (string, api.Errno) {
	if len(nonce) != nonceSize {
		return "", api.ErrArg
	}
	if len(text) > api.MaxBytes || len(label) > api.MaxBytes {
		return "", api.ErrLong
	}
	key, sealKey := keys(secret)
	hidden, e := Hide(key, nonce, text)
	if e != api.OK {
		return "", e
	}
	return hidden + sealOf(sealKey, nonce, label, hidden), api.OK
}

// Open has a sealed text again.
func Open(secret, nonce, label, sealed string) (string, api.Errno) {
	if len(nonce) != nonceSize {
		return "", api.ErrArg
	}
	if len(label) > api.MaxBytes || len(sealed) > api.MaxBytes+sealSize {
		return "", api.ErrLong
	}
	end := len(sealed) - sealSize
	if end < 0 {
		return "", api.ErrEnd
	}
	key, sealKey := keys(secret)
	hidden := sealed[:end]
	if !same(sealed[end:], sealOf(sealKey, nonce, label, hidden)) {
		return "", api.ErrForm
	}
	return Hide(key, nonce, hidden)
}

// keys is the key that hides, and the one that seals: who guesses at one of them learns nothing of the other.
func keys(secret string) (key, sealKey string) {
	both, _ := mac.Derive(secret, keysLabel, 2*keySize) // so few bytes are never refused
	return both[:keySize], both[keySize:]
}

// sealOf seals the label with its length, such that no byte of it can be taken for one of the hidden text.
func sealOf(sealKey, nonce, label, hidden string) string {
	return mac.Seal(sealKey, nonce+lengthBytes(label)+label+hidden)[:sealSize]
}

func lengthBytes(label string) string {
	var b [lenSize]byte
	for i := range lenSize {
		b[i] = byte(uint64(len(label)) >> (8 * i))
	}
	return string(b[:])
}

// same looks at all bytes, so that the time doesn't tell at which one a wrong seal differs.
func same(seal, want string) bool {
	var differ byte
	for i := range sealSize {
		differ |= seal[i] ^ want[i]
	}
	return differ == 0
}
