package check

import "escrow/crc"

const (
	sumAt     = 4
	payloadAt = 8
)

// bytesOf: what stands in a file for the payload.
func bytesOf(payload string) string {
	length := four(uint32(len(payload)))
	return length + four(sumOf(length, payload)) + payload
}

// payloadOf: the payload whose bytes the text is. False: it is those of none.
func payloadOf(text string) (string, bool) {
	if len(text) < payloadAt {
		return "", false
	}
	length, sum, payload := text[:sumAt], text[sumAt:payloadAt], text[payloadAt:]
	if len(payload) > maxPayload || length != four(uint32(len(payload))) || sum != four(sumOf(length, payload)) {
		return "", false
	}
	return payload, true
}

// sumOf: the length is summed too, so that a file of zeros isn't whole.
func sumOf(length, payload string) uint32 {
	return crc.On(crc.Sum(length), payload)
}

func four(n uint32) string {
	return string([]byte{byte(n >> 24), byte(n >> 16), byte(n >> 8), byte(n)})
}
