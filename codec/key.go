package codec

import "dedup/api"

// Key is a key of several parts, whose order as bytes is theirs.
func Key(prefix uint8, numbers []uint64, name string) (string, api.Errno) {
	if len(numbers) > api.MaxNumbers {
		return "", api.ErrArg
	}
	w := NewWriter(1 + 8*len(numbers) + len(name))
	w.U8(prefix)
	for _, n := range numbers {
		w.U64(n)
	}
	w.Raw(name)
	return w.Done()
}

// Split is a key's parts.
func Split(key string, numbers int) (prefix uint8, l []uint64, name string, e api.Errno) {
	if numbers < 0 || numbers > api.MaxNumbers {
		return 0, nil, "", api.ErrArg
	}
	r := NewReader(key)
	prefix = r.U8()
	for range numbers {
		l = append(l, r.U64())
	}
	name = r.Raw(r.Left())
	if e = r.Err(); e != api.OK {
		return 0, nil, "", e
	}
	return prefix, l, name, api.OK
}
