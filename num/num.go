// Package num is layer 1: rows of numbers in bytes, see shared/doc/01-num.md.
package num

import "catamaran/api"

const maxSize = 8

// Size tells how many bytes a row of these sizes has.
func Size(sizes []int) (int, api.Errno) {
	if len(sizes) > api.MaxFields {
		return 0, api.ErrArg
	}
	total := 0
	for i := range len(sizes) {
		if sizes[i] < 1 || sizes[i] > maxSize {
			return 0, api.ErrArg
		}
		total += sizes[i]
	}
	return total, api.OK
}

// Write puts the numbers into a row of these sizes.
func Write(l []uint64, sizes []int) ([]byte, api.Errno) {
	total, e := Size(sizes)
	if e != api.OK {
		return nil, e
	}
	if len(l) != len(sizes) {
		return nil, api.ErrArg
	}
	row := make([]byte, total)
	list := parts(row, sizes)
	for i := range len(list) {
		if !put(list[i], l[i]) {
			return nil, api.ErrMany
		}
	}
	return row, api.OK
}

// Read takes the numbers out of a row of these sizes.
func Read(b []byte, sizes []int) ([]uint64, api.Errno) {
	total, e := Size(sizes)
	if e != api.OK {
		return nil, e
	}
	if len(b) != total {
		return nil, api.ErrShort
	}
	list := parts(b, sizes)
	l := make([]uint64, len(list))
	for i := range len(list) {
		l[i] = get(list[i])
	}
	return l, api.OK
}

// parts cuts a row into its numbers' bytes. Each part's capacity ends with it, so that none reaches into the next one.
func parts(row []byte, sizes []int) [][]byte {
	list := make([][]byte, len(sizes))
	at := 0
	for i := range len(sizes) {
		end := at + sizes[i]
		list[i] = row[at:end:end]
		at = end
	}
	return list
}

// put writes a number's digits and tells whether the part had room for all of them. The highest stands first, so that rows stand in their numbers' order, byte by byte.
func put(part []byte, v uint64) bool {
	for i := range len(part) {
		part[len(part)-1-i] = byte(v)
		v >>= 8
	}
	return v == 0
}

func get(part []byte) uint64 {
	var v uint64
	for i := range len(part) {
		v = v<<8 | uint64(part[i])
	}
	return v
}
