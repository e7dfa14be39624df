package wal

import (
	"strconv"
	"strings"

	"isthmus/files"
)

const (
	longest  = 48                    // bytes of a log's name
	digits   = 12                    // of the number in a segment's name
	greatest = 1_000_000_000_000 - 1 // number that these digits can tell
)

// Name is the file name of the segment whose first record has the number first, or empty if a segment can't begin there.
func Name(name string, first int) string {
	if first < 0 || first > greatest {
		return ""
	}
	number := strconv.Itoa(first)
	return name + "." + strings.Repeat("0", digits-len(number)) + number
}

// segments are, in increasing order, the numbers with which the segments of a log begin.
func segments(f *files.FS, name string) []int {
	var firsts []int
	// Numbers of as many digits have the order of their texts, which is that of the list.
	for _, file := range f.List() {
		number, _ := strings.CutPrefix(file, name+".")
		// Named again, since a text that is no segment's number, as +1, may be a number all the same.
		if first, err := strconv.Atoi(number); err == nil && Name(name, first) == file {
			firsts = append(firsts, first)
		}
	}
	return firsts
}

// valid reports whether a log can have this name.
func valid(name string) bool {
	outside := func(r rune) bool { return r < '!' || r > '~' }
	return name != "" && len(name) <= longest && !strings.ContainsFunc(name, outside)
}
