package coin

import (
	"slices"
	"strings"

	"isthmus/api"
	"isthmus/sha"
)

const (
	maxEnds = 8
	maxName = 20  // bytes of a port, and of a channel
	between = "/" // a port and a channel, two ends, an end and a base
)

// Trace is the path on which a denomination moved: its ends, the latest one first, and the base that it began as.
type Trace struct {
	Path []string
	Base string
}

// Full is the text of a trace.
func Full(t Trace) (string, error) {
	if err := checkTrace(t); err != nil {
		return "", err
	}
	return strings.Join(append(slices.Clone(t.Path), t.Base), between), nil
}

// Parse is the trace whose Full is s.
func Parse(s string) (Trace, error) {
	// Whatever is too much for a trace stays in the last part, which is no base then.
	parts := strings.SplitN(s, between, 2*maxEnds+1)
	last := len(parts) - 1
	t := Trace{Base: parts[last]}
	for end := range slices.Chunk(parts[:last], 2) {
		t.Path = append(t.Path, strings.Join(end, between))
	}
	if err := checkTrace(t); err != nil {
		return Trace{}, err
	}
	return t, nil
}

// Denom is the denomination that a trace has on the chain that it ends at.
func Denom(t Trace) (string, error) {
	text, err := Full(t)
	if err != nil || len(t.Path) == 0 {
		return text, err
	}
	return voucher + sha.Text(sha.Sum([]byte(text))), nil
}

// Port is the end that a port and a channel form, or nothing.
func Port(port, channel string) string {
	if !isName(port) || !isName(channel) {
		return ""
	}
	return port + between + channel
}

// Into is a trace with this end before the others.
func Into(t Trace, port, channel string) (Trace, error) {
	end := Port(port, channel)
	if end == "" {
		return Trace{}, api.ErrDenom
	}
	longer := Trace{Path: append([]string{end}, t.Path...), Base: t.Base}
	if err := checkTrace(longer); err != nil {
		return Trace{}, err
	}
	return longer, nil
}

// From is a trace without its first end, and true, if that is this end.
func From(t Trace, port, channel string) (Trace, bool) {
	// Nothing is formed by names that can't be, and must not be found in a Path that holds it.
	end := Port(port, channel)
	came := end != "" && len(t.Path) > 0 && t.Path[0] == end
	path := t.Path
	if came {
		path = path[1:]
	}
	return Trace{Path: slices.Clone(path), Base: t.Base}, came
}

// checkTrace is the error of Full.
func checkTrace(t Trace) error {
	if len(t.Path) > maxEnds {
		return api.ErrLong
	}
	isNoEnd := func(s string) bool { return !isEnd(s) }
	if slices.ContainsFunc(t.Path, isNoEnd) || !Base(t.Base) {
		return api.ErrDenom
	}
	return nil
}

func isEnd(s string) bool {
	port, channel, _ := strings.Cut(s, between) // the channel is empty, and so no name, if there is nothing between
	return isName(port) && isName(channel)
}

// isName tells whether s can be a port or a channel.
func isName(s string) bool {
	return len(s) >= 1 && len(s) <= maxName && consistsOf(s, letters+digits+"-")
}
