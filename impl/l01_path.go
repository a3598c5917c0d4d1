package impl

import (
	"cmp"
	"slices"
	"strings"
)

const (
	MaxPath = 120
	MaxSegs = 8
	MaxList = 200
)

const maxSegment = 16

const (
	anyOne = "+"
	anyEnd = "*"
)

const (
	rankNone  = 0
	rankEnd   = 1
	rankOne   = 2
	rankPlain = 3
)

func PathOk(text string) bool {
	_, ok := splitPlain(text)
	return ok
}

func GlobOk(text string) bool {
	_, ok := SplitPath(text)
	return ok
}

func SplitPath(text string) ([]string, bool) {
	// A text that is too long is refused here, so that its segments are never gathered.
	if len(text) > MaxPath {
		return nil, false
	}
	var segs []string
	for seg := range segmentsOf(text) {
		segs = append(segs, seg)
	}
	if !globSegments(segs) {
		return nil, false
	}
	return segs, true
}

func JoinPath(segs []string) (string, bool) {
	// The segments are asked, not the joined text: a `/` within one of them would pass unseen there.
	if !globSegments(segs) {
		return "", false
	}
	text := strings.Join(segs, "/")
	if len(text) > MaxPath {
		return "", false
	}
	return text, true
}

func UnderPath(prefix string, path string) bool {
	above, aboveOk := splitPlain(prefix)
	segs, segsOk := splitPlain(path)
	if !aboveOk || !segsOk || len(above) > len(segs) {
		return false
	}
	return slices.Equal(above, segs[:len(above)])
}

func MatchGlob(glob string, path string) bool {
	pattern, patternOk := SplitPath(glob)
	segs, segsOk := splitPlain(path)
	return patternOk && segsOk && fits(pattern, segs)
}

func CompareGlob(a string, b string) int {
	left, leftOk := SplitPath(a)
	right, rightOk := SplitPath(b)
	if !leftOk || !rightOk {
		return -2
	}
	for place := range MaxSegs {
		order := cmp.Compare(rankAt(left, place), rankAt(right, place))
		if order != 0 {
			return order
		}
	}
	return 0
}

func ParentPath(path string) (string, bool) {
	segs, ok := splitPlain(path)
	if !ok || len(segs) < 2 {
		return "", false
	}
	return JoinPath(segs[:len(segs)-1])
}

func MatchAll(globs []string, path string) []int {
	if len(globs) > MaxList {
		return nil
	}
	var places []int
	for place, glob := range globs {
		if MatchGlob(glob, path) {
			places = append(places, place)
		}
	}
	return places
}

func Covers(a string, b string) bool {
	wide, wideOk := SplitPath(a)
	narrow, narrowOk := SplitPath(b)
	return wideOk && narrowOk && coversSegments(wide, narrow)
}

// segmentsOf yields what stands between the slashes of text; the empty text has one segment, an empty one.
func segmentsOf(text string) func(yield func(string) bool) {
	return func(yield func(string) bool) {
		start := 0
		for i := range len(text) {
			if text[i] != '/' {
				continue
			}
			if !yield(text[start:i]) {
				return
			}
			start = i + 1
		}
		yield(text[start:])
	}
}

func splitPlain(text string) ([]string, bool) {
	segs, ok := SplitPath(text)
	if !ok {
		return nil, false
	}
	for place := range segs {
		if rankAt(segs, place) != rankPlain {
			return nil, false
		}
	}
	return segs, true
}

func globSegments(segs []string) bool {
	if len(segs) < 1 || len(segs) > MaxSegs {
		return false
	}
	for place, seg := range segs {
		last := place == len(segs)-1
		if !plainSegment(seg) && seg != anyOne && !(seg == anyEnd && last) {
			return false
		}
	}
	return true
}

func plainSegment(seg string) bool {
	if len(seg) < 1 || len(seg) > maxSegment {
		return false
	}
	for i := range len(seg) {
		if !segmentByte(seg[i]) {
			return false
		}
	}
	return true
}

func segmentByte(c byte) bool {
	return 'a' <= c && c <= 'z' || '0' <= c && c <= '9' || c == '-'
}

func rankAt(segs []string, place int) int {
	if place >= len(segs) {
		return rankNone
	}
	switch segs[place] {
	case anyEnd:
		return rankEnd
	case anyOne:
		return rankOne
	}
	return rankPlain
}

// fits is asked of segments that are in order: an anyEnd stands at the last place of pattern only.
func fits(pattern []string, segs []string) bool {
	var fitsFrom func(place int) bool
	fitsFrom = func(place int) bool {
		if place == len(pattern) {
			return place == len(segs)
		}
		// Ahead of the end of segs: anyEnd fits nothing, too.
		if pattern[place] == anyEnd {
			return true
		}
		if place == len(segs) {
			return false
		}
		if pattern[place] != anyOne && pattern[place] != segs[place] {
			return false
		}
		return fitsFrom(place + 1)
	}
	return fitsFrom(0)
}

func coversSegments(wide []string, narrow []string) bool {
	for place, seg := range wide {
		switch seg {
		case anyEnd:
			return true
		case anyOne:
			if rankAt(narrow, place) < rankOne {
				return false
			}
		default:
			if place >= len(narrow) || narrow[place] != seg {
				return false
			}
		}
	}
	return len(narrow) == len(wide)
}
