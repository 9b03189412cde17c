package lines

import "lantern/api"

// copyOf is a segment that has no memory in common with s.
func copyOf(s api.Segment) api.Segment {
	s.Head, s.Tail = copyOfExts(s.Head), copyOfExts(s.Tail)
	s.Data, s.Claims = copyOfList(s.Data), copyOfList(s.Claims)
	return s
}

func copyOfExts(l []api.Ext) []api.Ext {
	l = copyOfList(l)
	for i := range l {
		l[i].Data = copyOfList(l[i].Data)
	}
	return l
}

// copyOfList is nil of an empty list, so that its spare room is not kept either.
func copyOfList[T any](l []T) []T { return append([]T(nil), l...) }
