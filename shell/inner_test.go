package shell

import "lantern/api"

// Tell is lines as a text: not each that can be comes of a text.
var Tell = tell

// Read is what a text comes to, and the number of the first line that may not stand there.
func Read(text string) (api.Script, int) {
	s := usual()
	k := s.read(text)
	s.join()
	return api.Script(*s), k
}
