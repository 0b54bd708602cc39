package image

import "matryoshka/api"

// Begin begins a call of a function of layers 18, 20 or 21, which changes an image as a whole or not at all. What it
// returns ends the call, and undoes what was changed during it if it is handed an error. Until then no sectors are used
// again that were released during the call, so that there is nothing that can't be undone. A call may begin another one,
// which ends before it.
func (i *Image) Begin() func(errno api.Errno) {
	if i == nil {
		return func(api.Errno) {}
	}
	current, slot, changed, known := i.current, i.slot, i.changed, i.known.Copy()
	// A file that is not there has no sectors.
	sectors, _ := i.disk.Size(i.name)
	i.calls++
	ended := false
	return func(errno api.Errno) {
		if ended {
			return
		}
		ended = true
		if errno != api.OK {
			// A state that was flushed during the call is another one than the one before.
			i.current, i.changed, i.known = current, changed || i.slot != slot, known
		}
		i.calls--
		i.countUses()
		if errno != api.OK {
			i.cut(sectors)
		}
	}
}

// cut takes from the file what it has beyond n sectors, as far as nobody uses it, so that other files have the room.
func (i *Image) cut(n int) {
	// A file that is not so long can't be cut, nor any one while the power is off.
	i.disk.Cut(i.name, max(n, len(i.uses)))
}
