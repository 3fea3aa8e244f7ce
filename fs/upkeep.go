package fs

import (
	"dedup/api"
	"dedup/chunk"
	"dedup/clean"
	"dedup/vol"
)

// fsync lets all that was changed last, if the descriptor is open.
func (f *Fs) fsync(o api.Op) (api.Result, api.Errno) {
	if _, e := f.handles.Get(o.Handle); e != api.OK {
		return api.Result{}, e
	}
	return f.sync(o)
}

// sync lets all that was changed last.
func (f *Fs) sync(api.Op) (api.Result, api.Errno) {
	return api.Result{}, f.vol.Sync()
}

// checkpoint writes the tree anew.
func (f *Fs) checkpoint(api.Op) (api.Result, api.Errno) {
	_, e := f.vol.Checkpoint()
	return api.Result{}, e
}

// clean does a step of the cleaner; one that is refused is done by a later call.
func (f *Fs) clean(api.Op) (api.Result, api.Errno) {
	f.cleanStep()
	return api.Result{}, api.OK
}

// cleanStep does a step of the cleaner, if there is a victim.
func (f *Fs) cleanStep() api.Errno {
	return f.transact(func(b *chunk.Book) api.Errno {
		_, _, e := clean.Step(b)
		return e
	})
}

// Clean does steps of the cleaner: how many, and what refused one.
func (f *Fs) Clean(most int) (int, api.Errno) {
	if !f.made() {
		return 0, api.ErrClosed
	}
	n := 0
	for n < most {
		if _, is := clean.Victim(f.vol.Book()); !is {
			break
		}
		if e := f.cleanStep(); e != api.OK {
			return n, e
		}
		n++
	}
	return n, api.OK
}

// compact does a step of the index.
func (f *Fs) compact(api.Op) (api.Result, api.Errno) {
	f.vol.Compact()
	return api.Result{}, api.OK
}

// evict lets sectors out of memory.
func (f *Fs) evict(api.Op) (api.Result, api.Errno) {
	f.vol.Drop()
	return api.Result{}, api.OK
}

// remount lets all that was changed last, and mounts what lies on the disk.
func (f *Fs) remount(api.Op) (api.Result, api.Errno) {
	if e := f.vol.Sync(); e != api.OK {
		return api.Result{}, e
	}
	v, e := vol.Open(f.vol.Disk())
	if e != api.OK {
		return api.Result{}, e
	}
	f.vol = v
	f.handles.Clear()
	return api.Result{}, api.OK
}
