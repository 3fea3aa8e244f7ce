package fs

import (
	"cmp"
	"slices"
	"strings"

	"dedup/api"
	"dedup/dir"
	"dedup/file"
	"dedup/inode"
)

// Items is all that has a path.
func (f *Fs) Items() ([]api.Item, api.Errno) {
	if !f.made() {
		return nil, api.ErrClosed
	}
	first, e := f.item("/", root)
	if e != api.OK {
		return nil, e
	}
	l := []api.Item{first}
	entered := map[int]struct{}{} // in a tree that is not right a directory may be met again, also below itself
	for i := 0; i < len(l); i++ { // l grows by what is in each directory that is met
		number := l[i].Stat.Number
		if _, already := entered[number]; already || !l[i].Stat.Dir {
			continue
		}
		entered[number] = struct{}{}
		below, e := f.itemsIn(number, strings.TrimSuffix(l[i].Path, "/"))
		if e != api.OK {
			return nil, e
		}
		l = append(l, below...)
	}
	slices.SortFunc(l, func(x, y api.Item) int { return cmp.Compare(x.Path, y.Path) })
	return l, api.OK
}

// itemsIn is all that is in a directory, whose path is told without a slash at its end.
func (f *Fs) itemsIn(number int, above string) ([]api.Item, api.Errno) {
	names, e := dir.Names(f.tree(), number)
	if e != api.OK {
		return nil, e
	}
	var l []api.Item
	for _, name := range names {
		number, _, e := dir.Get(f.tree(), number, name)
		if e != api.OK {
			return nil, e
		}
		x, e := f.item(above+"/"+name, number)
		if e != api.OK {
			return nil, e
		}
		l = append(l, x)
	}
	return l, api.OK
}

// item is a file or a directory by one of its paths.
func (f *Fs) item(p string, number int) (api.Item, api.Errno) {
	x, e := inode.Get(f.tree(), number)
	if e != api.OK {
		return api.Item{}, e
	}
	it := api.Item{Path: p, Stat: api.Stat{Number: x.Number, Dir: x.Dir, Size: x.Size, Links: x.Links}}
	if !x.Dir {
		it.Data, e = file.Read(f.vol.Book(), x.Number, x.Size, 0, x.Size)
	}
	return it, e
}
