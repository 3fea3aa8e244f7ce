package fs

import "dedup/api"

// action is what a kind of operation does: beside an error the result says nothing.
type action struct {
	do func(f *Fs, o api.Op) (api.Result, api.Errno)
}

// actionOf is a kind's action.
func actionOf(kind int) action {
	table := [...]action{
		api.OpOpen:       {(*Fs).openFile},
		api.OpClose:      {(*Fs).closeFile},
		api.OpRead:       {(*Fs).read},
		api.OpWrite:      {(*Fs).write},
		api.OpTruncate:   {(*Fs).truncate},
		api.OpStat:       {(*Fs).tellStat},
		api.OpList:       {(*Fs).list},
		api.OpMkdir:      {(*Fs).mkdir},
		api.OpRmdir:      {(*Fs).rmdir},
		api.OpLink:       {(*Fs).link},
		api.OpUnlink:     {(*Fs).unlink},
		api.OpRename:     {(*Fs).rename},
		api.OpFsync:      {(*Fs).fsync},
		api.OpSync:       {(*Fs).sync},
		api.OpCheckpoint: {(*Fs).checkpoint},
		api.OpClean:      {(*Fs).clean},
		api.OpCompact:    {(*Fs).compact},
		api.OpEvict:      {(*Fs).evict},
		api.OpRemount:    {(*Fs).remount},
	}
	if kind < api.OpOpen || kind >= len(table) {
		return action{(*Fs).unknown}
	}
	return table[kind]
}

// unknown is a kind that is none.
func (f *Fs) unknown(api.Op) (api.Result, api.Errno) {
	return api.Result{}, api.EInval
}
