package model

import "dedup/api"

// action is what a kind of operation does: beside an error the result says nothing.
type action struct {
	do func(w *World, o api.Op) (api.Result, api.Errno)
}

// actionOf is a kind's action.
func actionOf(kind int) action {
	table := [...]action{
		api.OpOpen:       {(*World).openFile},
		api.OpClose:      {(*World).closeFile},
		api.OpRead:       {(*World).read},
		api.OpWrite:      {(*World).write},
		api.OpTruncate:   {(*World).truncate},
		api.OpStat:       {(*World).tellStat},
		api.OpList:       {(*World).list},
		api.OpMkdir:      {(*World).mkdir},
		api.OpRmdir:      {(*World).rmdir},
		api.OpLink:       {(*World).link},
		api.OpUnlink:     {(*World).unlink},
		api.OpRename:     {(*World).rename},
		api.OpFsync:      {(*World).fsync},
		api.OpSync:       {(*World).nothing},
		api.OpCheckpoint: {(*World).nothing},
		api.OpClean:      {(*World).nothing},
		api.OpCompact:    {(*World).nothing},
		api.OpEvict:      {(*World).nothing},
		api.OpRemount:    {(*World).remount},
	}
	if kind < api.OpOpen || kind >= len(table) {
		return action{(*World).unknown}
	}
	return table[kind]
}

// unknown is a kind that is none.
func (w *World) unknown(api.Op) (api.Result, api.Errno) {
	return api.Result{}, api.EInval
}

// nothing is maintenance: in memory there is nothing to keep up.
func (w *World) nothing(api.Op) (api.Result, api.Errno) {
	return api.Result{}, api.OK
}

// remount lets all descriptors be free.
func (w *World) remount(api.Op) (api.Result, api.Errno) {
	w.closeAll()
	return api.Result{}, api.OK
}
