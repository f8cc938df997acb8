package kern

import (
	"hayward/api"
	"hayward/desc"
	"hayward/inode"
	"hayward/names"
	"hayward/wire"
)

// noFd is a descriptor that no process has.
const noFd = -1

// files is the body of the service SFile.
type files struct {
	store *inode.Store
	tree  *names.Tree
	table *desc.Table
}

// newFiles has a root and the process 1, or panics.
func newFiles(c api.Caps) *files {
	store := value(inode.New(c))
	tree := value(names.New(store))
	table := value(desc.New(store, tree, c))
	must(table.Add(first))
	return &files{store, tree, table}
}

// has asks the table for a descriptor; what it misses first is the process.
func (f *files) has(pid int) bool {
	_, e := f.table.Stat(pid, noFd)
	return e != api.ErrSrch
}

func (f *files) perform(pid int, c api.Call) api.Reply {
	fd, n, path := int(c.N[0]), c.N[1], c.S[0]
	switch c.No {
	case api.COpen:
		return number(f.table.Open(pid, path, int(c.N[0])))
	case api.CClose:
		return done(f.table.Close(pid, fd))
	case api.CDup:
		return number(f.table.Dup(pid, fd))
	case api.CRead:
		return read(f.table.Read(pid, fd, n))
	case api.CWrite:
		return number(f.table.Write(pid, fd, c.S[0]))
	case api.CSeek:
		return number(f.table.Seek(pid, fd, n, int(c.N[2])))
	case api.CTrunc:
		return done(f.table.Trunc(pid, fd, n))
	case api.CStat:
		return described(f.table.Stat(pid, fd))
	case api.CMkdir:
		return number(f.tree.Make(path, api.KDir))
	case api.CRmdir:
		return done(f.tree.Rmdir(path))
	case api.CLink:
		return done(f.tree.Link(path, c.S[1]))
	case api.CUnlink:
		return done(f.tree.Unlink(path))
	case api.CRename:
		return done(f.tree.Rename(path, c.S[1]))
	case api.CList:
		return listed(f.tree.List(path))
	case api.KClone:
		return done(f.table.Clone(pid, int(c.N[0])))
	case api.KDropF:
		return done(f.table.Drop(pid))
	}
	panic(api.ErrNoSys)
}

// read is the reply of CRead.
func read(data string, e api.Errno) api.Reply {
	must(e)
	return api.Reply{N: int64(len(data)), S: data}
}

// described is the reply of CStat.
func described(x api.Stat, e api.Errno) api.Reply {
	must(e)
	return api.Reply{N: int64(x.Ino), S: encoded(int64(x.Kind), int64(x.Links), int64(x.Opens), x.Size, x.Stored)}
}

// listed is the reply of CList. Each name is encoded by itself, because wire copies all that is ahead of what it encodes.
func listed(l []api.Name, e api.Errno) api.Reply {
	must(e)
	var out []byte
	for _, x := range l {
		out = append(out, value(wire.Text(nil, x.Name))...)
		out = append(out, encoded(int64(x.Ino), int64(x.Kind))...)
	}
	return api.Reply{N: int64(len(l)), S: string(out)}
}

func (f *files) tell(l *lines) {
	for _, x := range f.store.All() {
		l.add("i", int64(x.Ino), int64(x.Kind), int64(x.Links), int64(x.Opens), x.Size, x.Stored)
		if x.Kind == api.KFile {
			data, _ := f.store.Read(x.Ino, 0, x.Size)
			l.add("c", int64(x.Ino), sum(data))
		}
	}
	f.tellNames(l, "")
	for _, pid := range f.table.Procs() {
		l.add("p", int64(pid))
		for _, x := range f.table.Fds(pid) {
			l.add("f", int64(x.Fd), int64(x.Ino), x.Offset, int64(x.Flags), int64(x.Refs))
		}
	}
}

// sum is a number that tells most contents apart. A file has too few bytes for it to wrap round.
func sum(data string) int64 {
	n := int64(0)
	for i := range len(data) {
		n += int64(i+1) * int64(data[i])
	}
	return n
}

// tellNames tells of all that lies below a directory. With a path of more than 256 bytes the tree lists none, so nothing below such a directory is told.
func (f *files) tellNames(l *lines, dir string) {
	dir += "/"
	under, _ := f.tree.List(dir)
	for _, x := range under {
		path := dir + x.Name
		l.add("n "+hexed(path), int64(x.Ino))
		if x.Kind == api.KDir {
			f.tellNames(l, path)
		}
	}
}
