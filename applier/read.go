package applier

import (
	"drogher/api"
	"drogher/chunk"
	"drogher/hss"
	"drogher/plan"
	"drogher/sha"
)

// target is the slot that the new image comes into.
func target(r api.Record) uint8 {
	if r.Mode == api.ModePlace {
		return r.Active
	}
	return 1 - r.Active
}

// read reads bytes, thing by thing.
func (x *Installer) read(b []byte) api.Errno {
	for !x.isRead {
		n, e := x.parser.Feed(b)
		if e != api.OK {
			return e
		}
		b = b[n:]
		x.want += uint64(n)
		if !x.parser.Ready() {
			return api.OK
		}
		at := x.want
		if e := x.behind(); e != api.OK {
			return e
		}
		// Where an installation goes on, the bytes ahead of the new place are left out.
		b = b[min(uint64(len(b)), x.want-at):]
	}
	return refused(len(b) > 0, api.ErrForm)
}

// behind does what is to be done behind the thing that is there.
func (x *Installer) behind() api.Errno {
	if x.isPast {
		return x.behindChunk()
	}
	return x.behindHeader()
}

// behindHeader looks at the header, and begins an installation, or goes on with it.
func (x *Installer) behindHeader() api.Errno {
	m, writing, sig := x.parser.Header()
	name := sha.Sum(append(append([]byte(nil), writing...), sig...))
	return inTurn(
		func() api.Errno { return refused(hss.Verify(x.public, writing, sig) != api.OK, api.ErrSign) },
		func() api.Errno { return refused(m.Block != x.disk.Block, api.ErrArg) },
		func() api.Errno { return refused(m.NewLen > x.image.Cap(), api.ErrFull) },
		func() api.Errno {
			r := x.journal.Last()
			if r.State != api.Idle {
				return refused(r.Manifest != name, api.ErrOther)
			}
			return x.begin(m, name)
		},
		x.goOn,
		x.end,
	)
}

// begin begins an installation.
func (x *Installer) begin(m api.Manifest, name api.Digest) api.Errno {
	r := x.journal.Last()
	return inTurn(
		func() api.Errno { return refused(m.Version <= r.Version, api.ErrVersion) },
		func() api.Errno {
			if m.Mode == api.ModeFull {
				return api.OK
			}
			return x.isOld(r, m)
		},
		func() api.Errno {
			return x.journal.Write(api.Record{
				Active: r.Active, Version: r.Version, Length: r.Length,
				State: api.Filling, Mode: m.Mode, Manifest: name, NewVersion: m.Version, NewLen: m.NewLen, At: x.want,
			})
		},
	)
}

// isOld is the error of a manifest that is of another old image.
func (x *Installer) isOld(r api.Record, m api.Manifest) api.Errno {
	if m.OldLen != r.Length {
		return api.ErrOld
	}
	d, e := x.image.Sum(r.Active, r.Length)
	if e != api.OK {
		return e
	}
	return refused(d != m.Old, api.ErrOld)
}

// goOn leaves the header behind, and the chunks that are done.
func (x *Installer) goOn() api.Errno {
	r := x.journal.Last()
	x.parser.Next()
	x.isPast = true
	x.want = max(x.want, r.At)
	return x.parser.Skip(r.Done)
}

// behindChunk makes the block of a chunk, and installs it.
func (x *Installer) behindChunk() api.Errno {
	m, _, _ := x.parser.Header()
	c := x.parser.Chunk()
	r := x.journal.Last()
	var b []byte
	return inTurn(
		func() (e api.Errno) {
			b, e = chunk.Open(m, r.Done, c, x.source(r, m))
			return e
		},
		func() api.Errno {
			if r.Mode != api.ModePlace {
				return api.OK
			}
			return x.keep(c.Block, b)
		},
		func() api.Errno { return x.install(c.Block, b, x.want) },
		func() api.Errno {
			x.parser.Next()
			return api.OK
		},
		x.end,
	)
}

// source is what plans ask for bytes.
func (x *Installer) source(r api.Record, m api.Manifest) plan.Source {
	if m.Mode == api.ModeFull {
		return nil
	}
	return x.image.View(r.Active, m.OldLen)
}

// keep keeps a block aside: if the device falls while it is written over the old image, it can be written again.
func (x *Installer) keep(block int, b []byte) api.Errno {
	if e := x.image.Keep(b); e != api.OK {
		return e
	}
	r := x.journal.Last()
	r.State, r.Block, r.AsideSize, r.At = api.Aside, block, len(b), x.want
	return x.journal.Write(r)
}

// install puts a block into the target; at is the byte behind its chunk.
func (x *Installer) install(block int, b []byte, at uint64) api.Errno {
	r := x.journal.Last()
	if e := x.image.Put(target(r), block, b); e != api.OK {
		return e
	}
	r.State, r.Block, r.AsideSize, r.At = api.Filling, 0, 0, at
	r.Done++
	return x.journal.Write(r)
}

// end looks at the new image, if the last chunk is behind.
func (x *Installer) end() api.Errno {
	if !x.parser.Done() {
		return api.OK
	}
	r := x.journal.Last()
	if r.State != api.Ready {
		d, e := x.image.Sum(target(r), r.NewLen)
		if e != api.OK {
			return e
		}
		m, _, _ := x.parser.Header()
		if d != m.New {
			return api.ErrNew
		}
		r.State = api.Ready
		if e := x.journal.Write(r); e != api.OK {
			return e
		}
	}
	x.isRead = true
	return api.OK
}
