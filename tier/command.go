package tier

import (
	"strconv"

	"icehouse/api"
	"icehouse/item"
)

// command is a request that an engine does at a moment.
type command struct {
	*Engine
	api.Request
	now uint32
}

// deeds are all commands, by their numbers.
func (c *command) deeds() map[int]func() api.Answer {
	return map[int]func() api.Answer{
		api.OpGet:     c.get,
		api.OpSet:     c.set,
		api.OpAdd:     c.add,
		api.OpReplace: c.replace,
		api.OpDelete:  c.remove,
		api.OpIncr:    c.count,
		api.OpDecr:    c.count,
		api.OpQuit:    c.quit,
		api.OpFlush:   c.flush,
		api.OpNoop:    c.noop,
		api.OpVersion: c.version,
		api.OpAppend:  c.join,
		api.OpPrepend: c.join,
		api.OpStat:    c.stat,
		api.OpTouch:   c.touch,
		api.OpGat:     c.gat,
		api.OpPersist: c.persist,
	}
}

// check tells whether the command's key and value may be, if it has them.
func (c *command) check() int {
	var value []byte
	switch c.Op {
	case api.OpQuit, api.OpFlush, api.OpNoop, api.OpVersion, api.OpStat, api.OpPersist:
		return api.StatusOK
	case api.OpSet, api.OpAdd, api.OpReplace, api.OpAppend, api.OpPrepend:
		value = c.Value
	}
	switch item.Check(c.Key, value) {
	case api.OK:
		return api.StatusOK
	case api.ErrLong:
		return api.StatusLarge
	}
	return api.StatusArgs
}

func (c *command) get() api.Answer {
	x, err := c.find()
	switch {
	case err != api.OK:
		return refused(api.StatusInternal)
	case !x.there:
		return refused(api.StatusNone)
	}
	return api.Answer{Value: x.Value, Flags: x.Flags, Cas: x.Seq}
}

func (c *command) touch() api.Answer {
	return c.change(c.write, c.renewed)
}

func (c *command) gat() api.Answer {
	return c.change(func(x api.Item) api.Answer {
		a := c.write(x)
		if a.Status == api.StatusOK {
			a.Value, a.Flags = x.Value, x.Flags
		}
		return a
	}, c.renewed)
}

// renewed is what there is, with another expiry.
func (c *command) renewed(old found) (api.Item, int) {
	if !old.there {
		return api.Item{}, api.StatusNone
	}
	return c.wanted(old.Value, old.Flags), api.StatusOK
}

func (c *command) set() api.Answer {
	return c.change(c.write, func(old found) (api.Item, int) {
		without := api.StatusOK
		if c.Cas != 0 {
			without = api.StatusNone
		}
		return c.wanted(c.Value, c.Flags), c.fits(old, without)
	})
}

func (c *command) add() api.Answer {
	return c.change(c.write, func(old found) (api.Item, int) {
		if old.there {
			return api.Item{}, api.StatusThere
		}
		return c.wanted(c.Value, c.Flags), api.StatusOK
	})
}

func (c *command) replace() api.Answer {
	return c.change(c.write, func(old found) (api.Item, int) {
		return c.wanted(c.Value, c.Flags), c.fits(old, api.StatusNone)
	})
}

// join is append and prepend.
func (c *command) join() api.Answer {
	return c.change(c.write, func(old found) (api.Item, int) {
		if status := c.fits(old, api.StatusNot); status != api.StatusOK {
			return api.Item{}, status
		}
		ahead, behind := old.Value, c.Value
		if c.Op == api.OpPrepend {
			ahead, behind = behind, ahead
		}
		value, err := item.Join(ahead, behind)
		if err != api.OK {
			return api.Item{}, api.StatusLarge
		}
		old.Value = value
		return old.Item, api.StatusOK
	})
}

func (c *command) remove() api.Answer {
	return c.change(c.drop, func(old found) (api.Item, int) {
		return old.Item, c.fits(old, api.StatusNone)
	})
}

// count is incr and decr.
func (c *command) count() api.Answer {
	n := c.Initial
	a := c.change(c.write, func(old found) (api.Item, int) {
		without := api.StatusOK
		if c.Expiry == api.NoInitial {
			without = api.StatusNone
		}
		status := c.fits(old, without)
		if status != api.StatusOK || !old.there {
			return c.wanted(item.Text(n), 0), status
		}
		var err api.Errno
		old.Value, n, err = item.Turn(old.Value, c.Delta, c.Op == api.OpDecr)
		if err != api.OK {
			return api.Item{}, api.StatusNumber
		}
		return old.Item, api.StatusOK
	})
	if a.Status == api.StatusOK {
		a.Number = n
	}
	return a
}

func (c *command) flush() api.Answer {
	if c.Expiry != 0 {
		return refused(api.StatusArgs)
	}
	seq, err := c.take()
	if err == api.OK {
		err = c.store.Flush(seq)
	}
	if err != api.OK {
		return refused(api.StatusInternal)
	}
	c.ram.Clear()
	return api.Answer{}
}

// persist makes safe on the disk what is in memory alone. None of it is Clean till all of it is safe.
func (c *command) persist() api.Answer {
	if c.store.Degraded() {
		return refused(api.StatusInternal)
	}
	var kept [][]byte
	err := api.OK
keeping:
	for x := range c.ram.All() {
		if !x.Dirty {
			continue keeping
		}
		if err = c.keep(x); err != api.OK {
			break keeping
		}
		kept = append(kept, x.Key)
	}
	if err == api.OK {
		err = c.store.Sync()
	}
	if err != api.OK {
		return refused(api.StatusInternal)
	}
	for _, key := range kept {
		c.ram.Clean(key)
	}
	return api.Answer{}
}

func (c *command) noop() api.Answer { return api.Answer{} }

func (c *command) version() api.Answer {
	return api.Answer{Value: []byte(api.Version)}
}

func (c *command) stat() api.Answer {
	degraded := 0
	if c.store.Degraded() {
		degraded = 1
	}
	return api.Answer{Stats: []api.Stat{
		{Name: "items", Value: strconv.Itoa(c.ram.Len())},
		{Name: "charge", Value: strconv.Itoa(c.ram.Charge())},
		{Name: "entries", Value: strconv.Itoa(c.store.Len())},
		{Name: "degraded", Value: strconv.Itoa(degraded)},
	}}
}

func (c *command) quit() api.Answer {
	return api.Answer{Close: true}
}
