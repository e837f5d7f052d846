package tier

import (
	"icehouse/api"
	"icehouse/clean"
	"icehouse/item"
)

// free is how many segments are free ahead of what goes to the disk, if that can be.
const free = 2

// found is what there is of a key.
type found struct {
	api.Item
	there bool
}

// wanted is the item that the command asks for, with that value and those flags.
func (c *command) wanted(value []byte, flags uint32) api.Item {
	return api.Item{Value: value, Flags: flags, Expiry: item.Expiry(c.now, c.Expiry)}
}

// fits tells whether the command's token, if it has one, is that of what there is; what is to be answered if there is nothing is without.
func (c *command) fits(old found, without int) int {
	switch {
	case !old.there:
		return without
	case c.Cas != 0 && c.Cas != old.Seq:
		return api.StatusThere
	}
	return api.StatusOK
}

// change finds the key; judge tells what is to come of what there is, or a status that says why nothing does; do makes it so.
func (c *command) change(do func(api.Item) api.Answer, judge func(found) (api.Item, int)) api.Answer {
	old, err := c.find()
	if err != api.OK {
		return refused(api.StatusInternal)
	}
	x, status := judge(old)
	if status != api.StatusOK {
		return refused(status)
	}
	return do(x)
}

// write makes the item the key's.
func (c *command) write(x api.Item) api.Answer {
	return c.settle(func() (api.Answer, api.Errno) {
		seq, err := c.take()
		if err != api.OK {
			return api.Answer{}, err
		}
		x.Key, x.Seq, x.Dirty = c.Key, seq, true
		c.put(x)
		return api.Answer{Cas: seq}, api.OK
	})
}

// drop lets the key have nothing.
func (c *command) drop(api.Item) api.Answer {
	return c.settle(func() (api.Answer, api.Errno) {
		c.ram.Remove(c.Key)
		return api.Answer{}, api.OK
	})
}

// settle does what changes the key, behind the death of its copy. If that can't be, memory forgets the key: whatever a crash leaves of it on the disk is then no elder than what was told last.
func (c *command) settle(deed func() (api.Answer, api.Errno)) api.Answer {
	var a api.Answer
	err := c.kill()
	if err == api.OK {
		a, err = deed()
	}
	if err != api.OK {
		c.ram.Remove(c.Key)
		return refused(api.StatusInternal)
	}
	return a
}

// find tells what there is of the key, and lets memory have it, if the disk alone had it.
func (c *command) find() (found, api.Errno) {
	x, err := c.ram.Get(c.Key)
	switch {
	case err == api.OK && item.Expired(c.now, x.Expiry):
		c.ram.Remove(c.Key)
		return found{}, api.OK
	case err == api.OK:
		return found{x, true}, api.OK
	}
	x, err = c.store.Get(c.Key, c.now)
	switch err {
	case api.OK:
		c.put(x)
		return found{x, true}, api.OK
	case api.ErrIo, api.ErrDead:
		return found{}, err
	}
	return found{}, api.OK
}

// put puts an item to memory. What has to give way goes to the disk, if it is not there; if it can't, it is forgotten.
func (c *command) put(x api.Item) {
	out, _ := c.ram.Put(x)
	for _, y := range out {
		if y.Dirty {
			c.keep(y)
		}
	}
}

// keep puts an item to the disk.
func (c *command) keep(x api.Item) api.Errno {
	c.room()
	return c.store.Put(x)
}

// kill makes sure that no copy of the key on the disk is told again, behind a crash neither.
func (c *command) kill() api.Errno {
	if !c.store.May(c.Key) {
		return api.OK
	}
	c.room()
	seq, err := c.take()
	if err != api.OK {
		return err
	}
	return c.store.Kill(c.Key, seq)
}

// room makes room on the disk. Whether there is any is told by what is done next.
func (c *command) room() {
	clean.Room(c.store, free, c.now)
}
