package disk

import "surmise/api"

// Arm lets the disk go down at a write.
func (d *Disk) Arm(n int) api.Errno {
	if e := d.up(); e != api.OK {
		return e
	}
	if n < 1 {
		return api.ErrArg
	}
	d.left = n
	return api.OK
}

// Crash lets the disk crash, and come up.
func (d *Disk) Crash(keep []int) api.Errno {
	if d == nil {
		return api.ErrNil
	}
	for _, name := range d.List() {
		f := d.files[name]
		if others := len(f.bytes) - f.safe; others > 0 {
			kept := 0
			if len(keep) > 0 {
				kept = max(keep[0], 0) % (others + 1)
				keep = keep[1:]
			}
			f.cut(f.safe + kept)
		}
		f.safe = len(f.bytes)
	}
	d.down, d.left = false, 0
	return api.OK
}
