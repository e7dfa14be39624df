package files

import "isthmus/api"

// Arm allows n more steps: the step behind them crashes the file system.
func (f *FS) Arm(n int) error {
	if n < 0 {
		return api.ErrArg
	}
	if err := f.check(); err != nil {
		return err
	}
	f.armed, f.left = true, n
	return nil
}

// Down reports whether the file system has crashed.
func (f *FS) Down() bool {
	return f != nil && f.down
}

// Start restarts the file system, crashed or not. Of each file with bytes that are not safe, in the order of names, keep
// tells how many of them are preserved.
func (f *FS) Start(keep []int) {
	if f == nil {
		return
	}
	for _, name := range f.List() {
		x := f.files[name]
		if len(x.bytes) == x.safe {
			continue
		}
		n := x.safe
		if len(keep) > 0 {
			n += min(max(keep[0], 0), len(x.bytes)-x.safe)
			keep = keep[1:]
		}
		f.files[name] = file{x.first(n), n}
	}
	f.armed, f.left, f.down = false, 0, false
}

// Steps returns how many steps have been counted.
func (f *FS) Steps() int {
	if f == nil {
		return 0
	}
	return f.steps
}

// step counts a step and does what it does. If no step is allowed any more, the file system crashes instead.
func (f *FS) step(effect func()) error {
	if f.armed && f.left == 0 {
		f.down = true
		return api.ErrDown
	}
	if f.armed {
		f.left--
	}
	f.steps++
	effect()
	return nil
}
