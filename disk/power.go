package disk

import "escrow/api"

// For what a disk is armed.
const (
	Any    = 0
	Writes = 1
	Syncs  = 2
)

// power: is it there, and which of the coming Writes and Syncs ends it, or is refused?
type power struct {
	off  bool
	open bool // off, and what becomes of the dirty sectors isn't said yet
	arm  int  // how many are left till the one that is refused; 0: not armed
	what int
	fall int // how many are left till the one at which the power goes; 0: it doesn't
}

// count: one more Write or Sync that nothing else refuses. ErrOff, ErrDisk.
func (p *power) count(what int) api.Errno {
	if p.fall > 0 {
		p.fall--
		if p.fall == 0 {
			p.off, p.open = true, true
			return api.ErrOff
		}
	}
	if p.arm > 0 && (p.what == Any || p.what == what) {
		p.arm--
		if p.arm == 0 {
			return api.ErrDisk
		}
	}
	return api.OK
}

// Arm: the n-th of what comes is refused.
func (d *Disk) Arm(n, what int) {
	if n < 1 || what < Any || what > Syncs {
		n, what = 0, Any
	}
	d.power.arm, d.power.what = n, what
}

// Fall: at the n-th Write or Sync that comes the power goes.
func (d *Disk) Fall(n int) {
	d.power.fall = max(n, 0)
}

// Crash: the power goes; what becomes of the dirty sectors.
func (d *Disk) Crash(fates []api.Fate) {
	if d.power.off && !d.power.open {
		return
	}
	d.power = power{off: true}
	for name, f := range d.files {
		f.crash(fatesOf(name, fates))
	}
}

// fatesOf: of the fates that name a file, the first of each sector.
func fatesOf(name string, fates []api.Fate) map[int]api.Fate {
	first := map[int]api.Fate{}
	for _, fate := range fates {
		if fate.File != name {
			continue
		}
		if _, told := first[fate.Sector]; !told {
			first[fate.Sector] = fate
		}
	}
	return first
}

// Off: is the power gone?
func (d *Disk) Off() bool {
	return d.power.off
}

// On: it is back.
func (d *Disk) On() {
	if d.power.open {
		d.Crash(nil)
	}
	d.power.off = false
}
