package disk

import (
	"maps"
	"slices"

	"covenant/api"
)

// Steps tells how many steps there were.
func (d *Disk) Steps() int {
	if d == nil {
		return 0
	}
	return d.steps
}

// Down says whether the disk is down.
func (d *Disk) Down() bool {
	return d != nil && d.down
}

// Plan says which faults come, in place of those that were planned.
func (d *Disk) Plan(l []api.DiskFault) api.Errno {
	if d == nil {
		return api.ErrDown
	}
	if len(l) > api.MaxFaults || !rise(l, d.steps) || slices.ContainsFunc(l, impossible) {
		return api.ErrPlan
	}
	d.plan = slices.Clone(l)
	return api.OK
}

// rise says whether the Steps of faults rise from the one behind the last step on.
func rise(l []api.DiskFault, last int) bool {
	for _, fault := range l {
		if fault.Step <= last {
			return false
		}
		last = fault.Step
	}
	return true
}

func impossible(fault api.DiskFault) bool {
	switch fault.Kind {
	case api.FaultFail, api.FaultDown:
		return fault.N != 0
	case api.FaultShort:
		return fault.N < 0
	}
	return true
}

// step counts a call that was not refused. If a fault is planned for it, its error is answered, and how many bytes an Append lays all the same.
func (d *Disk) step() (int, api.Errno) {
	d.steps++
	if len(d.plan) == 0 || d.plan[0].Step != d.steps {
		return 0, api.OK
	}
	fault := d.plan[0]
	d.plan = d.plan[1:]
	if fault.Kind == api.FaultDown {
		d.down = true
		return 0, api.ErrDown
	}
	return fault.N, api.ErrFault
}

// Crash stops the disk, and starts it again with what outlived that.
func (d *Disk) Crash(c api.Crash) {
	if d == nil {
		return
	}
	d.settle(within(c.Names, len(d.open)))
	d.names = maps.Clone(d.lasting)
	for i, name := range rising(d.names) {
		f := d.names[name]
		f.cut(f.synced + within(outliving(c.Bytes, i), len(f.text)-f.synced))
		f.synced = len(f.text)
	}
	d.plan, d.down = nil, false
}

// outliving is how many bytes of the i-th file a crash keeps, behind those that are synced.
func outliving(bytes []int, i int) int {
	if len(bytes) == 0 {
		return 0
	}
	return bytes[i%len(bytes)]
}
