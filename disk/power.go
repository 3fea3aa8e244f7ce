package disk

// power is for how many more writes and flushes there is power, if that is limited; the zero one lasts.
type power struct {
	limited bool
	left    int
}

// gone tells whether there is no power any more.
func (p *power) gone() bool {
	return p.limited && p.left == 0
}

// spend takes the power of a write or a flush, and tells whether there was any.
func (p *power) spend() bool {
	if p.gone() {
		return false
	}
	if p.limited {
		p.left--
	}
	return true
}

// Stop lets the power go behind n more writes and flushes.
func (d *Disk) Stop(n int) {
	if d == nil {
		return
	}
	d.power = power{}
	if n >= 0 {
		d.power = power{limited: true, left: n}
	}
}

// Off tells whether the power is gone.
func (d *Disk) Off() bool {
	return d != nil && d.power.gone()
}
