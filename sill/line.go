package sill

// moment is a time, or none yet.
type moment struct {
	time int64
	is   bool
}

// raise makes m the later one of itself and time.
func (m *moment) raise(time int64) {
	if !m.is || time > m.time {
		*m = moment{time: time, is: true}
	}
}

// moveLine has to be called behind all that may raise the least reach (P7).
func (f *Flow) moveLine() {
	least := f.leastLatest()
	if !least.is {
		return
	}
	f.line.raise(least.time - f.config.Late)
	f.endRuns()
}

// leastLatest need not ask which sources are open and not broken: all others
// have no latest moment.
func (f *Flow) leastLatest() moment {
	least := moment{}
	for k := range f.sources {
		latest := f.sources[k].latest
		if latest.is && (!least.is || latest.time < least.time) {
			least = latest
		}
	}
	return least
}
