package lock

// state is where a thread stands on its way into the lock and out of it.
type state int

// The states, in the order of the chapter's numbers.
const (
	idle state = iota
	readerWaiting
	readerEntering
	readerChecking
	readerBackingOff
	reading
	readerLeaving
	writerWaiting
	writerChecking
	writing
	writerLeaving
)

// stepIn is what a thread in a state does in a step; it answers the thread's next state.
func (l *Lock) stepIn(s state) func(t int) state {
	switch s {
	case readerWaiting:
		return l.awaitWriter
	case readerEntering:
		return l.raiseFlag
	case readerChecking:
		return l.checkWriter
	case readerBackingOff:
		return l.backOff
	case readerLeaving:
		return l.endReading
	case writerWaiting:
		return l.claimWriter
	case writerChecking:
		return l.checkFlag
	case writerLeaving:
		return l.endWriting
	}
	return l.stay
}

// stay is the step of a thread that has what it wants, or wants nothing.
func (l *Lock) stay(t int) state {
	return l.states[t]
}

func (l *Lock) awaitWriter(int) state {
	if l.writer != nobody {
		return readerWaiting
	}
	return readerEntering
}

func (l *Lock) raiseFlag(t int) state {
	l.flags[t] = 1
	return readerChecking
}

// checkWriter looks a second time, behind the thread's own flag: a writer that came between may have passed that flag before it was raised.
func (l *Lock) checkWriter(int) state {
	if l.writer != nobody {
		return readerBackingOff
	}
	return reading
}

func (l *Lock) backOff(t int) state {
	l.flags[t] = 0
	return readerWaiting
}

func (l *Lock) endReading(t int) state {
	l.flags[t] = 0
	return idle
}

func (l *Lock) claimWriter(t int) state {
	if l.writer != nobody {
		return writerWaiting
	}
	l.writer = t + 1
	l.checked = 0
	return writerChecking
}

func (l *Lock) checkFlag(int) state {
	if l.flags[l.checked] != 0 {
		return writerChecking
	}
	l.checked++
	if l.checked < l.threads {
		return writerChecking
	}
	return writing
}

func (l *Lock) endWriting(int) state {
	l.writer = nobody
	return idle
}
