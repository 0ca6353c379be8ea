package upper

// What an action makes of the timer.
const (
	goesOn = iota // as it was, whether it runs or not
	starts
	stops
)

// timer is ARTIM. It runs as long as ticks are left.
type timer struct {
	artim int // ticks that it begins with
	left  int
}

func (t *timer) turn(how int) {
	switch how {
	case starts:
		t.left = t.artim
	case stops:
		t.left = 0
	}
}

func (t *timer) runs() bool { return t.left > 0 }

// tick tells whether the timer has expired just now.
func (t *timer) tick() bool {
	if !t.runs() {
		return false
	}
	t.left--
	return !t.runs()
}
