package rack

import "kingpin/api"

func (l Line) valid() bool {
	return within(l.Start, 0, api.MaxRackBoard) && within(l.Drift, -api.MaxRackDrift, api.MaxRackDrift)
}

func (l Line) course() course {
	var c course
	for row := range c {
		c[row] = l.Start + row*l.Drift
	}
	return c
}

// converts tells whether all pins of the leave fall, if the links carry as told.
func converts(r Rack, leave set, l Line, carries func(Link) bool) bool {
	return struck{r, truth{l.course(), carries}, leave}.left() == 0
}

// firstLine returns the first straight ball that is as asked, by its Start, and then by its Drift.
func firstLine(is func(Line) bool) (first Line, found bool) {
search:
	for start := range api.MaxRackBoard + 1 {
		for drift := -api.MaxRackDrift; drift <= api.MaxRackDrift; drift++ {
			first = Line{start, drift}
			found = is(first)
			if found {
				break search
			}
		}
	}
	return first, found
}
