package cas

// line of the texts that may go: a heap, in which that one is first which was put, or got, longest ago. Each knows its place, so that one that is pinned is taken out without a search.
type line []*kept

func (l line) Len() int { return len(l) }

func (l line) Less(i, j int) bool { return l[i].turn < l[j].turn }

func (l line) Swap(i, j int) {
	l[i], l[j] = l[j], l[i]
	l[i].place, l[j].place = i, j
}

func (l *line) Push(x any) {
	t := x.(*kept)
	t.place = len(*l)
	*l = append(*l, t)
}

func (l *line) Pop() any {
	last := len(*l) - 1
	t := (*l)[last]
	// Spare room would keep the text.
	(*l)[last] = nil
	*l = (*l)[:last]
	return t
}
