package flow

// value: a value's type, which behind a branch may be unknown: any one then.
type value struct {
	kind  int
	known bool
}

// group: values that one instruction gave and that are still there, by their types, and how many values stand below them. Only
// a group of one value is unknown.
type group struct {
	kinds []int
	known bool
	below int
}

// stack: all values, and the greatest number of them at one time. They stand in groups, so that what a call gives is laid down
// as the one list that it is: the module may name a type of any many results, and nothing is copied, nor written to.
type stack struct {
	groups []group
	most   int
}

// height: how many values there are.
func (s *stack) height() int {
	if len(s.groups) == 0 {
		return 0
	}
	top := s.groups[len(s.groups)-1]
	return top.below + len(top.kinds)
}

// push: lays down values of known types.
func (s *stack) push(kinds []int) {
	if len(kinds) > 0 {
		s.lay(group{kinds: kinds, known: true, below: s.height()})
	}
}

// pushOne: lays down a value, of a known or an unknown type.
func (s *stack) pushOne(v value) {
	s.lay(group{kinds: []int{v.kind}, known: v.known, below: s.height()})
}

// lay: lays down a group on top of all.
func (s *stack) lay(g group) {
	s.groups = append(s.groups, g)
	s.most = max(s.most, s.height())
}

// pop: takes the topmost value, which is there.
func (s *stack) pop() value {
	top := &s.groups[len(s.groups)-1]
	last := len(top.kinds) - 1
	v := value{top.kinds[last], top.known}
	top.kinds = top.kinds[:last]
	if last == 0 {
		s.cut(len(s.groups) - 1)
	}
	return v
}

// cut: leaves so many groups.
func (s *stack) cut(groups int) {
	s.groups = s.groups[:groups]
}
