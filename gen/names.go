package gen

import "midden/api"

// names has a number for each local in scope. A name that it has not is a global's.
type names map[string]int

// inside does something while some more names are in scope, which hide others of the same name.
func (n names) inside(list []string, number func(i int) int, do func()) {
	type hidden struct {
		number int
		there  bool
	}
	was := make([]hidden, len(list))
	for i, name := range list {
		was[i].number, was[i].there = n[name]
	}
	for i, name := range list {
		n[name] = number(i)
	}
	do()
	for i, name := range list {
		if was[i].there {
			n[name] = was[i].number
		} else {
			delete(n, name)
		}
	}
}

func namesOf(l []api.Bind) []string {
	var all []string
	for _, b := range l {
		all = append(all, b.Name)
	}
	return all
}

// boundBy tells the names that an alternative binds in its body.
func boundBy(a api.Alt) []string {
	switch a.Kind {
	case api.ACon:
		return a.Vars
	case api.AAll:
		return []string{a.Name}
	}
	return nil
}
