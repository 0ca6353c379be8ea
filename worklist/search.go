package worklist

import (
	"slices"
	"sync"

	"modality/api"
)

// partCount is into how many parts a list of steps is cut at most.
const partCount = 8

// finding is an answer, and the part of the list in which its step stands.
type finding struct {
	part  int
	nodes []api.Node
}

// search answers a query that may be asked: the parts of the list are matched side by side.
func search(steps []api.Step, q query) [][]api.Node {
	var (
		workers sync.WaitGroup
		lock    sync.Mutex
		found   []finding
	)
	matches := q.matcher()
	for part, list := range cut(steps) {
		workers.Add(1)
		go func() {
			defer workers.Done()
			some := q.findings(part, filter(list, matches))
			lock.Lock()
			defer lock.Unlock()
			found = append(found, some...)
		}()
	}
	workers.Wait()
	return inOrder(found)
}

// cut gives the parts of a list.
func cut(steps []api.Step) [][]api.Step {
	size := len(steps)/partCount + 1
	return slices.Collect(slices.Chunk(steps, size))
}

func (q query) findings(part int, steps []api.Step) []finding {
	var list []finding
	for _, s := range steps {
		list = append(list, finding{part, q.answer(s)})
	}
	return list
}

// inOrder tells the answers part by part: they were found in whatever order the parts were done, but those of one part stand in the list's.
func inOrder(found []finding) [][]api.Node {
	var answers [][]api.Node
	for part := range partCount {
		for _, f := range filter(found, func(f finding) bool { return f.part == part }) {
			answers = append(answers, f.nodes)
		}
	}
	return answers
}
