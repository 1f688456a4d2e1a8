// Package ident is layer 1: stamps, the moments at which replicas do something, in one order for all.
package ident

import (
	"cmp"
	"iter"
	"slices"
	"strconv"
	"strings"

	"topiary/api"
	"topiary/whole"
)

const (
	rootText  = "root"
	trashText = "trash"
)

// Right tells whether s is a right stamp.
func Right(s api.Stamp) bool {
	return s.Count >= 1 && s.Count <= api.MaxCount && isReplica(s.Replica)
}

// Node tells whether s is a node's name: a right stamp, the root or the trash.
func Node(s api.Stamp) bool {
	return isRoot(s) || isTrash(s) || Right(s)
}

// Compare tells the order of any two stamps: -1, if a is ahead; 1, if b is; 0, if they are the same.
func Compare(a, b api.Stamp) int {
	// Compared, not subtracted: a difference may wrap round.
	if c := cmp.Compare(a.Count, b.Count); c != 0 {
		return c
	}
	return cmp.Compare(a.Replica, b.Replica)
}

// Less tells whether a is ahead of b.
func Less(a, b api.Stamp) bool {
	return Compare(a, b) < 0
}

// Next tells the stamp of what a replica does that has seen counts up to seen.
func Next(seen, replica int) (api.Stamp, api.Errno) {
	if !isSeen(seen) || !isReplica(replica) {
		return api.Stamp{}, api.ErrRange
	}
	if seen == api.MaxCount {
		return api.Stamp{}, api.ErrFull
	}
	return api.Stamp{Count: seen + 1, Replica: replica}, api.OK
}

// Seen tells what a replica has seen behind s.
func Seen(seen int, s api.Stamp) (int, api.Errno) {
	if !isSeen(seen) {
		return 0, api.ErrRange
	}
	if !Right(s) {
		return 0, api.ErrForm
	}
	return max(seen, s.Count), api.OK
}

// Text tells a node's name as a text.
func Text(s api.Stamp) (string, api.Errno) {
	switch {
	case isRoot(s):
		return rootText, api.OK
	case isTrash(s):
		return trashText, api.OK
	case Right(s):
		return strconv.Itoa(s.Count) + "." + strconv.Itoa(s.Replica), api.OK
	}
	return "", api.ErrForm
}

// Parse tells the node's name of which s is the text.
func Parse(s string) (api.Stamp, api.Errno) {
	switch s {
	case rootText:
		return api.Stamp{}, api.OK
	case trashText:
		return api.Stamp{Replica: 1}, api.OK
	}
	return parseRight(s)
}

// Sort tells the stamps of l, each once, in their order.
func Sort(l []api.Stamp) []api.Stamp {
	var out []api.Stamp
	for s := range Rising(l) {
		out = append(out, s)
	}
	return out
}

// Rising goes over the stamps of l, each once, in their order.
func Rising(l []api.Stamp) iter.Seq[api.Stamp] {
	// Ordered now, not when it is ranged over: l may be another by then.
	own := ordered(l, Compare)
	return func(yield func(api.Stamp) bool) {
		for _, s := range own {
			if !yield(s) {
				return
			}
		}
	}
}

func ordered(l []api.Stamp, order func(a, b api.Stamp) int) []api.Stamp {
	own := slices.Clone(l)
	slices.SortFunc(own, order)
	return slices.CompactFunc(own, func(a, b api.Stamp) bool { return order(a, b) == 0 })
}

func parseRight(s string) (api.Stamp, api.Errno) {
	count, replica, found := strings.Cut(s, ".")
	if !found {
		return api.Stamp{}, api.ErrForm
	}
	c, ok := whole.Read(count)
	if !ok {
		return api.Stamp{}, api.ErrForm
	}
	r, ok := whole.Read(replica)
	if !ok {
		return api.Stamp{}, api.ErrForm
	}
	out := api.Stamp{Count: c, Replica: r}
	if !Right(out) {
		return api.Stamp{}, api.ErrForm
	}
	return out, api.OK
}

func isRoot(s api.Stamp) bool { return s.Count == 0 && s.Replica == 0 }

func isTrash(s api.Stamp) bool { return s.Count == 0 && s.Replica == 1 }

func isReplica(r int) bool { return r >= 0 && r < api.MaxReplicas }

func isSeen(seen int) bool { return seen >= 0 && seen <= api.MaxCount }
