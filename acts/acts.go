// Package acts tells which acts may be, for layers that do them.
package acts

import (
	"skiff/api"
)

// May: is it one of the Acts, and is the loss or the cut that it needs one of its own? What another act needs is nothing to it.
func May(a api.Act) bool {
	switch a.Kind {
	case api.ActStep:
		return within(a.Loss, api.LossNone, api.LossBack)
	case api.ActCut:
		return within(a.Cut, 0, api.MaxCut)
	}
	return within(a.Kind, api.ActStart, api.ActDrop)
}

// within: is n from least to most?
func within(n, least, most int) bool {
	return n >= least && n <= most
}
