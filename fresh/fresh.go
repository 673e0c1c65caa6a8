// Package fresh makes copies that share no memory with what they are of, for layers that answer what they were handed.
package fresh

import (
	"strings"

	"skiff/api"
)

// Device is a copy of d.
func Device(d api.Device) api.Device {
	d.Ops = steps(d.Ops)
	return d
}

// Host is a copy of h.
func Host(h api.Host) api.Host {
	h.Image, h.Read = strings.Clone(h.Image), strings.Clone(h.Read)
	return h
}

// World is a copy of w.
func World(w api.World) api.World {
	w.Flash, w.Device, w.Host = strings.Clone(w.Flash), Device(w.Device), Host(w.Host)
	return w
}

// steps is a copy of a list; a step's text is bytes too, so that it is copied as well.
func steps(list []api.Op) []api.Op {
	var out []api.Op
	for _, step := range list {
		step.Text = strings.Clone(step.Text)
		out = append(out, step)
	}
	return out
}
