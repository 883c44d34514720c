package elab

import (
	"slices"
	"strings"

	"kiln/api"
	"kiln/names"
)

func cloneNodes(l []api.Node) []api.Node { return names.CloneAll(l, cloneNode) }

func cloneNode(n api.Node) api.Node {
	n.Text, n.Path, n.Kids = strings.Clone(n.Text), cloneTexts(n.Path), slices.Clone(n.Kids)
	return n
}

func cloneNote(n api.Note) api.Note {
	n.Name, n.Labels, n.At = strings.Clone(n.Name), cloneTexts(n.Labels), names.CloneAccess(n.At)
	return n
}

func cloneTexts(l []string) []string { return names.CloneAll(l, strings.Clone) }

// cloneEnv is the same environment in new memory, as far as it can be told.
func cloneEnv(v api.Env) api.Env { return names.Told(names.Of(v))[0] }
