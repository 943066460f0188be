package apply

import (
	"slices"
	"strings"

	"orchestrator/api"
	"orchestrator/fields"
)

// OwnersOf returns the names of the managers that own the field at path, in order.
func OwnersOf(m []api.Manager, path string) []string {
	var names []string
	for _, one := range m {
		if slices.Contains(one.Fields, path) {
			names = append(names, one.Name)
		}
	}
	return names
}

func validManagers(m []api.Manager) bool {
	if len(m) > api.MaxLabels {
		return false
	}
	for i, one := range m {
		if !validName(one.Name) || len(one.Fields) == 0 || !ascending(one.Fields) {
			return false
		}
		if i > 0 && m[i-1].Name >= one.Name {
			return false
		}
	}
	return true
}

func validName(name string) bool {
	return name != "" && len(name) <= api.MaxName
}

// ascending reports whether each of the texts is greater than the one before it.
func ascending(texts []string) bool {
	for i := 1; i < len(texts); i++ {
		if texts[i-1] >= texts[i] {
			return false
		}
	}
	return true
}

// ownedBy returns the fields of the manager name, or none if it is not among the managers.
func ownedBy(m []api.Manager, name string) []string {
	for _, one := range m {
		if one.Name == name {
			return one.Fields
		}
	}
	return nil
}

// conflictsOver returns who else than name owns the contested leaves, sorted by path and then by manager.
func conflictsOver(contested []string, m []api.Manager, name string) []api.Conflict {
	var all []api.Conflict
	for _, one := range m {
		if one.Name == name {
			continue
		}
		for _, leaf := range fields.Intersect(contested, one.Fields) {
			all = append(all, api.Conflict{Path: leaf, Manager: one.Name})
		}
	}
	// The managers of one path stay in their order.
	slices.SortStableFunc(all, func(a, b api.Conflict) int { return strings.Compare(a.Path, b.Path) })
	return all
}

// givenUp returns the fields of the manager name, other than leaves, that no other manager owns.
func givenUp(m []api.Manager, name string, leaves []string) []string {
	alone := fields.Minus(ownedBy(m, name), leaves)
	for _, one := range m {
		if one.Name != name {
			alone = fields.Minus(alone, one.Fields)
		}
	}
	return alone
}

// othersOf returns the managers other than name with those of their fields that keep answers, without the managers that keep none.
func othersOf(m []api.Manager, name string, keep func(owned []string) []string) []api.Manager {
	var others []api.Manager
	for _, one := range m {
		if one.Name == name {
			continue
		}
		if kept := keep(one.Fields); len(kept) > 0 {
			others = append(others, api.Manager{Name: one.Name, Fields: kept})
		}
	}
	return others
}

// withManager puts the manager name with the fields owned in its place among others, unless it owns none.
func withManager(others []api.Manager, name string, owned []string) []api.Manager {
	if len(owned) == 0 {
		return others
	}
	at, _ := slices.BinarySearchFunc(others, name, func(one api.Manager, name string) int {
		return strings.Compare(one.Name, name)
	})
	return slices.Insert(others, at, api.Manager{Name: name, Fields: owned})
}

// copyOf returns managers, valid or not, as they are, in memory of their own.
func copyOf(m []api.Manager) []api.Manager {
	var all []api.Manager
	for _, one := range m {
		all = append(all, api.Manager{Name: one.Name, Fields: slices.Clone(one.Fields)})
	}
	return all
}
