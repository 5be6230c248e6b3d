// Package members tells who may be a member of what.
package members

import (
	"slices"

	"almonry/api"
)

// May says if m is members: users, and groups of some of them.
func May(m api.Members) bool {
	if m.Users < 1 || m.Users > api.MaxUsers || len(m.Groups) > api.MaxGroups {
		return false
	}
	for _, group := range m.Groups {
		if !groupMay(m.Users, group) {
			return false
		}
	}
	return true
}

// groupMay says if a group has users, rising, none twice.
func groupMay(users int, group []int) bool {
	if len(group) == 0 {
		return false
	}
	last := -1
	for _, user := range group {
		if user <= last || user >= users {
			return false
		}
		last = user
	}
	return true
}

// Principals tells how many there are: users, then groups.
func Principals(m api.Members) int {
	return m.Users + len(m.Groups)
}

// IsUser says if there is such a user.
func IsUser(m api.Members, user int) bool {
	return user >= 0 && user < m.Users
}

// In says if a user is a principal, or one of that group.
func In(m api.Members, user int, principal int) bool {
	if !May(m) || !IsUser(m, user) || principal < 0 || principal >= Principals(m) {
		return false
	}
	if IsUser(m, principal) {
		return user == principal
	}
	return slices.Contains(m.Groups[principal-m.Users], user)
}
