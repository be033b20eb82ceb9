package service

import "wallgauge/api"

// mostOf is how much pressure, and how much gas, a trap has at most.
const mostOf = 3

// Where the pig of a trap is.
const (
	nowhere = iota
	inTrap
	inLine
)

// CheckTrap returns the error of a trap.
func CheckTrap(t Trap) api.Errno {
	if !isWithin(t.Pressure, 0, mostOf) || !isWithin(t.Gas, 0, mostOf) || !isWithin(t.Pig, nowhere, inLine) {
		return api.ErrArg
	}
	return api.OK
}

// isWithin tells whether x is from least to most.
func isWithin(x, least, most int) bool { return least <= x && x <= most }

// Safe reports whether a trap is safe.
func Safe(t Trap) bool {
	return CheckTrap(t) == api.OK && (!t.Door || t.Vent && !t.Main && !t.Kicker && !t.Purge && t.Pressure == 0 && t.Gas == 0)
}

// Step returns a trap behind a command.
func Step(t Trap, command int) (Trap, api.Errno) {
	switch {
	case CheckTrap(t) != api.OK, !isWithin(command, OpenMain, Tick):
		return Trap{}, api.ErrArg
	case !Safe(t), !allows(t, command):
		return Trap{}, api.ErrState
	}
	return behind(t, command), api.OK
}

// allows tells whether a command is allowed for a safe trap.
func allows(t Trap, command int) bool {
	switch command {
	case OpenMain:
		return !t.Main && !t.Door && !t.Purge
	case ShutMain:
		return t.Main
	case OpenKicker:
		return !t.Kicker && !t.Door && !t.Purge
	case ShutKicker:
		return t.Kicker
	case OpenVent:
		return !t.Vent
	case ShutVent:
		return t.Vent && !t.Door
	case OpenPurge:
		return !t.Purge && !t.Door && !t.Main && !t.Kicker
	case ShutPurge:
		return t.Purge
	case OpenDoor:
		return !t.Door && Safe(behind(t, OpenDoor))
	case ShutDoor:
		return t.Door
	case Load:
		return t.Door && t.Pig == nowhere
	case Unload:
		return t.Door && t.Pig == inTrap
	}
	return true
}

// behind returns a trap behind a command, allowed or not.
func behind(t Trap, command int) Trap {
	switch command {
	case OpenMain, ShutMain:
		t.Main = command == OpenMain
	case OpenKicker, ShutKicker:
		t.Kicker = command == OpenKicker
	case OpenVent, ShutVent:
		t.Vent = command == OpenVent
	case OpenPurge, ShutPurge:
		t.Purge = command == OpenPurge
	case OpenDoor, ShutDoor:
		t.Door = command == OpenDoor
	case Load:
		t.Pig = inTrap
	case Unload:
		t.Pig = nowhere
	case Tick:
		return ticked(t)
	}
	return t
}

// ticked returns a trap a while later.
func ticked(t Trap) Trap {
	switch {
	case t.Main, t.Kicker:
		t.Pressure, t.Gas = min(t.Pressure+1, mostOf), mostOf
		t.Pig = moved(t)
	case t.Vent:
		t.Pressure = max(t.Pressure-1, 0)
		if t.Purge {
			t.Gas = max(t.Gas-1, 0)
		}
	case t.Purge:
		t.Pressure = min(t.Pressure+1, mostOf)
	}
	return t
}

// moved returns where the product, which flows through the kicker if that is open, takes the pig.
func moved(t Trap) int {
	flows := t.Main && t.Pressure == mostOf
	switch {
	case flows && t.Kicker && t.Pig == inTrap:
		return inLine
	case flows && !t.Kicker && t.Pig == inLine:
		return inTrap
	}
	return t.Pig
}

// Route returns commands that open the door.
func Route(t Trap) ([]int, api.Errno) {
	switch {
	case CheckTrap(t) != api.OK:
		return nil, api.ErrArg
	case !Safe(t):
		return nil, api.ErrState
	case t.Door:
		return nil, api.OK
	}
	var route []int
	add := func(needed bool, command int) {
		if needed {
			route = append(route, command)
			t = behind(t, command)
		}
	}
	add(t.Main, ShutMain)
	add(t.Kicker, ShutKicker)
	add(!t.Vent, OpenVent)
	add(!t.Purge && t.Gas > 0, OpenPurge)
	for t.Gas > 0 {
		add(true, Tick)
	}
	add(t.Purge, ShutPurge)
	for t.Pressure > 0 {
		add(true, Tick)
	}
	add(true, OpenDoor)
	return route, api.OK
}
