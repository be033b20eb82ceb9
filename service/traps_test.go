package service_test

import (
	"slices"
	"testing"

	"wallgauge/api"
	"wallgauge/service"
)

// The valves and the door of a trap, in the order of their commands.
const (
	mainValve = iota
	kicker
	vent
	purge
	door
)

// plan is a trap as the tests see it.
type plan struct {
	open               [5]bool
	pressure, gas, pig int
}

// trap returns the trap of a plan.
func (p plan) trap() service.Trap {
	return service.Trap{Main: p.open[mainValve], Kicker: p.open[kicker], Vent: p.open[vent], Purge: p.open[purge], Door: p.open[door], Pressure: p.pressure, Gas: p.gas, Pig: p.pig}
}

// valid tells whether a plan has no error.
func (p plan) valid() bool {
	in := func(x, most int) bool { return x >= 0 && x <= most }
	return in(p.pressure, 3) && in(p.gas, 3) && in(p.pig, 2)
}

// safe tells whether a plan is one of a safe trap.
func (p plan) safe() bool {
	return p.valid() && (!p.open[door] || p.open == [5]bool{vent: true, door: true} && p.pressure == 0 && p.gas == 0)
}

// forbids tells whether a command is not allowed for a safe trap.
func (p plan) forbids(command int) bool {
	in := func(commands ...int) bool { return slices.Contains(commands, command) }
	opened := p
	opened.open[door] = true
	switch {
	case command <= service.ShutDoor && p.open[command/2] == (command%2 == 0):
		return true
	case p.open[door] && in(service.OpenMain, service.OpenKicker, service.OpenPurge, service.ShutVent):
		return true
	case (p.open[mainValve] || p.open[kicker]) && in(service.OpenPurge):
		return true
	case p.open[purge] && in(service.OpenMain, service.OpenKicker):
		return true
	case in(service.OpenDoor):
		return !opened.safe()
	case in(service.Load):
		return !p.open[door] || p.pig != 0
	case in(service.Unload):
		return !p.open[door] || p.pig != 1
	}
	return false
}

// after returns the plan behind a command that is allowed.
func (p plan) after(command int) plan {
	switch {
	case command <= service.ShutDoor:
		p.open[command/2] = command%2 == 0
	case command == service.Load:
		p.pig = 1
	case command == service.Unload:
		p.pig = 0
	default:
		return p.later()
	}
	return p
}

// later returns the plan behind a tick.
func (p plan) later() plan {
	more, less := []int{1, 2, 3, 3}, []int{0, 0, 1, 2}
	if p.open[mainValve] || p.open[kicker] {
		p.pressure, p.gas = more[p.pressure], 3
		if p.pressure == 3 && p.open[mainValve] {
			p.pig = map[bool][]int{true: {0, 2, 2}, false: {0, 1, 1}}[p.open[kicker]][p.pig]
		}
		return p
	}
	switch [2]bool{p.open[vent], p.open[purge]} {
	case [2]bool{true, true}:
		p.pressure, p.gas = less[p.pressure], less[p.gas]
	case [2]bool{true, false}:
		p.pressure = less[p.pressure]
	case [2]bool{false, true}:
		p.pressure = more[p.pressure]
	}
	return p
}

// plans are all plans, and those whose numbers are one too small or too great.
func plans() []plan {
	var out []plan
	for bits := range 32 {
		var p plan
		for i := range p.open {
			p.open[i] = bits>>i&1 == 1
		}
		for pressure := -1; pressure <= 4; pressure++ {
			for gas := -1; gas <= 4; gas++ {
				for pig := -1; pig <= 3; pig++ {
					p.pressure, p.gas, p.pig = pressure, gas, pig
					out = append(out, p)
				}
			}
		}
	}
	return out
}

// safePlans are the plans of safe traps.
func safePlans() []plan {
	return slices.DeleteFunc(plans(), func(p plan) bool { return !p.safe() })
}

// The constants are the numbers of the chapter.
func TestP10_1TrapCommands(t *testing.T) {
	got := []int{service.OpenMain, service.ShutMain, service.OpenKicker, service.ShutKicker, service.OpenVent, service.ShutVent, service.OpenPurge, service.ShutPurge, service.OpenDoor, service.ShutDoor, service.Load, service.Unload, service.Tick}
	for want, command := range got {
		if command != want {
			t.Errorf("command %d is %d", want, command)
		}
	}
}

func TestP10_1CheckTrap(t *testing.T) {
	for _, p := range plans() {
		want := api.ErrArg
		if p.valid() {
			want = api.OK
		}
		if e := service.CheckTrap(p.trap()); e != want {
			t.Errorf("%+v: error %v, not %v", p, e, want)
		}
	}
	for _, x := range extremes() {
		for _, trap := range []service.Trap{{Pressure: x}, {Gas: x}, {Pig: x}} {
			if e := service.CheckTrap(trap); e != api.ErrArg {
				t.Errorf("%+v: error %v", trap, e)
			}
		}
	}
}

func TestP10_1Safe(t *testing.T) {
	count := 0
	for _, p := range plans() {
		if got := service.Safe(p.trap()); got != p.safe() {
			t.Errorf("%+v: %v", p, got)
		} else if got {
			count++
		}
	}
	if count != 16*4*4*3+3 {
		t.Errorf("%d traps are safe", count)
	}
}

func TestP10_1Step(t *testing.T) {
	for _, p := range plans() {
		for command := -2; command <= 14; command++ {
			want, wantError := service.Trap{}, api.ErrState
			switch {
			case !p.valid(), command < 0, command > 12:
				wantError = api.ErrArg
			case p.safe() && !p.forbids(command):
				want, wantError = p.after(command).trap(), api.OK
			}
			if got, e := service.Step(p.trap(), command); got != want || e != wantError {
				t.Errorf("%+v, command %d: %+v and error %v, not %+v and %v", p, command, got, e, want, wantError)
			}
		}
		for _, command := range extremes() {
			if got, e := service.Step(p.trap(), command); got != (service.Trap{}) || e != api.ErrArg {
				t.Errorf("%+v, command %d: %+v and error %v", p, command, got, e)
			}
		}
	}
}

// tickCase is a trap with the one behind a tick.
type tickCase struct{ before, after service.Trap }

func TestP10_1Tick(t *testing.T) {
	for _, c := range []tickCase{
		{service.Trap{Main: true, Kicker: true, Pressure: 2, Pig: 1}, service.Trap{Main: true, Kicker: true, Pressure: 3, Gas: 3, Pig: 2}},
		{service.Trap{Main: true, Kicker: true, Pressure: 1, Pig: 1}, service.Trap{Main: true, Kicker: true, Pressure: 2, Gas: 3, Pig: 1}},
		{service.Trap{Main: true, Pressure: 3, Pig: 2}, service.Trap{Main: true, Pressure: 3, Gas: 3, Pig: 1}},
		{service.Trap{Main: true, Pressure: 3, Pig: 1}, service.Trap{Main: true, Pressure: 3, Gas: 3, Pig: 1}},
		{service.Trap{Kicker: true, Pressure: 3, Pig: 2}, service.Trap{Kicker: true, Pressure: 3, Gas: 3, Pig: 2}},
		{service.Trap{Vent: true, Pressure: 2, Gas: 2}, service.Trap{Vent: true, Pressure: 1, Gas: 2}},
		{service.Trap{Vent: true, Purge: true, Gas: 2}, service.Trap{Vent: true, Purge: true, Gas: 1}},
		{service.Trap{Purge: true, Pressure: 3, Gas: 2}, service.Trap{Purge: true, Pressure: 3, Gas: 2}},
		{service.Trap{Pressure: 2, Gas: 1, Pig: 2}, service.Trap{Pressure: 2, Gas: 1, Pig: 2}},
		{service.Trap{Vent: true, Door: true, Pig: 1}, service.Trap{Vent: true, Door: true, Pig: 1}},
	} {
		if got, e := service.Step(c.before, service.Tick); got != c.after || e != api.OK {
			t.Errorf("%+v: %+v %v", c.before, got, e)
		}
	}
}

// wantRoute returns the route of a safe trap.
func (p plan) wantRoute() []int {
	var out []int
	add := func(command, count int, when bool) {
		if when {
			out = append(out, slices.Repeat([]int{command}, count)...)
		}
	}
	if p.open[door] {
		return nil
	}
	add(service.ShutMain, 1, p.open[mainValve])
	add(service.ShutKicker, 1, p.open[kicker])
	add(service.OpenVent, 1, !p.open[vent])
	add(service.OpenPurge, 1, !p.open[purge] && p.gas > 0)
	add(service.Tick, p.gas, true)
	add(service.ShutPurge, 1, p.open[purge] || p.gas > 0)
	add(service.Tick, p.pressure-p.gas, p.pressure > p.gas)
	add(service.OpenDoor, 1, true)
	return out
}

func TestP10_1Route(t *testing.T) {
	for _, p := range plans() {
		var want []int
		wantError := api.ErrState
		switch {
		case !p.valid():
			wantError = api.ErrArg
		case p.safe():
			want, wantError = p.wantRoute(), api.OK
		}
		if got, e := service.Route(p.trap()); !slices.Equal(got, want) || e != wantError {
			t.Errorf("%+v: %v and error %v, not %v and %v", p, got, e, want, wantError)
		}
	}
}

func TestP10_1RouteExamples(t *testing.T) {
	if got, e := service.Route(service.Trap{}); !slices.Equal(got, []int{4, 8}) || e != api.OK {
		t.Errorf("shut: %v %v", got, e)
	}
	if got, e := service.Route(service.Trap{Main: true, Pressure: 3, Gas: 3}); !slices.Equal(got, []int{1, 4, 6, 12, 12, 12, 7, 8}) || e != api.OK {
		t.Errorf("full: %v %v", got, e)
	}
}

func TestP10_2StepsAreSafe(t *testing.T) {
	for _, p := range safePlans() {
		for command := range 13 {
			if got, e := service.Step(p.trap(), command); e == api.OK && !service.Safe(got) {
				t.Errorf("%+v, command %d: %+v", p, command, got)
			}
		}
	}
}

// No order of commands leads to an open door with anything that forbids it.
func TestP10_2WhateverCommands(t *testing.T) {
	seen := map[service.Trap]bool{{}: true}
	work := []service.Trap{{}}
	for len(work) > 0 {
		trap := work[0]
		work = work[1:]
		if trap.Door && (trap.Pressure > 0 || trap.Gas > 0 || trap.Main || trap.Kicker || trap.Purge || !trap.Vent) {
			t.Errorf("the door of %+v is open", trap)
		}
		for command := range 13 {
			if next, e := service.Step(trap, command); e == api.OK && !seen[next] {
				seen[next] = true
				work = append(work, next)
			}
		}
	}
	if len(seen) < 200 {
		t.Errorf("only %d traps are reached", len(seen))
	}
}

func TestP10_2RouteOpens(t *testing.T) {
	for _, p := range safePlans() {
		trap := p.trap()
		for _, command := range must[[]int](t)(service.Route(trap)) {
			trap = must[service.Trap](t)(service.Step(trap, command))
		}
		if !trap.Door || trap.Pig != p.pig {
			t.Errorf("%+v becomes %+v", p, trap)
		}
	}
}

func TestP10_2PigsMoveBehindShutDoors(t *testing.T) {
	launched, received := 0, 0
	for _, p := range safePlans() {
		for command := range 13 {
			got, e := service.Step(p.trap(), command)
			if e != api.OK || (got.Pig == 2) == (p.pig == 2) {
				continue
			}
			if p.open[door] || got.Door || command != service.Tick {
				t.Errorf("%+v, command %d: %+v", p, command, got)
			}
			if got.Pig == 2 {
				launched++
			} else {
				received++
			}
		}
	}
	if launched == 0 || received == 0 {
		t.Errorf("%d pigs are launched, %d received", launched, received)
	}
}
