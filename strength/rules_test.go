package strength_test

import (
	"math"
	"reflect"
	"slices"
	"testing"

	"wallgauge/api"
	"wallgauge/dyad"
	"wallgauge/strength"
)

// spoil changes a list, and what is behind its end.
func spoil[T any](l []T) {
	clear(l[:cap(l)])
}

// used are arguments, of which the lists have something behind their ends.
type used struct {
	findings  []api.Finding
	steps     []strength.Step
	pressures []dyad.Span
	sizes     []int
	rows      [][]int
	jobs      []strength.Job
	plan      []strength.Slot
}

func newUsed() *used {
	return &used{
		findings:  []api.Finding{at(14, 20, 719, 500), at(0, 10, 2, 300), at(100, 120, 360, 7), at(7, 77, 7, 7)},
		steps:     append(steps([2]int{10, 900}, [2]int{10, 0}, [2]int{10, 800}), strength.Step{From: 7, To: 77, Depth: 7}),
		pressures: []dyad.Span{span("5", "9"), span("3", "4"), span("7", "7")},
		sizes:     []int{100, 200, 77, 10, 20, 77},
		rows:      [][]int{{90, 80, 77}, {70, 50, 77}, {77, 77, 77}},
		jobs:      append([]strength.Job{{1, 1, 0, 3}}, append(three(), anyDay(77, 7))...),
		plan:      []strength.Slot{{1, 0, 0}, {3, 0, 2}, {7, 7, 7}},
	}
}

// same tells whether both are the same. Numbers are compared by their texts.
func (u *used) same(v *used) bool {
	return slices.Equal(u.findings, v.findings) && slices.Equal(u.steps, v.steps) && slices.Equal(texts(u.pressures), texts(v.pressures)) &&
		slices.Equal(u.sizes, v.sizes) && reflect.DeepEqual(u.rows, v.rows) && slices.Equal(u.jobs, v.jobs) && slices.Equal(u.plan, v.plan)
}

func TestR4Memory(t *testing.T) {
	u := newUsed()
	findings, profile, jobs, plan := u.findings[:3], u.steps[:3], u.jobs[:4], u.plan[:2]
	strength.CheckFindings(findings)
	sets, _ := strength.Clusters(findings, strength.Rule{Along: 4, Around: 3})
	count := len(sets)
	for _, set := range sets {
		count += len(set)
		spoil(set)
	}
	made, _ := strength.Profile(findings)
	count += len(made)
	spoil(made)
	strength.Failure(usual, profile, 0, 1, 20)
	strength.Least(usual, profile, 20)
	order, _ := strength.Rank(u.pressures[:2])
	count += len(order)
	spoil(order)
	table := strength.Table{Depths: u.sizes[:2], Lengths: u.sizes[3:5], Pressures: [][]int{u.rows[0][:2], u.rows[1][:2]}}
	strength.CheckTable(table)
	strength.Crack(table, ranged(100, 150), ranged(10, 10))
	strength.Left(jobs, 1, 3, plan)
	slots, _ := strength.Greedy(jobs, 1, 3)
	count += len(slots)
	spoil(slots)
	strength.Bound(jobs, 1, 3, num("2"))
	strength.Price(jobs, 1, 3, 20)
	if count != 2+3+5+2+2 {
		t.Errorf("there are %d elements of results", count)
	}
	if !u.same(newUsed()) {
		t.Errorf("the arguments became %+v", u)
	}
}

func TestR4ClustersOfTheirOwn(t *testing.T) {
	l := []api.Finding{at(0, 10, 0, 0), at(100, 110, 0, 0), at(0, 10, 0, 0), at(200, 210, 0, 0), at(100, 110, 0, 0)}
	sets := clusters(t, l, strength.Rule{Along: 9, Around: 9})
	spoil(sets[0])
	if !slices.Equal(sets[1], []int{1, 4}) || !slices.Equal(sets[2], []int{3}) {
		t.Errorf("with another first cluster there are %v", sets)
	}
}

// arbitrary are ints with all limits of this layer among them.
func arbitrary() []int {
	return []int{math.MinInt, -1 << 40, -1, 0, 1, 2, 4, 5, 16, 48, 50, 64, 365, 366, 719, 720, 721, 1000, 1000000, 1000001, 1 << 20, 1<<20 + 1, 1 << 30, 1 << 31, 1 << 40, math.MaxInt}
}

// All functions end without a panic, whatever the arguments are, and have zero values with an error.
func TestP1AnyFindings(t *testing.T) {
	for _, x := range arbitrary() {
		for _, y := range arbitrary() {
			r := strength.Rule{Along: x, Around: y}
			f := []api.Finding{{At: x, Long: y}, {At: y, Long: 1, Clock: x, Wide: y}, deep(x, y), deep(0, 1), {At: 5, Long: x, Clock: 5}}
			for n := range f {
				l := f[n:]
				if got, e := strength.Interact(l[0], f[0], r); e != api.OK && got {
					t.Errorf("Interact: %v %v", got, e)
				}
				if got, e := strength.Clusters(l, r); e != api.OK && len(got) > 0 {
					t.Errorf("Clusters: %v %v", got, e)
				}
				if got, e := strength.Profile(l); e != api.OK && len(got) > 0 {
					t.Errorf("Profile: %v %v", got, e)
				}
			}
		}
	}
}

func TestP1AnyPressures(t *testing.T) {
	spans := []dyad.Span{{}, span("-1", "1"), span("3/8", "3/8"), between(great().Neg(), great()), between(unit(256), great()), span("-9", "-3")}
	pit := strength.Step{From: 0, To: 10, Depth: 500}
	for _, x := range arbitrary() {
		for _, y := range arbitrary() {
			for _, p := range []strength.Pipe{usual, {x, y, x}, {x, 1000, y}, {50, x, y}} {
				if got, e := strength.Bulge(p, x, y); e != api.OK && got.Text() != "[0,0]" {
					t.Errorf("Bulge: %s %v", got.Text(), e)
				}
				for _, l := range [][]strength.Step{{pit}, {{0, x, y}}, {{x, y, 5}}, {pit, {10, x, y}}, {{x, 10, y}, {10, y, x}}} {
					ofProfile(t, p, l, x, y)
				}
			}
			for n := range spans {
				if got, e := strength.Safe(spans[n], x, y); e != api.OK && got.Text() != "[0,0]" {
					t.Errorf("Safe: %s %v", got.Text(), e)
				}
				if got, e := strength.Judge(spans[n], x, y); e != api.OK && got != (strength.Verdict{}) {
					t.Errorf("Judge: %v %v", got, e)
				}
				if got, e := strength.Rank(spans[n:]); e != api.OK || len(got) != len(spans)-n {
					t.Errorf("Rank: %v %v", got, e)
				}
			}
		}
	}
}

// ofProfile fails the test if there is no zero value with an error.
func ofProfile(t *testing.T, p strength.Pipe, l []strength.Step, x, y int) {
	t.Helper()
	if got, e := strength.Failure(p, l, x, y, x); e != api.OK && got.Text() != "[0,0]" {
		t.Errorf("Failure: %s %v", got.Text(), e)
	}
	if got, e := strength.Failure(p, l, 0, len(l)-1, y); e != api.OK && got.Text() != "[0,0]" {
		t.Errorf("Failure: %s %v", got.Text(), e)
	}
	if got, part, e := strength.Least(p, l, x); e != api.OK && (got.Text() != "[0,0]" || part != [2]int{}) {
		t.Errorf("Least: %s %v %v", got.Text(), part, e)
	}
}

func TestP1AnyTables(t *testing.T) {
	for _, x := range arbitrary() {
		for _, y := range arbitrary() {
			for _, table := range []strength.Table{
				{}, small(), {Depths: []int{x}, Lengths: []int{y}, Pressures: [][]int{{5}}}, {Depths: []int{5}, Lengths: []int{x, y}, Pressures: [][]int{{y, x}}},
				{Depths: []int{x, y}, Pressures: make([][]int, 2)}, {Depths: []int{x, y}, Lengths: []int{5}, Pressures: [][]int{{x}, {y}}}, {Pressures: [][]int{{x}}},
			} {
				for _, size := range []api.Range{ranged(x, y), ranged(5, x), ranged(y, 1000000)} {
					if got, e := strength.Crack(table, size, ranged(y, x)); e != api.OK && got != (api.Range{}) {
						t.Errorf("Crack: %v %v", got, e)
					}
					if got, e := strength.Crack(table, ranged(10, 150), size); e != api.OK && got != (api.Range{}) {
						t.Errorf("Crack: %v %v", got, e)
					}
				}
			}
		}
	}
}

func TestP1AnyRepairs(t *testing.T) {
	for _, x := range arbitrary() {
		for _, y := range arbitrary() {
			for _, jobs := range [][]strength.Job{nil, three(), {{x, y, 0, 9}}, {{5, x, y, 9}}, {{5, 5, x, y}}, {anyDay(3, 3), {x, 1, 0, y}}, make([]strength.Job, 25)} {
				ofSite(t, site{jobs, 1, 9}, x, y)
				ofSite(t, site{jobs, x, y}, y, x)
			}
		}
	}
}

// ofSite fails the test if there is no zero value with an error.
func ofSite(t *testing.T, s site, x, y int) {
	t.Helper()
	for _, plan := range [][]strength.Slot{nil, {{x, y, 0}}, {{0, x, y}}, {{0, 0, 0}, {1, 0, x}, {y, 0, 0}}, make([]strength.Slot, 30)} {
		if got, e := strength.Left(s.jobs, s.crews, s.days, plan); e != api.OK && got != 0 {
			t.Errorf("Left: %d %v", got, e)
		}
	}
	if got, e := strength.Greedy(s.jobs, s.crews, s.days); e != api.OK && len(got) > 0 {
		t.Errorf("Greedy: %v %v", got, e)
	}
	for _, price := range []dyad.Num{{}, num("-1"), num("3/8"), great()} {
		if got, e := strength.Bound(s.jobs, s.crews, s.days, price); e != api.OK && got.Sign() != 0 {
			t.Errorf("Bound: %s %v", got.Text(), e)
		}
	}
	if got, e := strength.Price(s.jobs, s.crews, s.days, x); e != api.OK && got.Sign() != 0 {
		t.Errorf("Price: %s %v", got.Text(), e)
	}
}
