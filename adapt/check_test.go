package adapt_test

import (
	"math"
	"math/rand"
	"reflect"
	"slices"
	"testing"

	"concordat/adapt"
	"concordat/api"
)

// may ends the test, if Check does not answer want, twice, or turns what is handed in.
func may(t *testing.T, p adapt.Program, want bool) {
	t.Helper()
	before := copied(p)
	for range 2 {
		if got := adapt.Check(p); got != want || referenceCheck(p) != want {
			t.Fatalf("Check(%s): %v; the reference %v; want %v", short(p), got, referenceCheck(p), want)
		}
	}
	if !reflect.DeepEqual(p, before) {
		t.Fatalf("Check turned %s to %s", short(before), short(p))
	}
}

// copied is p in memory of its own; empty lists stay what they are.
func copied(p adapt.Program) adapt.Program {
	p.Parts = slices.Clone(p.Parts)
	for i, l := range p.Parts {
		p.Parts[i] = slices.Clone(l)
	}
	return p
}

// P15.2: from 1 to 100 parts, with steps or without.
func TestCheckParts(t *testing.T) {
	may(t, adapt.Program{}, false)
	may(t, adapt.Program{Parts: [][]api.Step{}}, false)
	may(t, program(nil), true)
	may(t, program(part()), true)
	for n := range 300 {
		may(t, adapt.Program{Parts: make([][]api.Step, n)}, 1 <= n && n <= 100)
		if n > 0 {
			p := adapt.Program{Parts: make([][]api.Step, n)}
			p.Parts[0] = part(into(1, n-1))
			p.Parts[n-1] = append(p.Parts[n-1], into(500, 0))
			may(t, p, n <= 100)
		}
	}
	may(t, program(part(keep(1)), nil, part(keep(1), clamp(2)), part()), true)
	may(t, program(nil, part(keep(1)), part(clamp(0))), false)
}

// P15.2: Tags rise, each above the one ahead, from 1 to MaxTag.
func TestCheckTags(t *testing.T) {
	for tag := -2; tag < 1100; tag++ {
		for _, s := range []api.Step{keep(tag), clamp(tag), into(tag, 1), intoOne(tag, 1)} {
			may(t, program(part(s), nil), 1 <= tag && tag <= 500)
			may(t, program(nil, part(s)), 1 <= tag && tag <= 500)
			may(t, program(part(keep(250), s), nil), 251 <= tag && tag <= 500)
			may(t, program(part(s, keep(250)), nil), 1 <= tag && tag <= 249)
			may(t, program(part(keep(2), s, keep(5)), nil), 3 <= tag && tag <= 4)
		}
	}
	for _, tag := range []int{math.MinInt, math.MinInt32, -500, -1, 1 << 32, 1<<32 + 5, 1 << 62, math.MaxInt} {
		may(t, program(part(keep(tag))), false)
		may(t, program(part(keep(1), keep(tag))), false)
		may(t, program(part(keep(tag), keep(5))), false)
	}
	may(t, program(part(keep(500), keep(501))), false)
	may(t, program(part(keep(0), keep(1))), false)
	// Each part begins anew.
	may(t, program(part(keep(400), keep(500)), part(keep(1), keep(2)), part(keep(1))), true)
	all := make([]api.Step, 500)
	for i := range all {
		all[i] = keep(i + 1)
	}
	may(t, program(all, all), true)
	may(t, program(append(slices.Clone(all), keep(500))), false)
	for i := range all {
		l := slices.Clone(all)
		l[i].Tag++
		may(t, program(l), false) // as the next one, or too great
		l[i].Tag -= 2
		may(t, program(l), false)
	}
}

// P15.2: Op is one of the four.
func TestCheckOps(t *testing.T) {
	for _, op := range []int{math.MinInt, -1 << 32, -4, -1, 0, 1, 2, 3, 4, 5, 6, 7, 8, 255, 257, 1<<32 + 1, math.MaxInt} {
		for _, tag := range []int{1, 77, 500} {
			s := api.Step{Op: op, Tag: tag}
			may(t, program(part(s)), 1 <= op && op <= 4)
			may(t, program(nil, part(s)), 1 <= op && op <= 4)
			s.Sub = 1
			may(t, program(nil, part(s)), 3 <= op && op <= 4)
		}
		may(t, program(part(keep(1), api.Step{Op: op, Tag: 2}, keep(3))), 1 <= op && op <= 4)
	}
}

// P15.2: Sub is a part's place; of StepKeep and StepClamp it is 0.
func TestCheckSubs(t *testing.T) {
	for n := 1; n <= 100; n += 11 {
		for sub := -3; sub < 120; sub++ {
			for op := 1; op <= 4; op++ {
				p := adapt.Program{Parts: make([][]api.Step, n)}
				p.Parts[n-1] = part(keep(1), api.Step{Op: op, Tag: 7, Sub: sub})
				may(t, p, sub == 0 || op > 2 && 0 < sub && sub < n)
			}
		}
	}
	for _, sub := range []int{math.MinInt, -1 << 32, 1 << 32, 1<<32 + 1, math.MaxInt} {
		for op := 1; op <= 4; op++ {
			may(t, program(part(api.Step{Op: op, Tag: 1, Sub: sub}), nil, nil), false)
		}
	}
}

// P15.2: programs of any sort, held against the reference.
func TestCheckAny(t *testing.T) {
	r := rand.New(rand.NewSource(5))
	count := map[bool]int{}
	for range 60000 {
		p := anyProgram(r)
		got := adapt.Check(p)
		may(t, p, referenceCheck(p))
		count[got]++
	}
	if count[true] < 10000 || count[false] < 10000 {
		t.Fatal(count)
	}
}

// anyProgram is one that often may be, but for one thing.
func anyProgram(r *rand.Rand) adapt.Program {
	p := adapt.Program{Parts: make([][]api.Step, 1+r.Intn(4))}
	for i := range p.Parts {
		tag := 0
		for range r.Intn(5) {
			tag += 1 + r.Intn(130)
			s := api.Step{Op: 1 + r.Intn(4), Tag: tag}
			if s.Op > 2 {
				s.Sub = r.Intn(len(p.Parts))
			}
			p.Parts[i] = append(p.Parts[i], s)
		}
	}
	if i := r.Intn(len(p.Parts)); len(p.Parts[i]) > 0 && r.Intn(3) == 0 {
		s := &p.Parts[i][r.Intn(len(p.Parts[i]))]
		*pick(r, &s.Op, &s.Tag, &s.Sub) += pick(r, -100, -2, -1, 1, 2, 3, 100, math.MinInt)
	}
	return p
}

// R1: programs that lead to themselves, or have one list in many places.
func TestCheckShared(t *testing.T) {
	l := part(into(1, 99), intoOne(2, 0), keep(3))
	p := adapt.Program{Parts: slices.Repeat([][]api.Step{l}, 100)}
	may(t, p, true)
	l[0].Sub = 100
	may(t, p, false)
	long := slices.Repeat(part(keep(1)), 1<<20)
	p = adapt.Program{Parts: slices.Repeat([][]api.Step{long}, 100)}
	if adapt.Check(p) || adapt.Check(adapt.Program{Parts: make([][]api.Step, 1<<22)}) {
		t.Fatal("too long")
	}
}

// same ends the test, if Same does not answer want, both ways, or turns what is handed in.
func same(t *testing.T, p, q adapt.Program, want bool) {
	t.Helper()
	x, y := copied(p), copied(q)
	for range 2 {
		if adapt.Same(p, q) != want || adapt.Same(q, p) != want || !adapt.Same(p, p) || !adapt.Same(q, y) {
			t.Fatalf("Same(%s, %s) is not %v", short(p), short(q), want)
		}
	}
	if !reflect.DeepEqual(p, x) || !reflect.DeepEqual(q, y) {
		t.Fatalf("Same turned %s to %s, %s to %s", short(x), short(p), short(y), short(q))
	}
}

// Same: a program and itself, with a part more, a step more, another Op, Tag, Sub.
func TestSame(t *testing.T) {
	p := program(part(keep(1), into(2, 2), clamp(3)), nil, part(intoOne(7, 1)))
	same(t, p, copied(p), true)
	for _, q := range []adapt.Program{
		{},
		program(nil),
		program(p.Parts[:2]...),
		program(p.Parts[1:]...),
		program(append(copied(p).Parts, nil)...),
		program(append([][]api.Step{nil}, p.Parts...)...),
		program(append(copied(p).Parts, part(keep(1)))...),
		program(p.Parts[0], p.Parts[2], nil),
		program(p.Parts[0], part(keep(1)), p.Parts[2]),
		program(p.Parts[0][:2], nil, p.Parts[2]),
		program(p.Parts[0][1:], nil, p.Parts[2]),
		program(append(slices.Clone(p.Parts[0]), keep(4)), nil, p.Parts[2]),
		program(part(p.Parts[0][0], p.Parts[0][2], p.Parts[0][1]), nil, p.Parts[2]),
		program(p.Parts[0], nil, nil),
		program(p.Parts[0], nil, part(intoOne(7, 1), intoOne(7, 1))),
	} {
		same(t, p, q, false)
	}
	for i, l := range p.Parts {
		for j := range l {
			for _, n := range []int{-1, 1, 1 << 32} {
				for k := range 3 {
					q := copied(p)
					s := &q.Parts[i][j]
					*[]*int{&s.Op, &s.Tag, &s.Sub}[k] += n
					same(t, p, q, false)
				}
			}
		}
	}
}

// Same: nil and an empty list are one (R3), at each place.
func TestSameEmpty(t *testing.T) {
	same(t, adapt.Program{}, adapt.Program{Parts: [][]api.Step{}}, true)
	same(t, program(nil, part(keep(1)), []api.Step{}), program([]api.Step{}, part(keep(1)), nil), true)
	same(t, program(nil), program(part()), true)
	same(t, program(nil), adapt.Program{}, false)
	same(t, program(nil, nil), program(nil), false)
	same(t, program(part(api.Step{})), program(nil), false)
}

// Same holds any programs against each other, such as may not be, too.
func TestSameAny(t *testing.T) {
	r := rand.New(rand.NewSource(6))
	count := map[bool]int{}
	for range 30000 {
		p := anyProgram(r)
		q := copied(p)
		if i := r.Intn(len(q.Parts)); len(q.Parts[i]) > 0 && r.Intn(2) == 0 {
			s := &q.Parts[i][r.Intn(len(q.Parts[i]))]
			*pick(r, &s.Op, &s.Tag, &s.Sub) += r.Intn(2)
		}
		want := reflect.DeepEqual(p, q)
		same(t, p, q, want)
		count[want]++
	}
	if count[true] < 10000 || count[false] < 3000 {
		t.Fatal(count)
	}
}
