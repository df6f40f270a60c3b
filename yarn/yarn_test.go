package yarn_test

import (
	"math/big"
	"slices"
	"strings"
	"testing"

	"becket/api"
	"becket/yarn"
)

// The tests of P2.2.

// yarnFaults returns the faults of a yarn in the order of their errors.
func yarnFaults() []fault[yarn.Yarn] {
	var faults []fault[yarn.Yarn]
	add := func(e api.Errno, change func(y *yarn.Yarn)) { faults = append(faults, fault[yarn.Yarn]{change, e}) }
	add(api.ErrName, func(y *yarn.Yarn) { y.Name = "" })
	for _, name := range badNames() {
		add(api.ErrName, func(y *yarn.Yarn) { y.Name = name })
	}
	for _, bad := range notPositive() {
		add(bad.e, func(y *yarn.Yarn) { y.Density = bad.text })
	}
	for _, bad := range badNumbers() {
		add(bad.e, func(y *yarn.Yarn) { y.Twist = bad.text })
	}
	add(api.ErrEmpty, func(y *yarn.Yarn) { y.Strength = nil })
	add(api.ErrEmpty, func(y *yarn.Yarn) { y.Strength = []api.Point{} })
	add(api.ErrMany, func(y *yarn.Yarn) { y.Strength = stairs(257) })
	add(api.ErrMany, func(y *yarn.Yarn) { y.Strength = make([]api.Point, 300) })
	add(api.ErrForm, func(y *yarn.Yarn) { y.Strength = []api.Point{{X: "", Y: "-1"}, {X: "-1", Y: ""}} })
	add(api.ErrRange, func(y *yarn.Yarn) { y.Strength = []api.Point{{X: "1", Y: "-1"}, {X: "0", Y: nines(601)}} })
	add(api.ErrOrder, func(y *yarn.Yarn) { y.Strength = []api.Point{{X: "1", Y: "1"}, {X: "1", Y: "1"}, {X: "", Y: ""}} })
	add(api.ErrOrder, func(y *yarn.Yarn) { y.Strength = []api.Point{{X: "1", Y: "1"}, {X: "1/2", Y: "1"}} })
	add(api.ErrOrder, func(y *yarn.Yarn) { y.Strength = append(stairs(255), api.Point{X: "507", Y: "1"}) })
	add(api.ErrForm, func(y *yarn.Yarn) { y.Strength = []api.Point{{X: "1", Y: "1"}, {X: "0", Y: "x"}} })
	for _, bad := range notFromZero() {
		add(bad.e, func(y *yarn.Yarn) { y.Strength = []api.Point{{X: "0", Y: "0"}, {X: bad.text, Y: "1"}} })
		add(bad.e, func(y *yarn.Yarn) { y.Strength = []api.Point{{X: "0", Y: "0"}, {X: "1", Y: bad.text}} })
	}
	for _, name := range badNames() {
		add(api.ErrName, func(y *yarn.Yarn) { y.Dye = name })
	}
	return faults
}

func TestCheckYarn(t *testing.T) {
	checkFaults(t, thread, yarnFaults(), yarn.CheckYarn)
	for i, change := range []func(y *yarn.Yarn){
		func(y *yarn.Yarn) { y.Name = "A_1" + strings.Repeat("z", 21) }, func(y *yarn.Yarn) { y.Dye = "red" },
		func(y *yarn.Yarn) { y.Dye = strings.Repeat("a", 24) }, func(y *yarn.Yarn) { y.Density = "1/" + nines(600) },
		func(y *yarn.Yarn) { y.Twist = "0" }, func(y *yarn.Yarn) { y.Twist = "-" + nines(600) },
		func(y *yarn.Yarn) { y.Strength = stairs(1) }, func(y *yarn.Yarn) { y.Strength = stairs(65) }, func(y *yarn.Yarn) { y.Strength = stairs(256) },
		func(y *yarn.Yarn) { y.Strength = []api.Point{{X: "9", Y: "0"}, {X: "10", Y: "0"}} },
	} {
		y := thread()
		change(&y)
		same(t, yarn.CheckYarn(y), api.OK, i)
	}
}

func TestStrength(t *testing.T) {
	for _, row := range []struct {
		twist, wanted api.Rat
	}{
		{"-100", "14"}, {"100", "14"}, {"-120", "12"}, {"120", "12"}, {"-70", "10"}, {"0", "10"}, {"80", "14"}, {"-80", "14"}, {"239/3", "10"},
		{"-359/3", "14"}, {nines(600), "12"}, {"-" + nines(600), "12"}, {"1/" + nines(600), "10"},
	} {
		y := thread()
		y.Twist = row.twist
		strength, e := yarn.Strength(y)
		same(t, []any{strength, e}, []any{row.wanted, api.OK}, row.twist)
	}
	late := thread()
	late.Strength = late.Strength[1:]
	for twist, wanted := range map[api.Rat]api.Errno{"80": api.OK, "-80": api.OK, "79": api.ErrNone, "-79": api.ErrNone, "0": api.ErrNone, "-239/3": api.ErrNone} {
		late.Twist = twist
		strength, e := yarn.Strength(late)
		same(t, e, wanted, twist)
		same(t, strength == "", e != api.OK, twist)
	}
	long := thread()
	long.Strength = stairs(256)
	for i := range 256 {
		long.Twist = rat(big.NewRat(int64(-4*i-2), 2)) // one turn more than a breakpoint
		strength, e := yarn.Strength(long)
		same(t, []any{strength, e}, []any{rat(big.NewRat(int64(i+1), 1)), api.OK}, i)
	}
	checkFaults(t, thread, yarnFaults(), func(y yarn.Yarn) api.Errno {
		strength, e := yarn.Strength(y)
		same(t, strength == "", e != api.OK, e)
		return e
	})
}

func TestTwisted(t *testing.T) {
	for _, row := range []struct{ turns, twist, strength api.Rat }{
		{"-20", "-120", "12"}, {"30", "-70", "10"}, {"200", "100", "14"}, {"0", "-100", "14"}, {"100", "0", "10"}, {"301/3", "1/3", "10"},
	} {
		given := thread()
		given.Dye = "red"
		wanted := thread()
		wanted.Dye, wanted.Twist = "red", row.twist
		y, e := yarn.Twisted(given, row.turns)
		same(t, e, api.OK, row.turns)
		same(t, y, wanted, row.turns)
		strength, e := yarn.Strength(y)
		same(t, []any{strength, e}, []any{row.strength, api.OK}, row.turns)
		y.Strength[0].Y = "99"
		same(t, given.Strength, thread().Strength, "shared memory")
	}
	for _, bad := range badNumbers() {
		y, e := yarn.Twisted(thread(), bad.text)
		same(t, []any{y, e}, []any{yarn.Yarn{}, bad.e}, bad)
	}
	long := thread()
	long.Twist = nines(600)
	y, e := yarn.Twisted(long, "1")
	same(t, []any{y, e}, []any{yarn.Yarn{}, api.ErrLarge})
	y, e = yarn.Twisted(long, "-1")
	same(t, []any{y.Twist, e}, []any{nines(599) + "8", api.OK})
	for i, bad := range badYarns() {
		for _, turns := range []api.Rat{"1", "x", nines(601)} {
			y, e := yarn.Twisted(bad.y, turns)
			same(t, []any{y, e}, []any{yarn.Yarn{}, bad.e}, i, turns)
		}
	}
}

func TestPly(t *testing.T) {
	red, blue := thread(), thread()
	red.Dye, blue.Dye = "red", "blue"
	for i, row := range []struct {
		l                                []yarn.Yarn
		twist, factor, density, strength api.Rat
		dye                              string
	}{
		{[]yarn.Yarn{thread(), thread(), thread()}, "60", "9/10", "1/6", "30", ""},
		{[]yarn.Yarn{red}, "0", "1", "1/20", "14", "red"}, {[]yarn.Yarn{red, red}, "-20", "1/2", "1/5", "24", "red"},
		{[]yarn.Yarn{red, blue}, "200", "1", "1/10", "28", ""}, {[]yarn.Yarn{red, thread()}, "200", "1", "1/10", "28", ""},
		{[]yarn.Yarn{thread(), red}, "200", "1", "1/10", "28", ""}, {[]yarn.Yarn{red, red, blue}, "180", "1", "3/20", "42", ""},
		{[]yarn.Yarn{thread(), strand("1/3", "7/2")}, "179", "1", "23/60", "27/2", ""},
		{slices.Repeat([]yarn.Yarn{blue}, 12), "0", "3/5", "1", "168", "blue"},
	} {
		p, e := yarn.Ply("p", row.l, row.twist, row.factor)
		same(t, e, api.OK, i)
		same(t, p, yarn.Yarn{Name: "p", Density: row.density, Twist: row.twist, Strength: []api.Point{{X: "0", Y: row.strength}}, Dye: row.dye}, i)
		same(t, yarn.CheckYarn(p), api.OK, i)
	}
}

// plying has the arguments of Ply.
type plying struct {
	name          string
	l             []yarn.Yarn
	twist, factor api.Rat
}

func (p plying) run() (yarn.Yarn, api.Errno) {
	return yarn.Ply(p.name, p.l, p.twist, p.factor)
}

func TestErrorsOfPly(t *testing.T) {
	var faults []fault[plying]
	add := func(e api.Errno, change func(p *plying)) { faults = append(faults, fault[plying]{change, e}) }
	add(api.ErrName, func(p *plying) { p.name = "" })
	for _, name := range badNames() {
		add(api.ErrName, func(p *plying) { p.name = name })
	}
	add(api.ErrEmpty, func(p *plying) { p.l = nil })
	add(api.ErrMany, func(p *plying) { p.l = slices.Repeat([]yarn.Yarn{thread()}, 13) })
	add(api.ErrMany, func(p *plying) { p.l = make([]yarn.Yarn, 13) })
	for _, bad := range badYarns() {
		add(bad.e, func(p *plying) { p.l = []yarn.Yarn{thread(), bad.y, {}} })
	}
	for _, bad := range badNumbers() {
		add(bad.e, func(p *plying) { p.twist = bad.text })
	}
	for _, bad := range append(notPositive(), badNumber{"11/10", api.ErrRange}, badNumber{nines(600), api.ErrRange}) {
		add(bad.e, func(p *plying) { p.factor = bad.text })
	}
	weak, far := thread(), thread()
	weak.Strength = weak.Strength[2:]
	far.Twist = nines(600)
	add(api.ErrNone, func(p *plying) { p.l, p.twist = []yarn.Yarn{thread(), weak, far}, "1" })
	add(api.ErrLarge, func(p *plying) { p.l, p.twist = []yarn.Yarn{thread(), far, weak}, "1" })
	good := func() plying { return plying{"p", []yarn.Yarn{thread(), thread()}, "60", "9/10"} }
	checkFaults(t, good, faults, func(p plying) api.Errno {
		y, e := p.run()
		if e != api.OK {
			same(t, y, yarn.Yarn{})
		}
		return e
	})
	for _, l := range [][]yarn.Yarn{
		{strand(nines(600), "1"), strand("1", "1")}, {strand("1", nines(600)), strand("1", "1")},
		{strand("1/"+nines(600), "1"), strand("1/"+ten(599), "1")}, {strand("1", "1/"+nines(600)), strand("1", "1/"+ten(599))},
	} {
		y, e := yarn.Ply("p", l, "0", "1")
		same(t, []any{y, e}, []any{yarn.Yarn{}, api.ErrLarge})
	}
	y, e := yarn.Ply("p", []yarn.Yarn{strand(nines(600), "1")}, "0", "1/2")
	same(t, []any{y, e}, []any{yarn.Yarn{}, api.ErrLarge}, "the factor")
}

// The sum of some yarns may have too many digits, while that of all of them has not.
func TestPlyBeyondTheLimit(t *testing.T) {
	a, b := "1/"+nines(600), "1/"+ten(599)
	restOfA, restOfB := nines(599)+"8/"+nines(600), nines(599)+"/"+ten(599)
	for _, l := range [][]api.Rat{{a, b, restOfA, restOfB}, {a, restOfA, b, restOfB}, {restOfB, restOfA, b, a}} {
		var heavy, strong []yarn.Yarn
		for _, number := range l {
			heavy, strong = append(heavy, strand(number, "1")), append(strong, strand("1", number))
		}
		p, e := yarn.Ply("p", heavy, "0", "1/2")
		same(t, []any{p.Density, e}, []any{api.Rat("4"), api.OK}, "density")
		p, e = yarn.Ply("p", strong, "0", "1")
		same(t, []any{p.Strength[0].Y, e}, []any{api.Rat("2"), api.OK}, "strength")
	}
	// The sum has a numerator of 601 digits, 10 to the power 600, of which the factor takes three.
	sum := []yarn.Yarn{strand(nines(599)+"8/7", "1"), strand("2/7", "1")}
	p, e := yarn.Ply("p", sum, "0", "1000/1001")
	same(t, []any{p.Density, e}, []any{api.Rat("143" + strings.Repeat("0", 597)), api.OK}, "factor")
}

func TestRandomPlies(t *testing.T) {
	source := seeded()
	for i := range 200 {
		var l []yarn.Yarn
		density, strength := new(big.Rat), new(big.Rat)
		digits := []int{3, 60, 300}[i%3]
		for range 1 + source.Intn(12) {
			heavy, strong := positiveRat(source, digits), randomRat(source, digits)
			density.Add(density, heavy)
			strength.Add(strength, strong)
			l = append(l, strand(rat(heavy), rat(strong)))
		}
		factor := positiveRat(source, 3)
		if factor.Cmp(big.NewRat(1, 1)) > 0 {
			factor.Inv(factor)
		}
		p, e := yarn.Ply("p", l, "-7/3", rat(factor))
		density.Quo(density, factor)
		if e == api.ErrLarge {
			_, codeOfDensity := yarn.Mass(strand(rat(density), "1"), "1")
			_, codeOfStrength := yarn.Mass(strand("1", rat(strength)), "1")
			same(t, codeOfDensity == api.ErrLarge || codeOfStrength == api.ErrLarge, true, i)
			continue
		}
		same(t, []any{p.Density, p.Strength[0].Y, e}, []any{rat(density), rat(strength), api.OK}, i)
	}
}
