package machine_test

import (
	"slices"
	"strings"
	"testing"

	"becket/api"
	"becket/machine"
)

// The tests of P4.5.

func TestMirroredAndBackwardsOfExamples(t *testing.T) {
	m, l, e := machine.Mirrored(row(2), []int{0, 4, 3})
	sameMachine(t, m, turned(row(2)))
	sameResult(t, l, e, []int{0, 4, 1}, api.OK)
	m, l, e = machine.Backwards(row(2), []int{4})
	sameMachine(t, m, turned(row(2)))
	sameResult(t, l, e, []int{2}, api.OK)
	m, l, e = machine.Backwards(turned(row(3, 2)), []int{4, 6, 8, 10, 0, 1, 3, 2})
	sameMachine(t, m, row(3, 2))
	sameResult(t, l, e, []int{2, 6, 8, 10, 0, 1, 3, 4}, api.OK)
	m, l, e = machine.Backwards(ring(2, 1), []int{0, 2, 4, 6})
	sameMachine(t, m, turned(ring(2, 1)))
	sameResult(t, l, e, []int{6, 2, 4, 0}, api.OK)
}

func TestMirroredAndBackwardsOfMany(t *testing.T) {
	source := seeded()
	for _, given := range manyMachines() {
		l := randomLoad(source, given, source.Intn(65))
		mirrored, back := slices.Clone(l), slices.Clone(l)
		for i, slot := range l {
			mirrored[i] = 4*(slot/4) + []int{0, 3, 2, 1}[slot%4]
			back[i] = overIn(given, slot)
		}
		wanted := given
		wanted.Turn = -given.Turn
		m, got, e := machine.Mirrored(given, l)
		sameMachine(t, m, wanted)
		sameResult(t, got, e, mirrored, api.OK, given, l)
		m, got, e = machine.Backwards(given, l)
		sameMachine(t, m, wanted)
		sameResult(t, got, e, back, api.OK, given, l)
	}
}

func TestErrorsOfMirroredAndBackwards(t *testing.T) {
	for _, bad := range badLoads() {
		m, l, e := machine.Mirrored(bad.m, bad.l)
		sameResult(t, l, e, []int{}, bad.e, "Mirrored")
		sameMachine(t, m, machine.Machine{}, "Mirrored")
		m, l, e = machine.Backwards(bad.m, bad.l)
		sameResult(t, l, e, []int{}, bad.e, "Backwards")
		sameMachine(t, m, machine.Machine{}, "Backwards")
	}
}

func TestTexts(t *testing.T) {
	for _, example := range []struct {
		m    machine.Machine
		text string
	}{
		{row(2), "row 2 + none"}, {row(1), "row 1 + none"}, {turned(row(16)), "row 16 - none"}, {ring(4, 0, 2), "ring 4 + 0,2"}, {row(9, 8), "row 9 + 8"},
		{turned(ring(12, 0, 9, 10, 11)), "ring 12 - 0,9,10,11"}, {ring(2, 0, 1), "ring 2 + 0,1"},
	} {
		text, e := machine.Print(example.m)
		sameResult(t, text, e, example.text, api.OK)
		m, e := machine.Parse(example.text)
		same(t, e, api.OK, example.text)
		sameMachine(t, m, example.m, example.text)
	}
	for _, bad := range badMachines() {
		text, e := machine.Print(bad.m)
		sameResult(t, text, e, "", bad.e)
	}
}

func TestErrorsOfTexts(t *testing.T) {
	full := "row 2 + " + strings.Repeat("1,", 2043) + "10" // a text of the greatest length
	same(t, len(full), api.MaxText)
	for _, bad := range []struct {
		text string
		e    api.Errno
	}{
		{full + "0", api.ErrLong}, {strings.Repeat(" ", 4097), api.ErrLong}, {"row 2 + " + strings.Repeat("1,", 100000), api.ErrLong},
		{full, api.ErrMany}, {strings.Repeat(" ", 4096), api.ErrSyntax},
		{"", api.ErrSyntax}, {" ", api.ErrSyntax}, {"row", api.ErrSyntax}, {"row 2", api.ErrSyntax}, {"row 2 +", api.ErrSyntax}, {"row 2 none", api.ErrSyntax},
		{"row 2 + none ", api.ErrSyntax}, {" row 2 + none", api.ErrSyntax}, {"row  2 + none", api.ErrSyntax}, {"row 2 + none\n", api.ErrSyntax},
		{"row 2 + none 1", api.ErrSyntax}, {"row\t2 + none", api.ErrSyntax}, {"Row 2 + none", api.ErrSyntax}, {"rows 2 + none", api.ErrSyntax},
		{" 2 + none", api.ErrSyntax}, {"row  + none", api.ErrSyntax}, {"row 2  none", api.ErrSyntax}, {"row 2 + ", api.ErrSyntax},
		{"row 02 + none", api.ErrSyntax}, {"row +2 + none", api.ErrSyntax}, {"row -2 + none", api.ErrSyntax}, {"row x + none", api.ErrSyntax},
		{"row 1000000000 + none", api.ErrSyntax}, {"row 2.0 + none", api.ErrSyntax}, {"row 2_0 + none", api.ErrSyntax},
		{"row 2 1 none", api.ErrSyntax}, {"row 2 +1 none", api.ErrSyntax}, {"row 2 ++ none", api.ErrSyntax}, {"row 2 0 none", api.ErrSyntax}, {"row 2 * none", api.ErrSyntax},
		{"row 2 + 01", api.ErrSyntax}, {"row 2 + -1", api.ErrSyntax}, {"row 2 + +1", api.ErrSyntax}, {"row 2 + 1,", api.ErrSyntax}, {"row 2 + ,1", api.ErrSyntax},
		{"row 4 + 1,,2", api.ErrSyntax}, {"row 4 + 1, 2", api.ErrSyntax}, {"row 4 + 1;2", api.ErrSyntax}, {"row 4 + None", api.ErrSyntax}, {"row 4 + none,1", api.ErrSyntax},
		{"row 4 + 1,none", api.ErrSyntax}, {"row 2 + ,", api.ErrSyntax}, {"row 2 + 1000000000", api.ErrSyntax}, {"row 2 + 00", api.ErrSyntax},
		{"ring 3 + x", api.ErrSyntax}, {"row 99 + 1,x", api.ErrSyntax},
		{"row 0 + none", api.ErrRange}, {"row 17 + none", api.ErrRange}, {"row 999999999 - none", api.ErrRange}, {"ring 18 + none", api.ErrRange}, {"row 17 + 99", api.ErrRange},
		{"ring 3 + none", api.ErrMesh}, {"ring 1 - none", api.ErrMesh}, {"ring 3 + 9", api.ErrMesh},
		{"row 2 + 1,1,1", api.ErrMany}, {"row 1 + 0,0", api.ErrMany},
		{"row 2 + 2", api.ErrUnknown}, {"row 2 + 0", api.ErrUnknown}, {"row 2 + 999999999", api.ErrUnknown}, {"ring 4 + 1,4", api.ErrUnknown}, {"row 4 + 2,0", api.ErrUnknown},
		{"row 4 + 2,1", api.ErrOrder}, {"ring 4 - 0,0", api.ErrOrder}, {"row 4 + 2,1,9", api.ErrOrder},
	} {
		m, e := machine.Parse(bad.text)
		same(t, e, bad.e, bad.text[:min(len(bad.text), 40)])
		sameMachine(t, m, machine.Machine{}, bad.text[:min(len(bad.text), 40)])
	}
}
