package splice

import (
	"becket/api"
	"becket/check"
	"becket/exact"
	"becket/lists"
)

// Limits of nets.
const (
	MaxRows   = 64
	MaxMeshes = 500
)

// Row is a row of a net: how many meshes more, and how many fewer, it has than the row before.
type Row struct {
	More int
	Less int
}

// Net is the meshes of the first row, and further rows.
type Net struct {
	First int
	Rows  []Row
}

// CheckNet returns the first error of a net, or OK.
func CheckNet(n Net) api.Errno {
	_, e := Meshes(n)
	return e
}

// Meshes returns the meshes of the rows of a net.
func Meshes(n Net) ([]int, api.Errno) {
	if e := check.First(checkMeshes(n.First), check.That(len(n.Rows) <= MaxRows, api.ErrMany)); e != api.OK {
		return nil, e
	}
	meshes := []int{n.First}
	for i, row := range n.Rows {
		next, e := meshesAfter(meshes[i], row)
		if e != api.OK {
			return nil, e
		}
		meshes = append(meshes, next)
	}
	return meshes, api.OK
}

// Knots returns the number of knots of a net.
func Knots(n Net) (int, api.Errno) {
	meshes, e := Meshes(n)
	if e != api.OK {
		return 0, e
	}
	return lists.Sum(meshes[1:]), api.OK
}

// Twine returns the length of twine for a net.
func Twine(n Net, side, knot api.Rat) (api.Rat, api.Errno) {
	meshes, e := Meshes(n)
	if e := check.First(e, check.FromZero(side), check.FromZero(knot)); e != api.OK {
		return "", e
	}
	// The sum may have fewer digits than what it is made of.
	sides := exact.Value(side).Times(exact.Ratio(2*lists.Sum(meshes), 1))
	knots := exact.Value(knot).Times(exact.Ratio(lists.Sum(meshes[1:]), 1))
	return exact.Write(sides.Plus(knots))
}

// Shaped returns a net that goes evenly from some meshes to others.
func Shaped(first, last, rows int) (Net, api.Errno) {
	if e := check.First(checkMeshes(first), checkMeshes(last), check.Range(rows, 1, MaxRows)); e != api.OK {
		return Net{}, e
	}
	n := Net{First: first, Rows: lists.Map(lists.Numbers(rows), func(before int) Row {
		return rowBetween(evenMeshes(first, last, rows, before), evenMeshes(first, last, rows, before+1))
	})}
	if e := CheckNet(n); e != api.OK {
		return Net{}, e
	}
	return n, api.OK
}

// checkMeshes returns the error of the number of meshes of a row.
func checkMeshes(meshes int) api.Errno {
	return check.Range(meshes, 1, MaxMeshes)
}

// meshesAfter returns the meshes of a row, and its first error.
func meshesAfter(before int, row Row) (int, api.Errno) {
	if row == (Row{}) {
		return before, api.OK
	}
	next := before + row.More - row.Less
	return next, check.First(
		check.Range(row.More, 0, MaxMeshes),
		check.Range(row.Less, 0, MaxMeshes),
		check.That(row.More+2*row.Less <= before, api.ErrRule),
		checkMeshes(next),
	)
}

// evenMeshes returns the meshes of an even net after some of its further rows. What is divided is never below 0, not even if
// the net has fewer and fewer meshes, so that its integer part is the one downwards.
func evenMeshes(first, last, rows, after int) int {
	return (first*(rows-after) + last*after) / rows
}

// rowBetween returns the row that leads from some meshes to others.
func rowBetween(before, meshes int) Row {
	return Row{More: max(meshes-before, 0), Less: max(before-meshes, 0)}
}
