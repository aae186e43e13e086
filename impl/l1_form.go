package impl

import "slices"

const MaxEntry = 1000000
const MaxNumber = 1000000000
const MaxWord = 40

const (
	mostRows       = 4
	mostGenerators = 8
	mostDivided    = 40
	mostRoot       = 1000000000

	// Numbers up to these bounds keep every sum on the way inside an int.
	mostFormEntry = 1000
	mostKeptEntry = 30000
)

type Matrix struct {
	Rows [][]int
}

// grid has the rows of a matrix, or of a result that need not be one: its numbers may be greater than MaxEntry.
type grid [][]int

// IsMatrix reports whether m is a matrix.
func IsMatrix(m Matrix) bool { return isMatrixUpTo(m, MaxEntry) }

// UnitMatrix returns the matrix of a size in 1..4 with 1 at each row and the column with the same index, and 0 elsewhere.
func UnitMatrix(size int) (Matrix, bool) {
	if size < 1 || size > mostRows {
		return Matrix{}, false
	}
	return matrixOf(gridOf(size, unitEntry))
}

// MultiplyMatrices returns the product: its number in the row i and the column j is the sum, over all k, of that of m in the row i and the column k times that of n in the row k and the column j.
func MultiplyMatrices(m Matrix, n Matrix) (Matrix, bool) {
	if !IsMatrix(m) || !IsMatrix(n) || len(m.Rows) != len(n.Rows) {
		return Matrix{}, false
	}
	return matrixOf(grid(m.Rows).times(n.Rows))
}

// ApplyMatrix returns the vector whose number with the index i is the sum, over all j, of that of m in the row i and the column j times v(j).
func ApplyMatrix(m Matrix, v []int) ([]int, bool) {
	if !IsMatrix(m) || !isVector(v, len(m.Rows)) {
		return nil, false
	}
	image := grid(m.Rows).appliedTo(v)
	if !isVector(image, len(v)) {
		return nil, false
	}
	return image, true
}

// TransposeOf returns the matrix with rows and columns exchanged.
func TransposeOf(m Matrix) (Matrix, bool) {
	rows, ok := answerOf(m, MaxEntry, grid.transposed)
	return Matrix{Rows: rows}, ok
}

// DeterminantOf returns the determinant. It fails if a number of the matrix is not in -1000..1000.
func DeterminantOf(m Matrix) (int, bool) { return answerOf(m, mostFormEntry, grid.determinant) }

// InverseOf returns the inverse of a matrix with numbers in -1000..1000 whose determinant is 1 or -1. It fails for others.
func InverseOf(m Matrix) (Matrix, bool) {
	determinant, ok := DeterminantOf(m)
	if !ok || determinant != 1 && determinant != -1 {
		return Matrix{}, false
	}
	adjoint := grid(m.Rows).adjoint()
	// For 1 and -1, to multiply by the determinant is to divide by it.
	return matrixOf(gridOf(len(adjoint), func(i, j int) int { return determinant * adjoint[i][j] }))
}

// TraceOf returns the sum of the numbers at each row and the column with the same index.
func TraceOf(m Matrix) (int, bool) { return answerOf(m, MaxEntry, grid.trace) }

// IsSymmetric reports whether a matrix is its own transpose.
func IsSymmetric(m Matrix) (bool, bool) { return answerOf(m, MaxEntry, grid.isSymmetric) }

// FormAt returns the value of a form with numbers in -1000..1000 at a vector.
func FormAt(form Matrix, v []int) (int, bool) { return ProductAt(form, v, v) }

// ProductAt returns the sum of all products of the number of such a form in the row i and the column j, v(i) and w(j).
func ProductAt(form Matrix, v []int, w []int) (int, bool) {
	size := len(form.Rows)
	if !isSmallForm(form) || !isVector(v, size) || !isVector(w, size) {
		return 0, false
	}
	return dot(v, grid(form.Rows).appliedTo(w)), true
}

// KeepsForm reports whether a matrix with numbers in -30000..30000 keeps a form with numbers in -1000..1000.
func KeepsForm(m Matrix, form Matrix) (bool, bool) {
	if !isMatrixUpTo(m, mostKeptEntry) || !isSmallForm(form) || len(m.Rows) != len(form.Rows) {
		return false, false
	}
	moved := grid(m.Rows).transposed().times(form.Rows).times(m.Rows)
	return moved.equals(form.Rows), true
}

// ReflectionOf returns the matrix that takes each vector x to x less v times twice ProductAt of x and v, divided by FormAt v, for a form with numbers in -1000..1000. It fails if FormAt v is 0, or if a number is no whole one.
func ReflectionOf(form Matrix, v []int) (Matrix, bool) {
	value, ok := FormAt(form, v)
	if !ok || value == 0 {
		return Matrix{}, false
	}
	// As the form is symmetric, its rows at v tell the product of each unit vector and v.
	products := grid(form.Rows).appliedTo(v)
	allWhole := true
	reflection := gridOf(len(v), func(i, j int) int {
		taken := 2 * v[i] * products[j]
		allWhole = allWhole && taken%value == 0
		return unitEntry(i, j) - taken/value
	})
	if !allWhole {
		return Matrix{}, false
	}
	return matrixOf(reflection)
}

// WordMatrix returns the product, in order, of the generators with the indices of a word, for 1..8 generators of the same size and at most MaxWord indices of them, beginning with the UnitMatrix; each product on the way has to be a matrix.
func WordMatrix(generators []Matrix, word []int) (Matrix, bool) {
	if !areGenerators(generators) || !isIndexWord(word, len(generators)) {
		return Matrix{}, false
	}
	product, ok := UnitMatrix(len(generators[0].Rows))
	for _, index := range word {
		product, ok = MultiplyMatrices(product, generators[index])
		if !ok {
			return Matrix{}, false
		}
	}
	return product, ok
}

// RootOf returns the greatest number whose square is at most n, n in 0..1000000000000000000.
func RootOf(n int) (int, bool) {
	if n < 0 || n > mostRoot*mostRoot {
		return 0, false
	}
	low, high := 0, mostRoot
	for low < high {
		middle := (low + high + 1) / 2
		if middle*middle <= n {
			low = middle
		} else {
			high = middle - 1
		}
	}
	return low, true
}

// DivisorOf returns the greatest common divisor of at most 40 numbers in -MaxNumber..MaxNumber, 0 if there is none or all are 0.
func DivisorOf(list []int) (int, bool) {
	if len(list) > mostDivided || !areWithin(list, MaxNumber) {
		return 0, false
	}
	divisor := 0
	for _, number := range list {
		divisor = commonDivisor(divisor, number)
	}
	return divisor, true
}

func commonDivisor(a, b int) int {
	for b != 0 {
		a, b = b, a%b
	}
	return max(a, -a)
}

// areWithin compares with both ends, as the least int has no number without its sign.
func areWithin(list []int, most int) bool {
	for _, number := range list {
		if number < -most || number > most {
			return false
		}
	}
	return true
}

func isMatrixUpTo(m Matrix, most int) bool {
	size := len(m.Rows)
	if size < 1 || size > mostRows {
		return false
	}
	for _, row := range m.Rows {
		if len(row) != size || !areWithin(row, most) {
			return false
		}
	}
	return true
}

func isVector(v []int, size int) bool {
	return len(v) == size && areWithin(v, MaxEntry)
}

func isSmallForm(form Matrix) bool {
	return isMatrixUpTo(form, mostFormEntry) && grid(form.Rows).isSymmetric()
}

func areGenerators(generators []Matrix) bool {
	if len(generators) < 1 || len(generators) > mostGenerators {
		return false
	}
	for _, generator := range generators {
		if !IsMatrix(generator) || len(generator.Rows) != len(generators[0].Rows) {
			return false
		}
	}
	return true
}

func isIndexWord(word []int, count int) bool {
	return len(word) <= MaxWord && areIndices(word, count)
}

// areIndices has no limit of length, as there are words of more than MaxWord indices.
func areIndices(list []int, count int) bool {
	for _, index := range list {
		if index < 0 || index >= count {
			return false
		}
	}
	return true
}

// answerOf makes the one check that all operations on a matrix need, as they check nothing themselves.
func answerOf[T any](m Matrix, most int, operation func(grid) T) (T, bool) {
	if !isMatrixUpTo(m, most) {
		var none T
		return none, false
	}
	return operation(m.Rows), true
}

// matrixOf fails for a result with a number that is too great.
func matrixOf(g grid) (Matrix, bool) {
	m := Matrix{Rows: g}
	if !IsMatrix(m) {
		return Matrix{}, false
	}
	return m, true
}

func sumOver[T any](items []T, term func(index int, item T) int) int {
	sum := 0
	for index, item := range items {
		sum += term(index, item)
	}
	return sum
}

func dot(v, w []int) int {
	return sumOver(v, func(i, number int) int { return number * w[i] })
}

// gridOf gives each row memory of its own, as no two slices of a result may share it.
func gridOf(size int, entry func(i, j int) int) grid {
	g := make(grid, size)
	for i := range g {
		g[i] = make([]int, size)
		for j := range g[i] {
			g[i][j] = entry(i, j)
		}
	}
	return g
}

func unitEntry(i, j int) int {
	if i == j {
		return 1
	}
	return 0
}

func signAt(index int) int { return 1 - index%2*2 }

func (g grid) times(h grid) grid {
	return gridOf(len(g), func(i, j int) int {
		return sumOver(g[i], func(k, number int) int { return number * h[k][j] })
	})
}

func (g grid) appliedTo(v []int) []int {
	image := make([]int, len(g))
	for i, row := range g {
		image[i] = dot(row, v)
	}
	return image
}

func (g grid) transposed() grid {
	return gridOf(len(g), func(i, j int) int { return g[j][i] })
}

func (g grid) trace() int {
	return sumOver(g, func(i int, row []int) int { return row[i] })
}

func (g grid) equals(h grid) bool {
	return slices.EqualFunc(g, h, slices.Equal[[]int])
}

func (g grid) isSymmetric() bool { return g.equals(g.transposed()) }

func (g grid) without(row, column int) grid {
	return gridOf(len(g)-1, func(i, j int) int {
		if i >= row {
			i++
		}
		if j >= column {
			j++
		}
		return g[i][j]
	})
}

// determinant of no rows is 1, so that the adjoint of one row is right, too.
func (g grid) determinant() int {
	if len(g) == 0 {
		return 1
	}
	return sumOver(g[0], func(j, number int) int {
		return signAt(j) * number * g.without(0, j).determinant()
	})
}

func (g grid) adjoint() grid {
	return gridOf(len(g), func(i, j int) int {
		return signAt(i+j) * g.without(j, i).determinant()
	})
}
