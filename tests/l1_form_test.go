package tests

import (
	"fmt"
	"math"
	"math/rand"
	"reflect"
	"testing"

	"loop.example/g01122/impl"
)

// notMatrices are invalid for each function of chapter 1 that requires a matrix.
func notMatrices() []impl.Matrix {
	return []impl.Matrix{
		{},
		matrix([][]int{}...),
		matrix(nil),
		matrix([]int{}),
		matrix([]int{1, 2}),
		matrix([]int{1}, []int{2}),
		matrix([]int{1, 2}, nil),
		matrix([]int{1, 2}, []int{3}),
		matrix([]int{1, 2}, []int{3, 4, 5}),
		matrix([]int{1, 2, 3}, []int{4, 5, 6}),
		diagonal(1, 1, 1, 1, 1),
		matrix([]int{impl.MaxEntry + 1}),
		matrix([]int{-impl.MaxEntry - 1}),
		matrix([]int{math.MaxInt}),
		matrix([]int{math.MinInt}),
		matrix([]int{0, 0}, []int{0, impl.MaxEntry + 1}),
		matrix([]int{0, 0, 0}, []int{0, 0, 0}, []int{-impl.MaxEntry - 1, 0, 0}),
	}
}

func unit(size int) impl.Matrix { return diagonal(repeated(1, size)...) }

func wantMatrix(t *testing.T, name string, got impl.Matrix, ok bool, want impl.Matrix) {
	t.Helper()
	if !ok || !reflect.DeepEqual(got, want) {
		t.Errorf("%s: %v %v instead of %v", name, got.Rows, ok, want.Rows)
	}
}

func wantNoMatrix(t *testing.T, name string, got impl.Matrix, ok bool) {
	t.Helper()
	if ok || got.Rows != nil {
		t.Errorf("%s: %v %v instead of a failure", name, got.Rows, ok)
	}
}

func wantNumber(t *testing.T, name string, got int, ok bool, want int) {
	t.Helper()
	if !ok || got != want {
		t.Errorf("%s: %v %v instead of %v", name, got, ok, want)
	}
}

func wantNoNumber(t *testing.T, name string, got int, ok bool) {
	t.Helper()
	if ok || got != 0 {
		t.Errorf("%s: %v %v instead of a failure", name, got, ok)
	}
}

func wantAnswer(t *testing.T, name string, got bool, ok bool, want bool) {
	t.Helper()
	if !ok || got != want {
		t.Errorf("%s: %v %v instead of %v", name, got, ok, want)
	}
}

func wantNoAnswer(t *testing.T, name string, got bool, ok bool) {
	t.Helper()
	if ok || got {
		t.Errorf("%s: %v %v instead of a failure", name, got, ok)
	}
}

func wantList(t *testing.T, name string, got []int, ok bool, want []int) {
	t.Helper()
	if !ok || len(got) != len(want) || len(want) > 0 && !reflect.DeepEqual(got, want) {
		t.Errorf("%s: %v %v instead of %v", name, got, ok, want)
	}
}

func wantNoList(t *testing.T, name string, got []int, ok bool) {
	t.Helper()
	if ok || len(got) != 0 {
		t.Errorf("%s: %v %v instead of a failure", name, got, ok)
	}
}

func TestConstantsOfChapter1(t *testing.T) {
	got := [3]int{impl.MaxEntry, impl.MaxNumber, impl.MaxWord}
	if got != [3]int{1000000, 1000000000, 40} {
		t.Error(got)
	}
}

func TestIsMatrix(t *testing.T) {
	for _, m := range notMatrices() {
		if impl.IsMatrix(m) {
			t.Errorf("%v is told as a matrix", m.Rows)
		}
	}
	for _, m := range []impl.Matrix{
		matrix([]int{0}),
		matrix([]int{impl.MaxEntry}),
		matrix([]int{-impl.MaxEntry}),
		matrix([]int{1, 2}, []int{3, 4}),
		matrix([]int{1, 2, 3}, []int{4, 5, 6}, []int{7, 8, -impl.MaxEntry}),
		matrix(repeated(impl.MaxEntry, 4), repeated(-impl.MaxEntry, 4), repeated(0, 4), repeated(5, 4)),
	} {
		if !impl.IsMatrix(m) {
			t.Errorf("%v is not told as a matrix", m.Rows)
		}
	}
}

func TestUnitMatrix(t *testing.T) {
	for size := 1; size <= 4; size++ {
		got, ok := impl.UnitMatrix(size)
		wantMatrix(t, fmt.Sprint(size), got, ok, unit(size))
	}
	for _, size := range []int{0, -1, 5, math.MinInt, math.MaxInt} {
		got, ok := impl.UnitMatrix(size)
		wantNoMatrix(t, fmt.Sprint(size), got, ok)
	}
}

func TestMultiplyMatrices(t *testing.T) {
	for _, c := range []struct{ m, n, want impl.Matrix }{
		{matrix([]int{3}), matrix([]int{-5}), matrix([]int{-15})},
		{matrix([]int{1, 2}, []int{3, 4}), matrix([]int{5, 6}, []int{7, 8}), matrix([]int{19, 22}, []int{43, 50})},
		{matrix([]int{5, 6}, []int{7, 8}), matrix([]int{1, 2}, []int{3, 4}), matrix([]int{23, 34}, []int{31, 46})},
		{matrix([]int{1, 2, 0}, []int{0, 1, 3}, []int{4, 0, 1}), matrix([]int{1, 0, 5}, []int{6, 1, 0}, []int{0, 7, 1}), matrix([]int{13, 2, 5}, []int{6, 22, 3}, []int{4, 7, 21})},
		{diagonal(1, 2, 3, 4), diagonal(5, 6, 7, 8), diagonal(5, 12, 21, 32)},
		{matrix([]int{1000}), matrix([]int{1000}), matrix([]int{impl.MaxEntry})},
		{matrix([]int{1000}), matrix([]int{-1000}), matrix([]int{-impl.MaxEntry})},
		// The products on the way are greater than MaxEntry, and only their sum counts.
		{matrix([]int{impl.MaxEntry, impl.MaxEntry}, []int{0, 1}), matrix([]int{impl.MaxEntry, 0}, []int{-impl.MaxEntry, 1}), matrix([]int{0, impl.MaxEntry}, []int{-impl.MaxEntry, 1})},
	} {
		got, ok := impl.MultiplyMatrices(c.m, c.n)
		wantMatrix(t, fmt.Sprint(c.m, c.n), got, ok, c.want)
	}
	for _, c := range [][2]impl.Matrix{
		{matrix([]int{impl.MaxEntry}), matrix([]int{2})},
		{matrix([]int{1, 1}, []int{0, 1}), matrix([]int{impl.MaxEntry, 0}, []int{1, 0})},
		{matrix([]int{1, 1}, []int{0, 1}), matrix([]int{0, -impl.MaxEntry}, []int{0, -1})},
		{matrix([]int{0, 0}, []int{1, 1}), matrix([]int{0, impl.MaxEntry}, []int{0, 1})},
		{unit(1), unit(2)},
		{unit(3), unit(2)},
		{unit(4), unit(3)},
	} {
		got, ok := impl.MultiplyMatrices(c[0], c[1])
		wantNoMatrix(t, fmt.Sprint(c), got, ok)
	}
	for _, m := range notMatrices() {
		for size := 1; size <= 4; size++ {
			got, ok := impl.MultiplyMatrices(m, diagonal(repeated(0, size)...))
			wantNoMatrix(t, fmt.Sprint(m), got, ok)
			got, ok = impl.MultiplyMatrices(diagonal(repeated(0, size)...), m)
			wantNoMatrix(t, fmt.Sprint(m), got, ok)
		}
	}
}

func TestApplyMatrix(t *testing.T) {
	for _, c := range []struct {
		m       impl.Matrix
		v, want []int
	}{
		{matrix([]int{7}), []int{-3}, []int{-21}},
		{matrix([]int{1, 2}, []int{3, 4}), []int{5, 6}, []int{17, 39}},
		{matrix([]int{1, 2, 3}, []int{4, 5, 6}, []int{7, 8, 9}), []int{1, 0, -1}, []int{-2, -2, -2}},
		{matrix([]int{0, 1, 0, 0}, []int{0, 0, 1, 0}, []int{0, 0, 0, 1}, []int{1, 0, 0, 0}), []int{1, 2, 3, 4}, []int{2, 3, 4, 1}},
		{matrix([]int{-1}), []int{impl.MaxEntry}, []int{-impl.MaxEntry}},
		{matrix([]int{2, 0}, []int{0, -2}), []int{500000, 500000}, []int{impl.MaxEntry, -impl.MaxEntry}},
		{matrix([]int{impl.MaxEntry, impl.MaxEntry}, []int{1, 0}), []int{impl.MaxEntry, -impl.MaxEntry}, []int{0, impl.MaxEntry}},
	} {
		got, ok := impl.ApplyMatrix(c.m, c.v)
		wantList(t, fmt.Sprint(c.m, c.v), got, ok, c.want)
	}
	for _, c := range []struct {
		m impl.Matrix
		v []int
	}{
		{unit(1), nil},
		{unit(1), []int{}},
		{unit(1), []int{1, 2}},
		{unit(2), []int{1}},
		{unit(4), []int{1, 2, 3}},
		{unit(4), []int{1, 2, 3, 4, 5}},
		{diagonal(0), []int{impl.MaxEntry + 1}},
		{diagonal(0), []int{-impl.MaxEntry - 1}},
		{diagonal(0, 0), []int{0, math.MinInt}},
		{matrix([]int{1, 1}, []int{0, 0}), []int{impl.MaxEntry, 1}},
		{matrix([]int{0, 0}, []int{1, -1}), []int{-impl.MaxEntry, 1}},
	} {
		got, ok := impl.ApplyMatrix(c.m, c.v)
		wantNoList(t, fmt.Sprint(c.m, c.v), got, ok)
	}
	for _, m := range notMatrices() {
		for size := range 6 {
			got, ok := impl.ApplyMatrix(m, repeated(0, size))
			wantNoList(t, fmt.Sprint(m), got, ok)
		}
	}
}

func TestTransposeOf(t *testing.T) {
	for _, c := range [][2]impl.Matrix{
		{matrix([]int{9}), matrix([]int{9})},
		{matrix([]int{1, 2}, []int{3, 4}), matrix([]int{1, 3}, []int{2, 4})},
		{matrix([]int{1, 2, 3}, []int{4, 5, 6}, []int{7, 8, 9}), matrix([]int{1, 4, 7}, []int{2, 5, 8}, []int{3, 6, 9})},
		{matrix([]int{1, impl.MaxEntry, 0, 0}, repeated(0, 4), repeated(0, 4), []int{-impl.MaxEntry, 0, 2, 0}), matrix([]int{1, 0, 0, -impl.MaxEntry}, []int{impl.MaxEntry, 0, 0, 0}, []int{0, 0, 0, 2}, repeated(0, 4))},
	} {
		got, ok := impl.TransposeOf(c[0])
		wantMatrix(t, fmt.Sprint(c[0]), got, ok, c[1])
	}
	for _, m := range notMatrices() {
		got, ok := impl.TransposeOf(m)
		wantNoMatrix(t, fmt.Sprint(m), got, ok)
	}
}

func TestDeterminantOf(t *testing.T) {
	for _, c := range []struct {
		m    impl.Matrix
		want int
	}{
		{matrix([]int{-7}), -7},
		{matrix([]int{1, 2}, []int{3, 4}), -2},
		{matrix([]int{2, 0, 1}, []int{1, 3, 2}, []int{1, 1, 4}), 18},
		{matrix([]int{0, 1, 0, 0}, []int{0, 0, 1, 0}, []int{0, 0, 0, 1}, []int{1, 0, 0, 0}), -1},
		{matrix([]int{0, 0, 1}, []int{1, 0, 0}, []int{0, 1, 0}), 1},
		{diagonal(1000, 1000, 1000, 1000), 1000000000000},
		{diagonal(-1000, 1000, 1000, 1000), -1000000000000},
		{diagonal(0, 5), 0},
	} {
		got, ok := impl.DeterminantOf(c.m)
		wantNumber(t, fmt.Sprint(c.m), got, ok, c.want)
	}
	for _, m := range append(notMatrices(),
		matrix([]int{1001}),
		matrix([]int{-1001}),
		diagonal(0, 1001),
		diagonal(0, 0, -1001),
		diagonal(0, 0, 0, impl.MaxEntry),
		matrix([]int{0, 1001}, []int{0, 0}),
	) {
		got, ok := impl.DeterminantOf(m)
		wantNoNumber(t, fmt.Sprint(m), got, ok)
	}
}

// leibniz is another way to the determinant: the sum over all orders of the columns.
func leibniz(rows [][]int) int {
	sum := 0
	var place func(row, sign, product int, used []bool)
	place = func(row, sign, product int, used []bool) {
		if row == len(rows) {
			sum += sign * product
			return
		}
		swaps := 0
		for column := len(rows) - 1; column >= 0; column-- {
			if used[column] {
				swaps++
				continue
			}
			used[column] = true
			place(row+1, sign*(1-swaps%2*2), product*rows[row][column], used)
			used[column] = false
		}
	}
	place(0, 1, 1, make([]bool, len(rows)))
	return sum
}

func someMatrix(source *rand.Rand, size, most int) impl.Matrix {
	rows := make([][]int, size)
	for i := range rows {
		rows[i] = make([]int, size)
		for j := range rows[i] {
			rows[i][j] = source.Intn(2*most+1) - most
		}
	}
	return matrix(rows...)
}

func TestDeterminantOfManyMatrices(t *testing.T) {
	source := rand.New(rand.NewSource(1))
	for round := range 400 {
		m := someMatrix(source, 1+round%4, 1000)
		got, ok := impl.DeterminantOf(m)
		wantNumber(t, fmt.Sprint(m), got, ok, leibniz(m.Rows))
	}
}

func TestInverseOf(t *testing.T) {
	for _, c := range [][2]impl.Matrix{
		{matrix([]int{1}), matrix([]int{1})},
		{matrix([]int{-1}), matrix([]int{-1})},
		{matrix([]int{2, 1}, []int{1, 1}), matrix([]int{1, -1}, []int{-1, 2})},
		{matrix([]int{1, 1}, []int{2, 1}), matrix([]int{-1, 1}, []int{2, -1})},
		{matrix([]int{1, 2, 3}, []int{0, 1, 4}, []int{5, 6, 0}), matrix([]int{-24, 18, 5}, []int{20, -15, -4}, []int{-5, 4, 1})},
		{matrix([]int{0, 1, 0, 0}, []int{0, 0, 1, 0}, []int{0, 0, 0, 1}, []int{1, 0, 0, 0}), matrix([]int{0, 0, 0, 1}, []int{1, 0, 0, 0}, []int{0, 1, 0, 0}, []int{0, 0, 1, 0})},
		{matrix([]int{1, 1000, 0}, []int{0, 1, 1000}, []int{0, 0, 1}), matrix([]int{1, -1000, impl.MaxEntry}, []int{0, 1, -1000}, []int{0, 0, 1})},
		{matrix([]int{1, 1000, 0}, []int{0, 1, -1000}, []int{0, 0, 1}), matrix([]int{1, -1000, -impl.MaxEntry}, []int{0, 1, 1000}, []int{0, 0, 1})},
	} {
		got, ok := impl.InverseOf(c[0])
		wantMatrix(t, fmt.Sprint(c[0]), got, ok, c[1])
	}
	for _, m := range append(notMatrices(),
		matrix([]int{0}),
		matrix([]int{2}),
		matrix([]int{-2}),
		matrix([]int{1, 2}, []int{2, 4}),
		diagonal(2, 1, 1),
		matrix([]int{1, 1001}, []int{0, 1}),
		matrix([]int{1, -1001}, []int{0, 1}),
		matrix([]int{1, 1000, -1}, []int{0, 1, 1000}, []int{0, 0, 1}),
		matrix([]int{1, 1000, 1}, []int{0, 1, -1000}, []int{0, 0, 1}),
	) {
		got, ok := impl.InverseOf(m)
		wantNoMatrix(t, fmt.Sprint(m), got, ok)
	}
}

// steps are matrices that add a row to another one, and turn two rows; their products have the determinant 1.
func steps(size int) []impl.Matrix {
	var made []impl.Matrix
	for i := range size {
		for j := range size {
			if i != j {
				m := unit(size)
				m.Rows[i][j] = 1 - 2*(j%2)
				made = append(made, m)
			}
		}
	}
	if size == 1 {
		made = append(made, matrix([]int{-1}))
	}
	return made
}

func TestInverseOfProducts(t *testing.T) {
	source := rand.New(rand.NewSource(2))
	found := 0
	for round := range 400 {
		size := 1 + round%4
		generators := steps(size)
		m := unit(size)
		for range source.Intn(12) {
			m, _ = impl.MultiplyMatrices(m, generators[source.Intn(len(generators))])
		}
		inverse, ok := impl.InverseOf(m)
		if !ok {
			t.Errorf("%v has no inverse", m)
			continue
		}
		found++
		left, ok := impl.MultiplyMatrices(inverse, m)
		wantMatrix(t, fmt.Sprint(m), left, ok, unit(size))
		right, ok := impl.MultiplyMatrices(m, inverse)
		wantMatrix(t, fmt.Sprint(m), right, ok, unit(size))
	}
	if found != 400 {
		t.Error(found)
	}
}

func TestTraceOf(t *testing.T) {
	for _, c := range []struct {
		m    impl.Matrix
		want int
	}{
		{matrix([]int{-4}), -4},
		{matrix([]int{1, 100}, []int{200, 2}), 3},
		{matrix([]int{1, 2, 3}, []int{4, 5, 6}, []int{7, 8, 9}), 15},
		{diagonal(repeated(impl.MaxEntry, 4)...), 4 * impl.MaxEntry},
		{diagonal(repeated(-impl.MaxEntry, 4)...), -4 * impl.MaxEntry},
	} {
		got, ok := impl.TraceOf(c.m)
		wantNumber(t, fmt.Sprint(c.m), got, ok, c.want)
	}
	for _, m := range notMatrices() {
		got, ok := impl.TraceOf(m)
		wantNoNumber(t, fmt.Sprint(m), got, ok)
	}
}

func TestIsSymmetric(t *testing.T) {
	for _, c := range []struct {
		m    impl.Matrix
		want bool
	}{
		{matrix([]int{5}), true},
		{matrix([]int{1, 2}, []int{2, 3}), true},
		{matrix([]int{1, 2}, []int{-2, 3}), false},
		{matrix([]int{1, impl.MaxEntry}, []int{impl.MaxEntry, 3}), true},
		{matrix([]int{1, 2, 3}, []int{2, 5, 6}, []int{3, 6, 9}), true},
		{matrix([]int{1, 2, 3}, []int{2, 5, 6}, []int{3, 7, 9}), false},
		{matrix([]int{1, 2, 3}, []int{2, 5, 6}, []int{4, 6, 9}), false},
		{matrix([]int{0, 0, 0, 1}, repeated(0, 4), repeated(0, 4), repeated(0, 4)), false},
		{matrix([]int{0, 0, 0, 1}, repeated(0, 4), repeated(0, 4), []int{1, 0, 0, 0}), true},
		{matrix(repeated(0, 4), repeated(0, 4), []int{0, 1, 0, 0}, repeated(0, 4)), false},
	} {
		got, ok := impl.IsSymmetric(c.m)
		wantAnswer(t, fmt.Sprint(c.m), got, ok, c.want)
	}
	for _, m := range notMatrices() {
		got, ok := impl.IsSymmetric(m)
		wantNoAnswer(t, fmt.Sprint(m), got, ok)
	}
}

// notSmallForms are invalid where a form with numbers in -1000..1000 is required.
func notSmallForms() []impl.Matrix {
	return append(notMatrices(),
		matrix([]int{1001}),
		matrix([]int{-1001}),
		diagonal(0, 1001),
		diagonal(0, 0, 0, -1001),
		matrix([]int{0, 1001}, []int{1001, 0}),
		matrix([]int{1, 2}, []int{3, 4}),
		matrix([]int{0, 0, 1}, []int{0, 0, 0}, []int{-1, 0, 0}),
		matrix(repeated(0, 4), []int{0, 0, 0, 1}, repeated(0, 4), repeated(0, 4)),
	)
}

// notVectors are invalid for each of the sizes 1..4.
func notVectors(size int) [][]int {
	made := [][]int{nil, repeated(1, size-1), repeated(1, size+1)}
	for _, number := range []int{impl.MaxEntry + 1, -impl.MaxEntry - 1, math.MaxInt, math.MinInt} {
		v := repeated(0, size)
		v[size-1] = number
		made = append(made, v)
	}
	return made
}

func TestFormAt(t *testing.T) {
	for _, c := range []struct {
		form impl.Matrix
		v    []int
		want int
	}{
		{diagonal(1, -1), []int{5, 3}, 16},
		{matrix([]int{-3}), []int{4}, -48},
		{matrix([]int{1, 2}, []int{2, 5}), []int{3, -1}, 2},
		{matrix([]int{1, 2, 3}, []int{2, 4, 5}, []int{3, 5, 6}), []int{1, 2, -1}, 5},
		{matrix([]int{1000}), []int{impl.MaxEntry}, 1000000000000000},
		{diagonal(-1000, -1000, -1000, -1000), repeated(-impl.MaxEntry, 4), -4000000000000000},
		{matrix(repeated(1000, 4), repeated(1000, 4), repeated(1000, 4), repeated(1000, 4)), repeated(impl.MaxEntry, 4), 16000000000000000},
		{diagonal(1, 1), []int{0, 0}, 0},
	} {
		got, ok := impl.FormAt(c.form, c.v)
		wantNumber(t, fmt.Sprint(c.form, c.v), got, ok, c.want)
	}
	for _, form := range notSmallForms() {
		for size := range 6 {
			got, ok := impl.FormAt(form, repeated(0, size))
			wantNoNumber(t, fmt.Sprint(form), got, ok)
		}
	}
	for size := 1; size <= 4; size++ {
		for _, v := range notVectors(size) {
			got, ok := impl.FormAt(unit(size), v)
			wantNoNumber(t, fmt.Sprint(v), got, ok)
		}
	}
}

func TestProductAt(t *testing.T) {
	for _, c := range []struct {
		form impl.Matrix
		v, w []int
		want int
	}{
		{diagonal(1, -1), []int{5, 3}, []int{2, 4}, -2},
		{matrix([]int{-3}), []int{4}, []int{5}, -60},
		{matrix([]int{1, 2}, []int{2, 5}), []int{3, -1}, []int{1, 10}, 11},
		{matrix([]int{1, 2, 3}, []int{2, 4, 5}, []int{3, 5, 6}), []int{1, 0, 0}, []int{0, 0, 1}, 3},
		{matrix(repeated(1000, 4), repeated(1000, 4), repeated(1000, 4), repeated(1000, 4)), repeated(impl.MaxEntry, 4), repeated(-impl.MaxEntry, 4), -16000000000000000},
	} {
		got, ok := impl.ProductAt(c.form, c.v, c.w)
		wantNumber(t, fmt.Sprint(c.form, c.v, c.w), got, ok, c.want)
	}
	for _, form := range notSmallForms() {
		for size := range 6 {
			got, ok := impl.ProductAt(form, repeated(0, size), repeated(0, size))
			wantNoNumber(t, fmt.Sprint(form), got, ok)
		}
	}
	for size := 1; size <= 4; size++ {
		for _, v := range notVectors(size) {
			got, ok := impl.ProductAt(unit(size), v, repeated(1, size))
			wantNoNumber(t, fmt.Sprint(v), got, ok)
			got, ok = impl.ProductAt(unit(size), repeated(1, size), v)
			wantNoNumber(t, fmt.Sprint(v), got, ok)
		}
	}
}

func TestKeepsForm(t *testing.T) {
	for _, c := range []struct {
		m, form impl.Matrix
		want    bool
	}{
		{matrix([]int{-1}), matrix([]int{1000}), true},
		{matrix([]int{2}), matrix([]int{1}), false},
		{matrix([]int{30000}), matrix([]int{0}), true},
		{matrix([]int{-30000}), matrix([]int{-1000}), false},
		{matrix([]int{0, 1}, []int{1, 0}), diagonal(1, 1), true},
		{matrix([]int{0, 1}, []int{1, 0}), diagonal(1, -1), false},
		{matrix([]int{1, 30000}, []int{0, 1}), diagonal(0, 1000), true},
		// The transpose in the place of the matrix would tell the opposite.
		{matrix([]int{1, 0}, []int{30000, 1}), diagonal(0, 1000), false},
		{matrix([]int{1, 0}, []int{-30000, 1}), diagonal(1000, 0), true},
		// Numbers on the way are greater than MaxEntry.
		{matrix([]int{3363, 2378}, []int{4756, 3363}), diagonal(1000, -500), true},
		{matrix([]int{3363, 2378}, []int{4756, 3362}), diagonal(1000, -500), false},
		{matrix([]int{1, -2, 2}, []int{2, -1, 2}, []int{2, -2, 3}), diagonal(1, 1, -1), true},
		{matrix([]int{1, 2, 2}, []int{2, 1, 2}, []int{2, 2, 3}), diagonal(1, 1, -1), true},
		{matrix([]int{1, 2, 2}, []int{2, 1, 2}, []int{2, 2, 4}), diagonal(1, 1, -1), false},
		{matrix([]int{-1, 2, 2, 2}, []int{0, 1, 0, 0}, []int{0, 0, 1, 0}, []int{0, 0, 0, 1}), matrix([]int{-1, 1, 1, 1}, []int{1, -1, 1, 1}, []int{1, 1, -1, 1}, []int{1, 1, 1, -1}), true},
		{diagonal(1, 1, 1, -1), matrix([]int{-1, 1, 1, 1}, []int{1, -1, 1, 1}, []int{1, 1, -1, 1}, []int{1, 1, 1, -1}), false},
		{diagonal(1, 1, 1, -1), diagonal(1, 1, 1, 1), true},
	} {
		got, ok := impl.KeepsForm(c.m, c.form)
		wantAnswer(t, fmt.Sprint(c.m, c.form), got, ok, c.want)
	}
	for _, m := range append(notMatrices(), matrix([]int{30001}), matrix([]int{-30001}), diagonal(1, 1, 1, 30001), matrix([]int{1, -30001}, []int{0, 1})) {
		for size := 1; size <= 4; size++ {
			got, ok := impl.KeepsForm(m, diagonal(repeated(0, size)...))
			wantNoAnswer(t, fmt.Sprint(m), got, ok)
		}
	}
	for _, form := range notSmallForms() {
		for size := 1; size <= 4; size++ {
			got, ok := impl.KeepsForm(unit(size), form)
			wantNoAnswer(t, fmt.Sprint(form), got, ok)
		}
	}
	for size := 1; size <= 3; size++ {
		got, ok := impl.KeepsForm(unit(size), unit(size+1))
		wantNoAnswer(t, fmt.Sprint(size), got, ok)
		got, ok = impl.KeepsForm(unit(size+1), unit(size))
		wantNoAnswer(t, fmt.Sprint(size), got, ok)
	}
}

func TestReflectionOf(t *testing.T) {
	for _, c := range []struct {
		form impl.Matrix
		v    []int
		want impl.Matrix
	}{
		{diagonal(1, -1), []int{0, 1}, diagonal(1, -1)},
		{diagonal(1, -1), []int{1, 0}, diagonal(-1, 1)},
		{matrix([]int{-1000}), []int{impl.MaxEntry}, matrix([]int{-1})},
		// Only the quotient has to be whole.
		{diagonal(1, 1), []int{2, 2}, matrix([]int{0, -1}, []int{-1, 0})},
		{diagonal(1, 1), []int{1, -1}, matrix([]int{0, 1}, []int{1, 0})},
		{diagonal(1, -2), []int{1, 1}, matrix([]int{3, -4}, []int{2, -3})},
		{diagonal(1, -2), []int{3, 2}, matrix([]int{-17, 24}, []int{-12, 17})},
		{matrix([]int{2, -1, 0}, []int{-1, 2, -1}, []int{0, -1, 2}), []int{0, 1, 0}, matrix([]int{1, 0, 0}, []int{1, -1, 1}, []int{0, 0, 1})},
		{diagonal(-1, 1, 1, 1), []int{1, 1, 1, 1}, matrix([]int{2, -1, -1, -1}, []int{1, 0, -1, -1}, []int{1, -1, 0, -1}, []int{1, -1, -1, 0})},
		{matrix([]int{0, 0, 2}, []int{0, 1, 0}, []int{2, 0, 0}), []int{500, 1, 0}, matrix([]int{1, -1000, -impl.MaxEntry}, []int{0, -1, -2000}, []int{0, 0, 1})},
		{matrix([]int{0, 0, 2}, []int{0, -1, 0}, []int{2, 0, 0}), []int{500, 1, 0}, matrix([]int{1, -1000, impl.MaxEntry}, []int{0, -1, 2000}, []int{0, 0, 1})},
	} {
		got, ok := impl.ReflectionOf(c.form, c.v)
		wantMatrix(t, fmt.Sprint(c.form, c.v), got, ok, c.want)
	}
	for _, c := range []struct {
		form impl.Matrix
		v    []int
	}{
		{diagonal(1, -1), []int{1, 1}},
		{diagonal(0), []int{3}},
		{diagonal(1, 1), []int{0, 0}},
		{diagonal(1, 1), []int{1, 2}},
		{diagonal(1, 1, 1), []int{1, 1, 1}},
		{diagonal(1, 1, 1, 1), []int{1, 1, 1, 1}},
		{diagonal(1, -1), []int{3, 1}},
		{diagonal(1, -2, 3), []int{1, 0, 1}},
		// Numbers of the result would be too great.
		{matrix([]int{0, 0, 2}, []int{0, 1, 1}, []int{2, 1, 0}), []int{500, 1, 0}},
		{matrix([]int{0, 0, 2}, []int{0, -1, 1}, []int{2, 1, 0}), []int{500, 1, 0}},
		{diagonal(1, -2), []int{1393, 985}},
		{diagonal(-1, 2), []int{1393, 985}},
	} {
		got, ok := impl.ReflectionOf(c.form, c.v)
		wantNoMatrix(t, fmt.Sprint(c.form, c.v), got, ok)
	}
	for _, form := range notSmallForms() {
		for size := range 6 {
			got, ok := impl.ReflectionOf(form, repeated(1, size))
			wantNoMatrix(t, fmt.Sprint(form), got, ok)
		}
	}
	for size := 1; size <= 4; size++ {
		for _, v := range notVectors(size) {
			got, ok := impl.ReflectionOf(unit(size), v)
			wantNoMatrix(t, fmt.Sprint(v), got, ok)
		}
	}
}

func TestWordMatrix(t *testing.T) {
	left := matrix([]int{1, 1}, []int{0, 1})
	right := matrix([]int{1, 0}, []int{1, 1})
	eight := []impl.Matrix{left, right, left, left, left, left, left, matrix([]int{0, 1}, []int{1, 0})}
	for _, c := range []struct {
		generators []impl.Matrix
		word       []int
		want       impl.Matrix
	}{
		{[]impl.Matrix{left, right}, nil, unit(2)},
		{[]impl.Matrix{left, right}, []int{}, unit(2)},
		{[]impl.Matrix{matrix([]int{5})}, nil, unit(1)},
		{[]impl.Matrix{diagonal(2, 3, 4, 5)}, nil, unit(4)},
		{[]impl.Matrix{left, right}, []int{0}, left},
		{[]impl.Matrix{left, right}, []int{0, 1}, matrix([]int{2, 1}, []int{1, 1})},
		{[]impl.Matrix{left, right}, []int{1, 0}, matrix([]int{1, 1}, []int{1, 2})},
		{[]impl.Matrix{left, right}, []int{0, 0, 1}, matrix([]int{3, 2}, []int{1, 1})},
		{eight, []int{7}, eight[7]},
		{[]impl.Matrix{left}, repeated(0, impl.MaxWord), matrix([]int{1, impl.MaxWord}, []int{0, 1})},
		{[]impl.Matrix{matrix([]int{1000})}, []int{0, 0}, matrix([]int{impl.MaxEntry})},
	} {
		got, ok := impl.WordMatrix(c.generators, c.word)
		wantMatrix(t, fmt.Sprint(c.generators, c.word), got, ok, c.want)
	}
	for _, c := range []struct {
		generators []impl.Matrix
		word       []int
	}{
		{nil, nil},
		{[]impl.Matrix{}, []int{}},
		{append(eight, left), nil},
		{[]impl.Matrix{left, unit(1)}, []int{0}},
		{[]impl.Matrix{unit(3), left}, nil},
		{[]impl.Matrix{left, right}, []int{2}},
		{[]impl.Matrix{left, right}, []int{0, -1}},
		{[]impl.Matrix{left, right}, []int{math.MinInt}},
		{[]impl.Matrix{left}, repeated(0, impl.MaxWord+1)},
		{[]impl.Matrix{matrix([]int{1000})}, []int{0, 0, 0}},
		// A product on the way is no matrix, though the whole one would be.
		{[]impl.Matrix{matrix([]int{1001}), matrix([]int{0})}, []int{0, 0, 1}},
	} {
		got, ok := impl.WordMatrix(c.generators, c.word)
		wantNoMatrix(t, fmt.Sprint(c.generators, c.word), got, ok)
	}
	for _, m := range notMatrices() {
		got, ok := impl.WordMatrix([]impl.Matrix{m}, nil)
		wantNoMatrix(t, fmt.Sprint(m), got, ok)
		for size := 1; size <= 4; size++ {
			got, ok = impl.WordMatrix([]impl.Matrix{unit(size), m}, []int{0})
			wantNoMatrix(t, fmt.Sprint(m), got, ok)
		}
	}
}

func TestRootOf(t *testing.T) {
	for _, c := range [][2]int{
		{0, 0}, {1, 1}, {2, 1}, {3, 1}, {4, 2}, {8, 2}, {9, 3}, {24, 4}, {25, 5},
		{999999999999999999, 999999999},
		{1000000000000000000, 1000000000},
		{999999998000000001, 999999999},
		{999999998000000000, 999999998},
	} {
		got, ok := impl.RootOf(c[0])
		wantNumber(t, fmt.Sprint(c[0]), got, ok, c[1])
	}
	for root := 1; root < 1000000000; root = root*3/2 + 1 {
		for _, c := range [][2]int{{root*root - 1, root - 1}, {root * root, root}, {root*root + 2*root, root}} {
			got, ok := impl.RootOf(c[0])
			wantNumber(t, fmt.Sprint(c[0]), got, ok, c[1])
		}
	}
	for _, n := range []int{-1, -4, 1000000000000000001, math.MaxInt, math.MinInt} {
		got, ok := impl.RootOf(n)
		wantNoNumber(t, fmt.Sprint(n), got, ok)
	}
}

func TestDivisorOf(t *testing.T) {
	for _, c := range []struct {
		list []int
		want int
	}{
		{nil, 0},
		{[]int{}, 0},
		{[]int{0}, 0},
		{[]int{0, 0, 0}, 0},
		{[]int{0, 6}, 6},
		{[]int{6, 0}, 6},
		{[]int{-6}, 6},
		{[]int{0, -6}, 6},
		{[]int{12, -18}, 6},
		{[]int{-12, 18, 27}, 3},
		{[]int{6, 10, 15}, 1},
		{[]int{impl.MaxNumber}, impl.MaxNumber},
		{[]int{-impl.MaxNumber, 0}, impl.MaxNumber},
		{[]int{impl.MaxNumber, -impl.MaxNumber + 1}, 1},
		{repeated(14, 40), 14},
	} {
		got, ok := impl.DivisorOf(c.list)
		wantNumber(t, fmt.Sprint(c.list), got, ok, c.want)
	}
	for _, list := range [][]int{
		{impl.MaxNumber + 1},
		{-impl.MaxNumber - 1},
		{1, 1, math.MinInt},
		{math.MaxInt, 1},
		repeated(0, 41),
	} {
		got, ok := impl.DivisorOf(list)
		wantNoNumber(t, fmt.Sprint(list), got, ok)
	}
}

func someForm(source *rand.Rand, size, most int) impl.Matrix {
	form := someMatrix(source, size, most)
	for i := range size {
		for j := range i {
			form.Rows[i][j] = form.Rows[j][i]
		}
	}
	return form
}

func someVector(source *rand.Rand, size, most int) []int {
	return someMatrix(source, size, most).Rows[0][:size:size]
}

// keepsAllProducts moves pairs of vectors, and also all unit vectors, as these tell all products.
func keepsAllProducts(source *rand.Rand, m, form impl.Matrix) bool {
	size := len(form.Rows)
	vectors := append(unit(size).Rows, someVector(source, size, 9), someVector(source, size, 9))
	for _, v := range vectors {
		for _, w := range vectors {
			movedV, okV := impl.ApplyMatrix(m, v)
			movedW, okW := impl.ApplyMatrix(m, w)
			before, okBefore := impl.ProductAt(form, v, w)
			after, okAfter := impl.ProductAt(form, movedV, movedW)
			if !okV || !okW || !okBefore || !okAfter || before != after {
				return false
			}
		}
	}
	return true
}

func TestPromise1ReflectionsKeepFormsAndUndoThemselves(t *testing.T) {
	source := rand.New(rand.NewSource(3))
	found := 0
	for round := range 20000 {
		size := 1 + round%4
		form := someForm(source, size, 3)
		v := someVector(source, size, 2)
		reflection, ok := impl.ReflectionOf(form, v)
		if value, _ := impl.FormAt(form, v); value == 0 {
			wantNoMatrix(t, fmt.Sprint(form, v), reflection, ok)
			continue
		}
		if !ok {
			continue
		}
		found++
		twice, ok := impl.MultiplyMatrices(reflection, reflection)
		wantMatrix(t, fmt.Sprint(form, v), twice, ok, unit(size))
		keeps, ok := impl.KeepsForm(reflection, form)
		wantAnswer(t, fmt.Sprint(form, v), keeps, ok, true)
		if !keepsAllProducts(source, reflection, form) {
			t.Errorf("the reflection of %v and %v does not keep all products", form, v)
		}
		turned := make([]int, size)
		for i := range v {
			turned[i] = -v[i]
		}
		got, ok := impl.ApplyMatrix(reflection, v)
		wantList(t, fmt.Sprint(form, v), got, ok, turned)
		determinant, ok := impl.DeterminantOf(reflection)
		wantNumber(t, fmt.Sprint(form, v), determinant, ok, -1)
	}
	if found < 2000 {
		t.Error("too few reflections:", found)
	}
}

// TestReflectionOfIsWholeOrFails holds each failure against the fractions themselves.
func TestReflectionOfIsWholeOrFails(t *testing.T) {
	source := rand.New(rand.NewSource(4))
	for round := range 4000 {
		size := 1 + round%4
		form := someForm(source, size, 4)
		v := someVector(source, size, 3)
		value, _ := impl.FormAt(form, v)
		whole := value != 0
		want := unit(size)
		for j := range size {
			product, _ := impl.ProductAt(form, unit(size).Rows[j], v)
			for i := range size {
				if whole && 2*v[i]*product%value != 0 {
					whole = false
				}
				if whole {
					want.Rows[i][j] -= 2 * v[i] * product / value
				}
			}
		}
		got, ok := impl.ReflectionOf(form, v)
		if whole {
			wantMatrix(t, fmt.Sprint(form, v), got, ok, want)
		} else {
			wantNoMatrix(t, fmt.Sprint(form, v), got, ok)
		}
	}
}

func TestPromise1MatricesThatKeepAFormKeepAllProducts(t *testing.T) {
	source := rand.New(rand.NewSource(5))
	count := map[bool]int{}
	for round := range 20000 {
		size := 1 + round%3
		form := someForm(source, size, 1)
		m := someMatrix(source, size, 1)
		keeps, ok := impl.KeepsForm(m, form)
		wantAnswer(t, fmt.Sprint(m, form), keeps, ok, keepsAllProducts(source, m, form))
		count[keeps]++
	}
	if count[true] < 300 || count[false] < 300 {
		t.Error("too few of one kind:", count)
	}
}

func TestPromise1WordsOfReflectionsKeepTheForm(t *testing.T) {
	form := matrix([]int{2, -1, 0, 0}, []int{-1, 2, -1, 0}, []int{0, -1, 2, -1}, []int{0, 0, -1, 2})
	var generators []impl.Matrix
	for _, v := range unit(4).Rows {
		reflection, ok := impl.ReflectionOf(form, v)
		if !ok {
			t.Fatal("no reflection of", v)
		}
		generators = append(generators, reflection)
	}
	source := rand.New(rand.NewSource(6))
	for length := range impl.MaxWord + 1 {
		word := make([]int, length)
		back := make([]int, length)
		for i := range word {
			word[i] = source.Intn(4)
			back[length-1-i] = word[i]
		}
		m, ok := impl.WordMatrix(generators, word)
		if !ok {
			t.Fatal("no matrix of", word)
		}
		keeps, ok := impl.KeepsForm(m, form)
		wantAnswer(t, fmt.Sprint(word), keeps, ok, true)
		inverse, ok := impl.InverseOf(m)
		undone, undoneOk := impl.WordMatrix(generators, back)
		wantMatrix(t, fmt.Sprint(back), undone, undoneOk && ok, inverse)
	}
}

// argumentsOfChapter1 are matrices and lists of each kind, valid and invalid, for calls in all combinations.
func argumentsOfChapter1() ([]impl.Matrix, [][]int) {
	matrices := append(notSmallForms(),
		matrix([]int{1}),
		matrix([]int{-1}),
		matrix([]int{impl.MaxEntry}),
		matrix([]int{0, 1}, []int{1, 0}),
		matrix([]int{2, 1}, []int{1, 1}),
		diagonal(1, -1),
		matrix([]int{1, 2, 3}, []int{0, 1, 4}, []int{5, 6, 0}),
		diagonal(1, 1, -1),
		unit(4),
		matrix(repeated(1000, 4), repeated(1000, 4), repeated(1000, 4), repeated(1000, 4)),
		matrix(repeated(impl.MaxEntry, 4), repeated(impl.MaxEntry, 4), repeated(impl.MaxEntry, 4), repeated(impl.MaxEntry, 4)),
		matrix(repeated(math.MinInt, 4), repeated(math.MaxInt, 4), repeated(1, 4), repeated(1, 4)),
	)
	lists := [][]int{
		nil, {}, {0}, {1}, {2}, {-1}, {0, 0}, {0, 1}, {1, 1}, {5, 3}, {0, 0, 1}, {3, 4, 5}, {0, 1, 0, 1}, {1, 1, 1, 1}, {1, 2, 3, 4, 5},
		repeated(impl.MaxEntry, 1), repeated(impl.MaxEntry, 2), repeated(-impl.MaxEntry, 3), repeated(impl.MaxEntry, 4),
		{impl.MaxNumber + 1}, {math.MinInt}, {math.MaxInt, math.MinInt}, {math.MinInt, 0, 0}, repeated(math.MaxInt, 4),
		repeated(0, 40), repeated(0, 41), repeated(1, 100),
	}
	return matrices, lists
}

func TestPromise11OfMatrices(t *testing.T) {
	matrices, lists := argumentsOfChapter1()
	for _, m := range matrices {
		checkTotal(t, "TransposeOf", impl.TransposeOf, m)
		checkTotal(t, "DeterminantOf", impl.DeterminantOf, m)
		checkTotal(t, "InverseOf", impl.InverseOf, m)
		checkTotal(t, "TraceOf", impl.TraceOf, m)
		checkTotal(t, "IsSymmetric", impl.IsSymmetric, m)
		for _, n := range matrices {
			checkTotal(t, "MultiplyMatrices", impl.MultiplyMatrices, m, n)
			checkTotal(t, "KeepsForm", impl.KeepsForm, m, n)
			checkTotal(t, "WordMatrix", impl.WordMatrix, []impl.Matrix{m, n}, []int{0, 1, 1})
		}
		for _, v := range lists {
			checkTotal(t, "ApplyMatrix", impl.ApplyMatrix, m, v)
			checkTotal(t, "FormAt", impl.FormAt, m, v)
			checkTotal(t, "ReflectionOf", impl.ReflectionOf, m, v)
			checkTotal(t, "WordMatrix", impl.WordMatrix, []impl.Matrix{m}, v)
			checkTotal(t, "WordMatrix", impl.WordMatrix, []impl.Matrix{m, m, m, m, m, m, m, m, m}, v)
			for _, w := range lists {
				checkTotal(t, "ProductAt", impl.ProductAt, m, v, w)
			}
		}
	}
}

func TestPromise11OfNumbersAndLists(t *testing.T) {
	_, lists := argumentsOfChapter1()
	for _, list := range lists {
		checkTotal(t, "DivisorOf", impl.DivisorOf, list)
		checkTotal(t, "WordMatrix", impl.WordMatrix, []impl.Matrix(nil), list)
	}
	for _, n := range []int{math.MinInt, -1, 0, 1, 2, 3, 4, 5, 1000000000000000000, 1000000000000000001, math.MaxInt} {
		checkTotal(t, "UnitMatrix", impl.UnitMatrix, n)
		checkTotal(t, "RootOf", impl.RootOf, n)
	}
}

// TestPromise11OfIsMatrix stands alone, as a false one is the whole result of IsMatrix.
func TestPromise11OfIsMatrix(t *testing.T) {
	matrices, _ := argumentsOfChapter1()
	for _, m := range matrices {
		checkTotal(t, "IsMatrix", impl.IsMatrix, m)
	}
}

// TestPromise11OfSharedArguments gives one slice in two places of a call.
func TestPromise11OfSharedArguments(t *testing.T) {
	row := []int{1, 1}
	m := matrix(row, row)
	got, ok := impl.MultiplyMatrices(m, m)
	wantMatrix(t, "shared rows", got, ok, matrix([]int{2, 2}, []int{2, 2}))
	transposed, ok := impl.TransposeOf(m)
	wantMatrix(t, "shared rows", transposed, ok, matrix([]int{1, 1}, []int{1, 1}))
	transposed.Rows[0][0] = 9
	got.Rows[0][0] = 9
	if transposed.Rows[1][0] != 1 || got.Rows[1][0] != 2 || row[0] != 1 {
		t.Error("memory is shared:", transposed, got, row)
	}
	again, ok := impl.UnitMatrix(2)
	wantMatrix(t, "unit", again, ok, unit(2))
	empty, ok := impl.WordMatrix([]impl.Matrix{again}, nil)
	wantMatrix(t, "empty word", empty, ok, unit(2))
	one, ok := impl.WordMatrix([]impl.Matrix{again}, []int{0})
	wantMatrix(t, "one letter", one, ok, unit(2))
	one.Rows[0][0], empty.Rows[0][0] = 9, 9
	wantMatrix(t, "generator", again, true, unit(2))
}
