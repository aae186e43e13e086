package tests

import (
	"reflect"
	"testing"

	"loop.example/g01122/impl"
)

// spareMark fills the spare capacity of arguments, so that a read or a write behind their length shows.
const spareMark = 7

func matrix(rows ...[]int) impl.Matrix { return impl.Matrix{Rows: rows} }

func repeated(number, count int) []int {
	list := make([]int, count)
	for i := range list {
		list[i] = number
	}
	return list
}

func diagonal(numbers ...int) impl.Matrix {
	rows := make([][]int, len(numbers))
	for i, number := range numbers {
		rows[i] = make([]int, len(numbers))
		rows[i][i] = number
	}
	return matrix(rows...)
}

// argument returns a copy in new memory; each slice that is not nil has marked spare capacity.
func argument[T any](value T) T {
	return withSpare(reflect.ValueOf(value)).Interface().(T)
}

func withSpare(value reflect.Value) reflect.Value {
	switch value.Kind() {
	case reflect.Slice:
		if value.IsNil() {
			return value
		}
		length := value.Len()
		full := reflect.MakeSlice(value.Type(), length+2, length+2)
		for i := range length {
			full.Index(i).Set(withSpare(value.Index(i)))
		}
		for i := length; i < length+2; i++ {
			full.Index(i).Set(marked(value.Type().Elem()))
		}
		return full.Slice(0, length)
	case reflect.Struct:
		made := reflect.New(value.Type()).Elem()
		for i := range value.NumField() {
			made.Field(i).Set(withSpare(value.Field(i)))
		}
		return made
	}
	return value
}

func marked(kind reflect.Type) reflect.Value {
	made := reflect.New(kind).Elem()
	switch kind.Kind() {
	case reflect.Int:
		made.SetInt(spareMark)
	case reflect.Slice:
		made.Set(reflect.Append(made, marked(kind.Elem())))
	case reflect.Struct:
		for i := range kind.NumField() {
			made.Field(i).Set(marked(kind.Field(i).Type))
		}
	}
	return made
}

// image copies a value with what lies in the spare capacity of its slices.
func image(value any) any {
	return imageOf(reflect.ValueOf(value)).Interface()
}

func imageOf(value reflect.Value) reflect.Value {
	switch value.Kind() {
	case reflect.Slice:
		if value.IsNil() {
			return value
		}
		full := value.Slice3(0, value.Cap(), value.Cap())
		made := reflect.MakeSlice(value.Type(), full.Len(), full.Len())
		for i := range full.Len() {
			made.Index(i).Set(imageOf(full.Index(i)))
		}
		return made
	case reflect.Struct:
		made := reflect.New(value.Type()).Elem()
		for i := range value.NumField() {
			made.Field(i).Set(imageOf(value.Field(i)))
		}
		return made
	}
	return value
}

// placesIn returns where the numbers in the slices of a value lie, up to their capacity.
func placesIn(value reflect.Value) []*int {
	var found []*int
	switch value.Kind() {
	case reflect.Slice:
		full := value.Slice3(0, value.Cap(), value.Cap())
		for i := range full.Len() {
			found = append(found, placesIn(full.Index(i))...)
		}
	case reflect.Struct:
		for i := range value.NumField() {
			found = append(found, placesIn(value.Field(i))...)
		}
	case reflect.Int:
		// A number that lies in no slice has no place that it could share.
		if value.CanAddr() {
			found = append(found, value.Addr().Interface().(*int))
		}
	}
	return found
}

// scribble writes another number to each place of each slice of a result, and reports whether no two of them share a place.
func scribble(results []any) bool {
	apart := true
	next := 1000001
	for _, result := range results {
		places := placesIn(reflect.ValueOf(result))
		first := next
		for _, place := range places {
			*place = next
			next++
		}
		for i, place := range places {
			apart = apart && *place == first+i
		}
	}
	return apart
}

// isZero takes an empty slice for a nil one.
func isZero(value any) bool {
	v := reflect.ValueOf(value)
	switch v.Kind() {
	case reflect.Slice:
		return v.Len() == 0
	case reflect.Struct:
		for i := range v.NumField() {
			if !isZero(v.Field(i).Interface()) {
				return false
			}
		}
		return true
	}
	return v.IsZero()
}

func callSafely(t *testing.T, name string, function any, arguments []any) []any {
	t.Helper()
	defer func() {
		if problem := recover(); problem != nil {
			t.Errorf("%s%v panics: %v", name, arguments, problem)
		}
	}()
	in := make([]reflect.Value, len(arguments))
	for i, a := range arguments {
		in[i] = reflect.ValueOf(a)
	}
	var out []any
	for _, result := range reflect.ValueOf(function).Call(in) {
		out = append(out, result.Interface())
	}
	return out
}

// checkTotal calls a function of the program and checks what holds for each call: no panic, arguments and their spare capacity as they were, results in new memory, zero values beside a false one, and the same results the next time.
func checkTotal(t *testing.T, name string, function any, arguments ...any) {
	t.Helper()
	given := make([]any, len(arguments))
	before := make([]any, len(arguments))
	for i, a := range arguments {
		given[i] = argument(a)
		before[i] = image(given[i])
	}
	results := callSafely(t, name, function, given)
	if results == nil {
		return
	}
	told := make([]any, len(results))
	for i, result := range results {
		told[i] = image(argument(result))
	}
	last := len(results) - 1
	if results[last] == false {
		for _, result := range results[:last] {
			if !isZero(result) {
				t.Errorf("%s%v fails with %v", name, arguments, result)
			}
		}
	}
	if !scribble(results) {
		t.Errorf("%s%v: slices of the result share memory", name, arguments)
	}
	for i := range given {
		if !reflect.DeepEqual(before[i], image(given[i])) {
			t.Errorf("%s%v: argument %d is changed, or is shared with a result", name, arguments, i)
		}
	}
	// The next call has arguments without spare capacity: what lies there must not tell.
	again := callSafely(t, name, function, arguments)
	for i := range again {
		if !reflect.DeepEqual(told[i], image(argument(again[i]))) {
			t.Errorf("%s%v: result %d is %v the next time", name, arguments, i, again[i])
		}
	}
}
