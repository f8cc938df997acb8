package sched

import (
	"cmp"
	"iter"
	"slices"
)

// row is a thing and its number.
type row[T any] struct {
	number int
	thing  T
}

// numbered holds things by their numbers. Its rows are kept in ascending order, so that whoever ranges over them need not sort.
type numbered[T any] struct {
	rows []row[T]
}

// place is where the row of a number is, or belongs.
func (l *numbered[T]) place(number int) (int, bool) {
	return slices.BinarySearchFunc(l.rows, number, func(r row[T], n int) int {
		return cmp.Compare(r.number, n)
	})
}

// find is the thing with that number, or nil; it stays there until the next put or remove.
func (l *numbered[T]) find(number int) *T {
	i, ok := l.place(number)
	if !ok {
		return nil
	}
	return &l.rows[i].thing
}

// put adds a thing whose number no other one has.
func (l *numbered[T]) put(number int, thing T) {
	i, _ := l.place(number)
	l.rows = slices.Insert(l.rows, i, row[T]{number, thing})
}

// remove takes out the thing with that number.
func (l *numbered[T]) remove(number int) {
	if i, ok := l.place(number); ok {
		l.rows = slices.Delete(l.rows, i, i+1)
	}
}

// all visits the numbers and their things, in ascending order.
func (l *numbered[T]) all() iter.Seq2[int, *T] {
	return func(yield func(int, *T) bool) {
		for i := range l.rows {
			if !yield(l.rows[i].number, &l.rows[i].thing) {
				return
			}
		}
	}
}
