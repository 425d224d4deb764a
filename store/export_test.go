package store

import (
	"coupon/heap"
	"coupon/pool"
	"coupon/tree"
)

// Parts are what a store stands on, for tests that look at its pages, or break them.
func (s *Store) Parts() (*pool.Pool, *heap.Heap, *tree.Tree) { return s.pool, s.heap, s.tree }
