package parse

import (
	"iter"
	"slices"

	"keysmith/api"
)

// rows tells statements, those in others behind these, each with how many it stands in. What is left of each body is kept in a list: bodies that are handed in may stand in one another deeper than calls can go.
func rows(l []api.Stmt) iter.Seq2[int, *api.Stmt] {
	return func(yield func(int, *api.Stmt) bool) {
		left := [][]api.Stmt{l}
		for len(left) > 0 {
			deep := len(left) - 1
			if len(left[deep]) == 0 {
				left = left[:deep]
				continue
			}
			s := &left[deep][0]
			left[deep] = left[deep][1:]
			if !yield(deep, s) {
				return
			}
			left = append(left, s.Body)
		}
	}
}

func sameProcedures(a, b *api.Proc) bool {
	return a.Name == b.Name && slices.Equal(a.Lens, b.Lens) && slices.EqualFunc(a.Params, b.Params, sameParams) &&
		slices.Equal(a.Requires, b.Requires) && slices.Equal(a.Ensures, b.Ensures) && sameBodies(a.Body, b.Body)
}

func sameParams(a, b api.Param) bool {
	return a.Mode == b.Mode && a.Name == b.Name && sameLengths(a.Len, b.Len)
}

func sameLengths(a, b api.Len) bool {
	return a.Const == b.Const && slices.Equal(a.Terms, b.Terms)
}

func sameExpressions(a, b api.Expr) bool {
	return a.Op == b.Op && slices.Equal(a.Args, b.Args)
}

// sameBodies goes through both at once, with a list of bodies that are left, as rows does.
func sameBodies(a, b []api.Stmt) bool {
	left := [][2][]api.Stmt{{a, b}}
	for len(left) > 0 {
		a, b := left[len(left)-1][0], left[len(left)-1][1]
		left = left[:len(left)-1]
		if len(a) != len(b) {
			return false
		}
		for i := range a {
			if !sameButBodies(&a[i], &b[i]) {
				return false
			}
			if len(a[i].Body) > 0 || len(b[i].Body) > 0 {
				left = append(left, [2][]api.Stmt{a[i].Body, b[i].Body})
			}
		}
	}
	return true
}

func sameButBodies(a, b *api.Stmt) bool {
	return a.Kind == b.Kind && a.Name == b.Name && sameLengths(a.Len, b.Len) && sameExpressions(a.Expr, b.Expr) &&
		slices.Equal(a.Names, b.Names) && slices.EqualFunc(a.Lens, b.Lens, sameLengths)
}
