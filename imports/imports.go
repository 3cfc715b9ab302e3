// Package imports: what a module asks for, kind by kind; what the layers that count imported things share.
package imports

import (
	"iter"

	"pelorus/api"
)

// Of: the imports of a kind, in their row.
func Of(m api.Module, kind int) iter.Seq[api.Import] {
	return func(yield func(api.Import) bool) {
		for _, i := range m.Imports {
			if i.Kind == kind && !yield(i) {
				return
			}
		}
	}
}
