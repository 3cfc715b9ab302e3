/- Sizes of worlds with new blocks behind them, in one form. -/
import Derived.Test.YtibfjlibkaejnaaFFar2
namespace Go
variable (w : World) (bs cs : Array (Array Value × TypeId)) (n m : Nat) (o : Obj)
theorem World.far_drew : w.drew.far bs n = w.far bs (n + 1) := by
  show World.far (w.drewN 1) bs n = _
  simp only [World.far, World.drewN]
  congr 1
  omega
theorem World.far_alloc_size : ((w.alloc o).far bs n).heap.size = (w.far bs n).heap.size + 1 := by rw [World.far_size, World.far_size, World.size_alloc]; omega
theorem World.far_n_size : (w.far bs n).heap.size = (w.far bs 0).heap.size := by rw [World.far_size, World.far_size]
theorem World.far_lt0 : w.heap.size < (w.far bs n).heap.size + 1 := by rw [World.far_size]; omega
theorem World.far_lt1 : w.heap.size < (w.far bs n).heap.size + 1 + 1 := by rw [World.far_size]; omega
theorem World.far_lt2 : w.heap.size < (w.far bs n).heap.size + 1 + 1 + 1 := by rw [World.far_size]; omega
theorem World.far_lt3 : (w.far bs n).heap.size < (w.far (bs ++ cs) m).heap.size + 1 := by rw [World.far_size, World.far_size, Array.size_append]; omega
theorem World.far_lt4 : (w.far bs n).heap.size < (w.far (bs ++ cs) m).heap.size + 1 + 1 := by rw [World.far_size, World.far_size, Array.size_append]; omega
theorem World.far_lt5 : w.heap.size + 1 < (w.far bs n).heap.size + 1 + 1 := by rw [World.far_size]; omega
theorem World.far_ne0 : (w.heap.size = (w.far bs n).heap.size + 1) = False := by rw [World.far_size]; simp; omega
theorem World.far_ne1 : (w.heap.size = (w.far bs n).heap.size + 1 + 1) = False := by rw [World.far_size]; simp; omega
theorem World.far_ne2 : ((w.far bs n).heap.size = (w.far (bs ++ cs) m).heap.size + 1) = False := by rw [World.far_size, World.far_size, Array.size_append]; simp; omega
theorem World.far_ne3 : ((w.far bs n).heap.size + 1 = w.heap.size) = False := by rw [World.far_size]; simp; omega
theorem World.far_ne4 : ((w.far (bs ++ cs) m).heap.size + 1 = (w.far bs n).heap.size) = False := by rw [World.far_size, World.far_size, Array.size_append]; simp; omega
attribute [go_sem] World.far_drew World.far_alloc_size World.far_lt0 World.far_lt1 World.far_lt2 World.far_lt3 World.far_lt4 World.far_lt5 World.far_ne0 World.far_ne1 World.far_ne2 World.far_ne3 World.far_ne4
end Go
