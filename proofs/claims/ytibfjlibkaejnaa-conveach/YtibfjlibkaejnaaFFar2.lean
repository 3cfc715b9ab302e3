/- More of worlds with new blocks behind them. -/
import Derived.Test.YtibfjlibkaejnaaFar
namespace Go
theorem World.lt_far_one (w : World) (bs : Array (Array Value × TypeId)) (n k : Nat) (h : k < w.heap.size) : k < (w.far bs n).heap.size + 1 := by rw [World.far_size]; omega
theorem World.lt_far_two (w : World) (bs : Array (Array Value × TypeId)) (n k : Nat) (h : k < w.heap.size) : k < (w.far bs n).heap.size + 1 + 1 := by rw [World.far_size]; omega
theorem World.lt_far_three (w : World) (bs : Array (Array Value × TypeId)) (n k : Nat) (h : k < w.heap.size) : k < (w.far bs n).heap.size + 1 + 1 + 1 := by rw [World.far_size]; omega
attribute [go_sem] World.lt_far_one World.lt_far_two World.lt_far_three
end Go
