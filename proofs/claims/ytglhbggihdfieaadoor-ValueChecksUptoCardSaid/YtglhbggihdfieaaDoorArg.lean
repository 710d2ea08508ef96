/-
  An argument of type api.Value opens into a value that lies in memory.
  Conditions: none.
-/
import Derived.Test.YtglhbggihdfieaaDoorDoor
namespace Go.Proofs.YtglhbggihdfieaaDoor
open Go.ChangeShapes Go.WideShapes Go.ChangeAt Go.RowKit Go.Deep

set_option maxRecDepth 100000 in
/-- An argument of type api.Value opens into a value that lies in memory. -/
theorem open_arg {H : Type} {enc : TypeId × Value → H} {W : World} {base : Nat} {v : Value} {d : DataW H} {p : List MemPlace} (hv : Value.okWide Tryd.prog W .any base 27 v)
    (h : DataW.Trod enc Tryd.prog W 0 (fun _ => true) true 27 v d p) : ∃ x : V, v = x.agg ∧ x.In W := by
  have T : VTypes Tryd.prog 27 23 24 38 :=
    { tk := 0, tn := 0, ts := 0, te := 0, tb := 0, tfv := 0, tfn := 0, f0 := _, f1 := _, f2 := _, f3 := _, f4 := _, f5 := _, f6 := _, f7 := _, g0 := _, g1 := _,
      hv := Tryd.underlying27, cv := by kernel_rfl, hsl := Tryd.underlying23, hsf := Tryd.underlying24, hf := Tryd.underlying38, cf := by kernel_rfl,
      t0 := ⟨by kernel_rfl, by kernel_rfl, rfl⟩, t1 := ⟨by kernel_rfl, by kernel_rfl, rfl⟩, t2 := ⟨by kernel_rfl, by kernel_rfl, rfl⟩, t3 := ⟨rfl, by kernel_rfl, rfl⟩, t4 := ⟨rfl, by kernel_rfl, rfl⟩,
      t5 := ⟨by kernel_rfl, by kernel_rfl, rfl⟩, t6 := ⟨by kernel_rfl, by kernel_rfl, rfl⟩, t7 := ⟨by kernel_rfl, by kernel_rfl, rfl⟩, s0 := ⟨by kernel_rfl, by kernel_rfl, rfl⟩, s1 := ⟨rfl, by kernel_rfl, rfl⟩ }
  obtain ⟨cs, rfl, -⟩ := okWide_struct Tryd.underlying27 hv
  obtain ⟨fuel, hf⟩ := h
  obtain ⟨x, hx, hin⟩ := open_V T fuel _ _ hf
  refine ⟨x, ?_, hin⟩
  simp only [Value.cells] at hx
  rw [V.agg, ← hx]

end Go.Proofs.YtglhbggihdfieaaDoor
