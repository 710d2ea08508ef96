/-
  Walks: alive() answers true; old memory is as it was.
  Conditions: the three tables hold what the program's text lays in them.
-/
import Derived.Test.YtglhbggihdfieaaDoorAlive
namespace Go.Proofs.YtglhbggihdfieaaDoor
open Go.RowKit

set_option maxRecDepth 100000 in
set_option maxHeartbeats 2000000 in
theorem alive_any (w : World) (ht : Tabs w) : Calls Tryd.prog 20 #[] w fun x w' => x = .returned (.bool true) ∧ Below w.heap.size w w' := by
  have A := alOk w ht
  have C1 := Lib.hid (fun W (h : AlOk w W) => check_any (alL w.heap.size) W h.l h.tabs.1)
  have C2 := Lib.hid (fun W (h : AlOk w W) => text_any (alL w.heap.size) W h.l h.tabs.1 h.tabs.2.1 h.tabs.2.2)
  have C3 := Lib.hid (fun W (h : AlOk w W) => text_any (alH (w.heap.size + 1 + 1) (w.heap.size + 1 + 1 + 1)) W h.h h.tabs.1 h.tabs.2.1 h.tabs.2.2)
  have C4 := Lib.hid (fun W (h : AlOk w W) => check_any (vz 2 2 ⟨#[]⟩) W (vz_in W (by omega) (by omega) (by decide)) h.tabs.1)
  have C5 := Lib.hid (fun W (h : AlOk w W) => topS (alL w.heap.size) W h.l (by rw [alL_size]; omega))
  have C6 := Lib.hid (fun W (h : AlOk w W) => topD (alL w.heap.size) W h.l (by rw [alL_size]; omega))
  have C7 := Lib.hid (fun W (h : AlOk w W) => same_any (alL w.heap.size) (alH (w.heap.size + 1 + 1) (w.heap.size + 1 + 1 + 1)) W h.l h.h)
  simp only [alL_check, alL_text, alH_text, bool2_check, alL_size, alL_depth, alLH_same] at C1 C2 C3 C4 C5 C6 C7
  simp only [alL, alH, vz, V.agg, V.cells] at C1 C2 C3 C4 C5 C6 C7
  have K := Lib.hid (fun W (h : AlOk w W) => (⟨at80 h.cl, at80 h.ch⟩ : _ ∧ _))
  have A0 := Lib.hid A
  clear A ht
  go_enter Tryd.func20, Tryd.ntmps20
  go_wp2_with fail
  refine (C1.out _ A0.out).mono ?_
  rintro x w1 ⟨rfl, hb⟩
  have A1 := Lib.hid (A0.out.below hb)
  clear A0 hb
  obtain ⟨⟨c0, c1, c2, c3, c4, c5, c6, c7⟩, ⟨d0, d1, d2, d3, d4, d5, d6, d7⟩⟩ := K.out _ A1.out
  go_wp2_with fail
  refine (C2.out _ A1.out).mono ?_
  rintro x w2 ⟨rfl, hb⟩
  have A2 := Lib.hid (A1.out.below hb)
  clear A1 hb c0 c1 c2 c3 c4 c5 c6 c7 d0 d1 d2 d3 d4 d5 d6 d7
  obtain ⟨⟨c0, c1, c2, c3, c4, c5, c6, c7⟩, ⟨d0, d1, d2, d3, d4, d5, d6, d7⟩⟩ := K.out _ A2.out
  go_wp2_with fail
  refine (C3.out _ A2.out).mono ?_
  rintro x w3 ⟨rfl, hb⟩
  have A3 := Lib.hid (A2.out.below hb)
  clear A2 hb c0 c1 c2 c3 c4 c5 c6 c7 d0 d1 d2 d3 d4 d5 d6 d7
  obtain ⟨⟨c0, c1, c2, c3, c4, c5, c6, c7⟩, ⟨d0, d1, d2, d3, d4, d5, d6, d7⟩⟩ := K.out _ A3.out
  go_wp2_with fail
  refine (C4.out _ A3.out).mono ?_
  rintro x w4 ⟨rfl, hb⟩
  have A4 := Lib.hid (A3.out.below hb)
  clear A3 hb c0 c1 c2 c3 c4 c5 c6 c7 d0 d1 d2 d3 d4 d5 d6 d7
  obtain ⟨⟨c0, c1, c2, c3, c4, c5, c6, c7⟩, ⟨d0, d1, d2, d3, d4, d5, d6, d7⟩⟩ := K.out _ A4.out
  go_wp2_with fail
  refine (C5.out _ A4.out).mono ?_
  rintro x w5 ⟨rfl, hb⟩
  have A5 := Lib.hid (A4.out.below hb)
  clear A4 hb c0 c1 c2 c3 c4 c5 c6 c7 d0 d1 d2 d3 d4 d5 d6 d7
  obtain ⟨⟨c0, c1, c2, c3, c4, c5, c6, c7⟩, ⟨d0, d1, d2, d3, d4, d5, d6, d7⟩⟩ := K.out _ A5.out
  go_wp2_with fail
  refine (C6.out _ A5.out).mono ?_
  rintro x w6 ⟨rfl, hb⟩
  have A6 := Lib.hid (A5.out.below hb)
  clear A5 hb c0 c1 c2 c3 c4 c5 c6 c7 d0 d1 d2 d3 d4 d5 d6 d7
  obtain ⟨⟨c0, c1, c2, c3, c4, c5, c6, c7⟩, ⟨d0, d1, d2, d3, d4, d5, d6, d7⟩⟩ := K.out _ A6.out
  go_wp2_with fail
  refine (C7.out _ A6.out).mono ?_
  rintro x w7 ⟨rfl, hb⟩
  have A7 := Lib.hid (A6.out.below hb)
  clear A6 hb c0 c1 c2 c3 c4 c5 c6 c7 d0 d1 d2 d3 d4 d5 d6 d7
  go_wp2_with fail
  go_ret
  exact ⟨rfl, A7.out.low⟩
end Go.Proofs.YtglhbggihdfieaaDoor
