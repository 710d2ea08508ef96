/-
  Walks: THE READER IN WHOLE: expr, exprOf, stmt, with more fuel than words.
  Conditions: the reader lies as 'RD' says; its words are at most 65536.
-/
import Derived.Test.YtfldflemdhkgoaaGreatDoorParY
import Derived.Test.YtfldflemdhkgoaaGreatDoorParU2
import Derived.Test.YtfldflemdhkgoaaGreatDoorParU8
import Derived.Test.YtfldflemdhkgoaaGreatDoorParT2
namespace Go.Proofs.YtfldflemdhkgoaaGreatDoor
set_option linter.unusedVariables false
set_option linter.unusedSimpArgs false
open Go.RowKit G

theorem elem_any {W1 : World} {wv : Value} {ws : List LX.LW} {c : Str} {t d : Nat} {W : World} (h : RD' W1 wv ws c t d W) (hn : ws.length ≤ 65536) {ex : Nat → Nat → Rs (List T)} (he : ∀ t' d' W', t ≤ t' → RD' W1 wv ws c t' d' W' → Calls Tryz.prog 60 #[rp W1] W' (PostR W1 wv ws c (t' + 1) W' (FT ShE W'.heap.size) (ex t' d'))) (hky : ∀ t' d' W', t ≤ t' → RD' W1 wv ws c t' d' W' → Calls Tryz.prog 154 #[rp W1] W' (PostR W1 wv ws c (t' + 1) W' (FSl ShE 43 10 W'.heap.size) (keyP (ws.map nol) ex t' d'))) (k : Int) (k1 : 1 ≤ k) (k8 : k ≤ 8) :
    Calls Tryz.prog 145 #[rp W1, .int .u8 k] W (PostR W1 wv ws c t W (FT ShE W.heap.size) (elemP (ws.map nol) ex k t d)) := by
  have hk : k = 1 ∨ k = 2 ∨ k = 3 ∨ k = 4 ∨ k = 5 ∨ k = 6 ∨ k = 7 ∨ k = 8 := by omega
  rcases hk with rfl | rfl | rfl | rfl | rfl | rfl | rfl | rfl
  · exact elem1_any h hn he hky
  · exact elem2_any h hn he hky
  · exact elem3_any h hn he hky
  · exact elem4_any h hn he hky
  · exact elem5_any h hn he hky
  · exact elem6_any h hn he hky
  · exact elem7_any h hn he hky
  · exact elem8_any h hn he hky
theorem exprP_none {ws : List LX.LW} {c : Str} (f : Nat) {t d : Nat} (h : ws[t]? = none) : exprP (ws.map nol) c f t d = .bad (t + 1) := by
  cases f with
  | zero => rfl
  | succ f => rw [exprP_succ]; exact nextP_none h
theorem knot {W1 : World} {wv : Value} {ws : List LX.LW} {c : Str} (hn : ws.length ≤ 65536) (hc : c.length ≤ 70000) (htab : LTabs W1) : ∀ f : Nat,
    (∀ t d W, ws.length < f + t → RD' W1 wv ws c t d W → Calls Tryz.prog 60 #[rp W1] W (PostR W1 wv ws c (t + 1) W (FT ShE W.heap.size) (exprP (ws.map nol) c f t d))) ∧
    (∀ t d w W, ws.length < f + t → ws[t]? = some w → RD' W1 wv ws c (t + 1) d W → d ≤ t → Calls Tryz.prog 104 #[rp W1, .agg #[.int .u8 (w.k : Nat), .string ⟨w.s.toArray⟩, .int .i64 w.n, .int .i64 (w.line : Nat)]] W (PostR W1 wv ws c (t + 1) W (FT ShE W.heap.size) (exprP (ws.map nol) c f t d)))
  | 0 => ⟨fun t d W h1 h2 => by have := h2.2.1; omega, fun t d w W h1 h2 => by have := (List.getElem?_eq_some_iff.1 h2).1; omega⟩
  | f + 1 => by
    obtain ⟨ih1, ih2⟩ := knot hn hc htab f
    have hB : ∀ t d w W, ws.length < f + 1 + t → ws[t]? = some w → RD' W1 wv ws c (t + 1) d W → d ≤ t → Calls Tryz.prog 104 #[rp W1, .agg #[.int .u8 (w.k : Nat), .string ⟨w.s.toArray⟩, .int .i64 w.n, .int .i64 (w.line : Nat)]] W (PostR W1 wv ws c (t + 1) W (FT ShE W.heap.size) (exprP (ws.map nol) c (f + 1) t d)) := by
      intro t d w W h1 h2 h3 h4
      obtain ⟨k, s, n, l⟩ := w
      rw [exprP_succ, nextP_some h2]
      exact exprOf_any h3 hn (fun t' d' W' h5 h6 => ih1 t' d' W' (by omega) h6)
        (fun k k1 k8 t' d' W' h5 h6 => elem_any h6 hn (fun t2 d2 W2 h7 h8 => ih1 t2 d2 W2 (by omega) h8)
          (fun t2 d2 W2 h7 h8 => key_any h8 hn (fun t3 d3 w3 W3 h9 h10 h11 h12 => ih2 t3 d3 w3 W3 (by omega) h10 h11 h12) (fun t d h => exprP_none f h)) k k1 k8)
        hc htab (by omega) k s n l
    refine ⟨fun t d W h1 h2 => ?_, hB⟩
    have hd := h2.2.2
    rw [exprP_succ]
    exact expr_any h2 hn (fun kk s n ln W' h3 h4 => by
      have := hB t d ⟨kk, s, n, ln⟩ W' h1 h3 h4 hd
      rw [exprP_succ, nextP_some h3] at this
      exact this)
theorem stmt_knot {W1 : World} {wv : Value} {ws : List LX.LW} {c : Str} (hn : ws.length ≤ 65536) (hc : c.length ≤ 70000) (htab : LTabs W1) : ∀ f t d W, ws.length < f + t → RD' W1 wv ws c t d W →
    Calls Tryz.prog 103 #[rp W1] W (PostR W1 wv ws c (t + 1) W (FT ShS W.heap.size) (stmtP (ws.map nol) (exprP (ws.map nol) c FU) f t d))
  | 0, t, d, W, h1, h2 => by have := h2.2.1; omega
  | f + 1, t, d, W, h1, h2 => stmt2_any h2 hn (fun t' d' W' h3 h4 => (knot hn hc htab FU).1 t' d' W' (by unfold FU; omega) h4) (fun t' d' W' h3 h4 => stmt_knot hn hc htab f t' d' W' (by omega) h4)
theorem expr_whole {W1 : World} {wv : Value} {ws : List LX.LW} {c : Str} (hn : ws.length ≤ 65536) (hc : c.length ≤ 70000) (htab : LTabs W1) {t d : Nat} {W : World} (h : RD' W1 wv ws c t d W) :
    Calls Tryz.prog 60 #[rp W1] W (PostR W1 wv ws c (t + 1) W (FT ShE W.heap.size) (exprP (ws.map nol) c FU t d)) := (knot hn hc htab FU).1 t d W (by unfold FU; omega) h
theorem stmtOf_whole {W1 : World} {wv : Value} {ws : List LX.LW} {c : Str} (hn : ws.length ≤ 65536) (hc : c.length ≤ 70000) (htab : LTabs W1) {t d : Nat} {W : World} (h : RD' W1 wv ws c t d W) (s : Str) :
    Calls Tryz.prog 59 #[rp W1, .string ⟨s.toArray⟩] W (PostR W1 wv ws c t W (FT ShS W.heap.size) (stmtOfP (ws.map nol) (exprP (ws.map nol) c FU) (stmtP (ws.map nol) (exprP (ws.map nol) c FU) FU) s t d)) :=
  stmtOf_any h hn (fun t' d' W' _ h4 => expr_whole hn hc htab h4) (fun t' d' W' _ h4 => stmt_knot hn hc htab FU t' d' W' (by unfold FU; omega) h4) s
end Go.Proofs.YtfldflemdhkgoaaGreatDoor
