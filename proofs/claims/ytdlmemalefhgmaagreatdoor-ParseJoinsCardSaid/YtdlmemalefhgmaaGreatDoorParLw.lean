/-
  parse.Parse of a text of more than 65536 bytes ('parse_big'): nil, line 0, ErrLimit, and nothing is read.
  Conditions: none.
  Walks: told, a word as text in the law of the reader: 'told4_any'.
  Conditions: what the package value lays in its variables.
  Plain: the words of a text, each told on a line of its own: what is read of it ('lex_ahead', 'lex_after'). No program is imported.
  Conditions: none.
  Walks: ParseLines returns true; old memory is as it was.
  Conditions: the package's variables hold what the program's text lays in them; the text is no longer than the reach.
-/
import Derived.Test.YtdlmemalefhgmaaGreatDoorParPa
import Derived.Test.YtdlmemalefhgmaaGreatDoorParAn
import Derived.Test.YtdlmemalefhgmaaGreatDoorParLn
namespace Go.Proofs.YtdlmemalefhgmaaGreatDoor
set_option linter.unusedVariables false
set_option linter.unusedSimpArgs false
open Go.RowKit G
set_option maxRecDepth 100000 in
set_option maxHeartbeats 8000000 in
theorem parse_big (s : ByteArray) (W : World) (hs : 65536 < s.size) (hr : s.size ≤ 140737488355328) :
    Calls Tryz.prog 8 #[.string s] W (fun e w' => e = .returned (.tuple #[.slice none 0 0, .int .i64 0, .int .i64 3]) ∧ Below W.heap.size W w') := by
  have hmf : ∀ (fn : Fn) (first cap : Array Value) (w : World), (Instr.makeFunc fn first cap).run Tryz.prog w = .ok (.func fn first cap) w := fun _ _ _ _ => rfl
  have hslen : s.data.toList.length = s.size := by simp
  obtain ⟨n, hn⟩ : ∃ n, W.heap.size = n := ⟨_, rfl⟩
  obtain ⟨Wa, hWa⟩ : ∃ Wa, ((W.alloc (.cells #[.slice none 0 0] 24)).alloc (.cells #[.int .i64 0] 3)).alloc (.cells #[.int .i64 0] 25) = Wa := ⟨_, rfl⟩
  have hza : Wa.heap.size = n + 3 := by rw [← hWa, ← hn]; simp
  have hba : Below n W Wa := by rw [← hWa, ← hn]; exact ((((Below.refl _ _).alloc (Nat.le_refl _) _).alloc (by simp) _).alloc (by simp; omega) _)
  have hp0 : Wa.heap[n]? = some (.cells #[.slice none 0 0] 24 (0, 0)) := by
    rw [← hWa, ← hn, Below.heap_alloc _ _ _ (by simp; omega), Below.heap_alloc _ _ _ (by simp)]; exact heap_alloc_new _ _
  have hl0 : Wa.heap[n + 1]? = some (.cells #[.int .i64 0] 3 (0, 0)) := by
    rw [← hWa, ← hn, Below.heap_alloc _ _ _ (by simp)]; exact new2b _ _ _ _
  have he0 : Wa.heap[n + 1 + 1]? = some (.cells #[.int .i64 0] 25 (0, 0)) := by
    rw [← hWa, ← hn]; have := heap_alloc_new ((W.alloc (.cells #[.slice none 0 0] 24)).alloc (.cells #[.int .i64 0] 3)) (.cells #[.int .i64 0] 25); simpa using this
  have HW := Lib.hid (words_big s Wa hs hr)
  have HP0 := Lib.hid hp0
  have HL0 := Lib.hid hl0
  have HE0 := Lib.hid he0
  have HBA := Lib.hid hba
  obtain ⟨post, hpost⟩ : ∃ p, (fun e w' => e = Ending.returned (.tuple #[.slice none 0 0, .int .i64 0, .int .i64 3]) ∧ Below W.heap.size W w') = p := ⟨_, rfl⟩
  rw [hpost]
  have HPO := Lib.hid hpost
  have HNN := Lib.hid hn
  clear hpost hp0 hl0 he0 hba
  go_enter_defers Tryz.func8, Tryz.ntmps8
  go_upto_region 2 with (go_at_call 9; (with_reducible refine HW.out.mono ?_); rintro e1 w1 hq1; obtain ⟨rfl, hw1⟩ := hq1; have hb1 : Below Wa.heap.size Wa w1 := hw1 ▸ Below.refl _ _; clear hw1; have HB1 := Lib.hid hb1; obtain ⟨p0, fp⟩ := blk1 ((HB1.out.block n (by omega)).trans HP0.out); obtain ⟨l0, fl⟩ := blk1 ((HB1.out.block (n + 1) (by omega)).trans HL0.out); obtain ⟨e0, fe⟩ := blk1 ((HB1.out.block (n + 1 + 1) (by omega)).trans HE0.out))
  go_wp2
  go_region
  go_wp2
  have h3 : Three n (.slice none 0 0) (.int .i64 0) (.int .i64 0) w1 := Three.keep ⟨HP0.out, HL0.out, HE0.out⟩ (fun b hb => HB1.out.block b (by omega))
  have h9 := ((((h3.l (.int .i64 0)).e (.int .i64 3)).p (.slice none 0 0)).l (.int .i64 0)).e (.int .i64 3)
  obtain ⟨⟨z0, z1, z2⟩, -⟩ := h9.cells
  have hb := HBA.out.trans (HB1.out.mono (show n ≤ Wa.heap.size by omega))
  have hb9 : Below n W _ := (((((hb.setCell (p := ⟨n + 1, 0, none⟩) (Nat.le_succ _) (.int .i64 0)).setCell (p := ⟨n + 1 + 1, 0, none⟩) (by show n ≤ n + 1 + 1; omega) (.int .i64 3)).setCell (p := ⟨n, 0, none⟩) (Nat.le_refl _) (.slice none 0 0)).setCell (p := ⟨n + 1, 0, none⟩) (Nat.le_succ _) (.int .i64 0)).setCell (p := ⟨n + 1 + 1, 0, none⟩) (by show n ≤ n + 1 + 1; omega) (.int .i64 3))
  revert z0 z1 z2 hb9
  clear h9 h3 hb
  generalize (World.setCell (World.setCell (World.setCell (World.setCell (World.setCell w1 _ _) _ _) _ _) _ _) _ _) = W9
  intro z0 z1 z2 hb9
  simp [bodyPostD, Leaves, settle, results, Tryz.results8, go_sem, *]
  rw [← HPO.out]
  refine ⟨rfl, ?_⟩
  rw [HNN.out]
  exact hb9.drew
end Go.Proofs.YtdlmemalefhgmaaGreatDoor
namespace Go.Proofs.YtdlmemalefhgmaaGreatDoor
set_option linter.unusedVariables false
set_option linter.unusedSimpArgs false
open Go.RowKit

theorem quoted_same (l : List UInt8) : VT.quotedL l = LX.quotedL l := by
  have : ∀ l : List UInt8, l.flatMap VT.escB = LX.esc l := by
    intro l
    induction l with
    | nil => rfl
    | cons c t ih =>
      rw [List.flatMap_cons, ih]
      have e1 : c = 34 ↔ c.toNat = 34 := ⟨fun h => by rw [h]; rfl, fun h => UInt8.toNat_inj.1 h⟩
      have e2 : c = 92 ↔ c.toNat = 92 := ⟨fun h => by rw [h]; rfl, fun h => UInt8.toNat_inj.1 h⟩
      have e3 : c = 10 ↔ c.toNat = 10 := ⟨fun h => by rw [h]; rfl, fun h => UInt8.toNat_inj.1 h⟩
      unfold VT.escB
      simp only [LX.esc, e1, e2, e3]
      by_cases h1 : c.toNat = 34
      · simp [h1]
      · by_cases h2 : c.toNat = 92
        · simp [h2]
        · by_cases h3 : c.toNat = 10
          · simp [h3]
          · simp [h1, h2, h3]
  unfold VT.quotedL LX.quotedL
  rw [this]

def intV (n : Int) : VT.V := .mk 1 n ⟨#[]⟩ none 0 0 (fun _ => .leaf) none 0 0 (fun _ => ⟨#[]⟩) (fun _ => .leaf) 0 ⟨#[]⟩ false
def textV (s : ByteArray) : VT.V := .mk 3 0 s none 0 0 (fun _ => .leaf) none 0 0 (fun _ => ⟨#[]⟩) (fun _ => .leaf) 0 ⟨#[]⟩ false
theorem intV_in (n : Int) (w : World) (h1 : -9223372036854775808 ≤ n) (h2 : n ≤ 9223372036854775807) : (intV n).In w := by
  refine ⟨by decide, ⟨h1, h2⟩, by decide, by decide, by decide, by decide, by decide, fun i hi => by omega, fun i hi => by omega⟩
theorem textV_in (s : ByteArray) (w : World) (hs : s.size ≤ 4096) : (textV s).In w := by
  refine ⟨by decide, by decide, Nat.le_trans hs (by decide), by decide, by decide, by decide, by decide, fun i hi => by omega, fun i hi => by omega⟩
theorem intV_text (n : Int) : (intV n).text = ⟨(Lib.itoa n).toArray⟩ := by
  have hc : (intV n).check = true := by
    unfold VT.V.check intV VT.V.may
    simp [VT.inRowB, VT.inLimB, VT.risingB, VT.foldTo, show VT.emptyB ⟨#[]⟩ = true from rfl, VT.allB, show (⟨#[]⟩ : ByteArray).size = 0 from rfl]
  unfold VT.V.text
  rw [if_pos hc]
  rfl
theorem textV_text (s : ByteArray) (hs : s.size ≤ 4096) : (textV s).text = ⟨(LX.quotedL s.data.toList).toArray⟩ := by
  have hc : (textV s).check = true := by
    unfold VT.V.check textV VT.V.may
    simp [VT.inRowB, VT.inLimB, VT.risingB, VT.foldTo, show VT.emptyB ⟨#[]⟩ = true from rfl, VT.allB, show (⟨#[]⟩ : ByteArray).size = 0 from rfl, hs]
  unfold VT.V.text
  rw [if_pos hc, ← quoted_same]
  rfl

set_option maxRecDepth 100000 in
set_option maxHeartbeats 4000000 in
theorem told4_4 (s : ByteArray) (n line : Int) (w : World) :
    Calls Tryz.prog 14 #[.agg #[.int .u8 4, .string s, .int .i64 n, .int .i64 line]] w fun e w' => e = .returned (.string ⟨#[40]⟩) ∧ Below w.heap.size w w' := by
  have hb := Lib.hid (fun o => (Below.refl w.heap.size w).alloc (Nat.le_refl _) o)
  go_enter Tryz.func14, Tryz.ntmps14
  go_wp2
  go_ret
  exact ⟨rfl, hb.out _⟩
set_option maxRecDepth 100000 in
set_option maxHeartbeats 4000000 in
theorem told4_5 (s : ByteArray) (n line : Int) (w : World) :
    Calls Tryz.prog 14 #[.agg #[.int .u8 5, .string s, .int .i64 n, .int .i64 line]] w fun e w' => e = .returned (.string ⟨#[41]⟩) ∧ Below w.heap.size w w' := by
  have hb := Lib.hid (fun o => (Below.refl w.heap.size w).alloc (Nat.le_refl _) o)
  go_enter Tryz.func14, Tryz.ntmps14
  go_wp2
  go_ret
  exact ⟨rfl, hb.out _⟩
set_option maxRecDepth 100000 in
set_option maxHeartbeats 4000000 in
theorem told4_1 (s : ByteArray) (n line : Int) (w : World) :
    Calls Tryz.prog 14 #[.agg #[.int .u8 1, .string s, .int .i64 n, .int .i64 line]] w fun e w' => e = .returned (.string s) ∧ Below w.heap.size w w' := by
  have hb := Lib.hid (fun o => (Below.refl w.heap.size w).alloc (Nat.le_refl _) o)
  go_enter Tryz.func14, Tryz.ntmps14
  go_wp2
  go_ret
  exact ⟨rfl, hb.out _⟩
set_option maxRecDepth 100000 in
set_option maxHeartbeats 4000000 in
theorem told4_2 (s : ByteArray) (n line : Int) (w : World) (h1 : -9223372036854775808 ≤ n) (h2 : n ≤ 9223372036854775807) (hv : VTabs w) :
    Calls Tryz.prog 14 #[.agg #[.int .u8 2, .string s, .int .i64 n, .int .i64 line]] w fun e w' => e = .returned (.string ⟨(Lib.itoa n).toArray⟩) ∧ Below w.heap.size w w' := by
  have hb : Hid (∀ o w', Below (w.alloc o).heap.size (w.alloc o) w' → Below w.heap.size w w') := fun o w' h => ((Below.refl w.heap.size w).alloc (Nat.le_refl _) o).trans (h.mono (by simp))
  have H : Hid (∀ o, Calls Tryz.prog 13 #[.agg #[.int .u8 1, .int .i64 n, .string ⟨#[]⟩, .slice none 0 0, .slice none 0 0, .int .u8 0, .string ⟨#[]⟩, .bool false]] (w.alloc o) fun x w' => x = .returned (.string ⟨(Lib.itoa n).toArray⟩) ∧ Below (w.alloc o).heap.size (w.alloc o) w') := fun o => by
    have hv' := hv.below ((Below.refl w.heap.size w).alloc (Nat.le_refl _) o)
    have := VT.text_any (intV n) (w.alloc o) (intV_in n _ h1 h2) hv'.1 hv'.2.1 hv'.2.2
    rw [intV_text] at this
    exact this
  generalize (⟨(Lib.itoa n).toArray⟩ : ByteArray) = z at H ⊢
  clear h1 h2 hv
  go_enter Tryz.func14, Tryz.ntmps14
  go_wp2_with (go_at_call 13; (with_reducible refine (H.out _).mono ?_); rintro e w1 ⟨rfl, hb1⟩; (have HB := Lib.hid (hb.out _ _ hb1)); clear hb1)
  go_ret
  exact ⟨rfl, HB.out⟩
set_option maxRecDepth 100000 in
set_option maxHeartbeats 4000000 in
theorem told4_3 (s : ByteArray) (n line : Int) (w : World) (hs : s.size ≤ 4096) (hv : VTabs w) :
    Calls Tryz.prog 14 #[.agg #[.int .u8 3, .string s, .int .i64 n, .int .i64 line]] w fun e w' => e = .returned (.string ⟨(LX.quotedL s.data.toList).toArray⟩) ∧ Below w.heap.size w w' := by
  have hb : Hid (∀ o w', Below (w.alloc o).heap.size (w.alloc o) w' → Below w.heap.size w w') := fun o w' h => ((Below.refl w.heap.size w).alloc (Nat.le_refl _) o).trans (h.mono (by simp))
  have H : Hid (∀ o, Calls Tryz.prog 13 #[.agg #[.int .u8 3, .int .i64 0, .string s, .slice none 0 0, .slice none 0 0, .int .u8 0, .string ⟨#[]⟩, .bool false]] (w.alloc o) fun x w' => x = .returned (.string ⟨(LX.quotedL s.data.toList).toArray⟩) ∧ Below (w.alloc o).heap.size (w.alloc o) w') := fun o => by
    have hv' := hv.below ((Below.refl w.heap.size w).alloc (Nat.le_refl _) o)
    have := VT.text_any (textV s) (w.alloc o) (textV_in s _ hs) hv'.1 hv'.2.1 hv'.2.2
    rw [textV_text s hs] at this
    exact this
  generalize (⟨(LX.quotedL s.data.toList).toArray⟩ : ByteArray) = z at H ⊢
  clear hs hv
  go_enter Tryz.func14, Tryz.ntmps14
  go_wp2_with (go_at_call 13; (with_reducible refine (H.out _).mono ?_); rintro e w1 ⟨rfl, hb1⟩; (have HB := Lib.hid (hb.out _ _ hb1)); clear hb1)
  go_ret
  exact ⟨rfl, HB.out⟩
/-- A word's cells, as one value. -/
def wAgg4 (x : LX.LW) : Value := .agg #[.int .u8 x.k, .string ⟨x.s.toArray⟩, .int .i64 x.n, .int .i64 x.line]
/-- A word that may be, as text. -/
theorem told4_any (x : LX.LW) (w : World) (h : LX.OkW x) (hv : VTabs w) :
    Calls Tryz.prog 14 #[wAgg4 x] w fun e w' => e = .returned (.string ⟨(LX.toldW x).toArray⟩) ∧ Below w.heap.size w w' := by
  obtain ⟨k, s, n, line⟩ := x
  rcases h with ⟨rfl, rfl, rfl⟩ | ⟨rfl, rfl, rfl⟩ | ⟨rfl, rfl, hl⟩ | ⟨rfl, rfl, h1, h2⟩ | ⟨rfl, rfl, hne, hl, hb, hm⟩
  · exact told4_4 _ _ _ w
  · exact told4_5 _ _ _ w
  · exact told4_3 ⟨s.toArray⟩ 0 line w (by
      have h1 : (⟨s.toArray⟩ : ByteArray).size = s.length := by show s.toArray.size = _; simp
      have h2 : s.length ≤ 4096 := hl
      omega) hv
  · exact told4_2 _ n line w h1 (by have h3 : n < 9223372036854775808 := h2; omega) hv
  · exact told4_1 _ _ _ w
end Go.Proofs.YtdlmemalefhgmaaGreatDoor
namespace Go.Proofs.YtdlmemalefhgmaaGreatDoor.G
set_option linter.unusedVariables false
set_option linter.unusedSimpArgs false
open Go.Proofs.YtdlmemalefhgmaaGreatDoor

/-- The words, each with the number of its line. -/
def ren : Nat → List LX.LW → List LX.LW
  | _, [] => []
  | k, w :: t => { w with line := k } :: ren (k + 1) t
/-- The words as text, each on a line of its own. -/
def lineT : List LX.LW → List UInt8
  | [] => []
  | w :: t => LX.toldW w ++ 10 :: lineT t
theorem ren_length : ∀ (ws : List LX.LW) (k : Nat), (ren k ws).length = ws.length
  | [], _ => rfl
  | w :: t, k => by simp [ren, ren_length t]
theorem ren_take : ∀ (ws : List LX.LW) (k i : Nat), (ren k ws).take i = ren k (ws.take i)
  | [], _, i => by simp [ren]
  | w :: t, k, 0 => by simp [ren]
  | w :: t, k, i + 1 => by simp [ren, ren_take t]
theorem ren_nol : ∀ (ws : List LX.LW) (k : Nat), (ren k ws).map nol = ws.map nol
  | [], _ => rfl
  | w :: t, k => by simp [ren, ren_nol t, nol]
theorem ren_get : ∀ (ws : List LX.LW) (k i : Nat) (w : LX.LW), (ren k ws)[i]? = some w → w.line = k + i
  | [], _, _, _, h => by simp [ren] at h
  | v :: t, k, 0, w, h => by simp [ren] at h; rw [← h]; rfl
  | v :: t, k, i + 1, w, h => by
    have := ren_get t (k + 1) i w (by simpa [ren] using h)
    omega
theorem ren_lined (ws : List LX.LW) : Lined (ren 0 ws) := fun k w h => by have := ren_get ws 0 k w h; omega
theorem lineT_append : ∀ (a b : List LX.LW), lineT (a ++ b) = lineT a ++ lineT b
  | [], _ => rfl
  | w :: t, b => by simp [lineT, lineT_append t]
theorem lineT_succ (ws : List LX.LW) (k : Nat) (h : k < ws.length) : lineT (ws.take (k + 1)) = (lineT (ws.take k) ++ LX.toldW ws[k]) ++ [10] := by
  rw [List.take_succ_eq_append_getElem h, lineT_append]
  simp [lineT]
theorem lineT_le (ws : List LX.LW) (i j : Nat) (h : i ≤ j) : (lineT (ws.take i)).length ≤ (lineT (ws.take j)).length := by
  obtain ⟨d, rfl⟩ : ∃ d, j = i + d := ⟨j - i, by omega⟩
  rw [List.take_add, lineT_append, List.length_append]
  omega
theorem app_app (a b : List LX.LW) (r : LX.Res) : (r.app b).app a = r.app (a ++ b) := by cases r <;> simp [LX.Res.app]
theorem cons_app (w : LX.LW) (b : List LX.LW) (r : LX.Res) : (r.app b).cons w = r.app (w :: b) := by cases r <;> simp [LX.Res.app, LX.Res.cons]
theorem lex_lines (r : List UInt8) : ∀ (ws : List LX.LW) (k : Nat), (∀ w ∈ ws, LX.OkW w) → LX.lex k (lineT ws ++ r) = (LX.lex (k + ws.length) r).app (ren k ws)
  | [], k, _ => by
    show LX.lex k r = _
    cases h : LX.lex k r <;> simp [ren, LX.Res.app, h]
  | w :: t, k, h => by
    show LX.lex k ((LX.toldW w ++ 10 :: lineT t) ++ r) = _
    rw [List.append_assoc, List.cons_append, LX.lex_told k (h w (by simp)) _ (by intro c t e; injection e with e; rw [← e]; decide), LX.lex_nl _ _ _ rfl, lex_lines r t (k + 1) fun x hx => h x (by simp [hx]), cons_app]
    rw [show k + 1 + t.length = k + (w :: t).length by simp; omega]
    rfl
theorem lex_ahead (ws : List LX.LW) (i : Nat) (h : ∀ w ∈ ws, LX.OkW w) : LX.lex 0 (lineT (ws.take i)) = .ok ((ren 0 ws).take i) := by
  have := lex_lines [] (ws.take i) 0 fun w hw => h w (List.mem_of_mem_take hw)
  rw [List.append_nil, LX.lex_nil] at this
  rw [this, ren_take]
  simp [LX.Res.app]
theorem lex_after (ws : List LX.LW) (i : Nat) (h : ∀ w ∈ ws, LX.OkW w) : ∃ w, LX.lex 0 (lineT (ws.take i) ++ [40, 10]) = .ok ((ren 0 ws).take i ++ [w]) := by
  have h1 := lex_lines [40, 10] (ws.take i) 0 fun w hw => h w (List.mem_of_mem_take hw)
  have h2 := lex_lines [] [⟨4, [], 0, 0⟩] (0 + (ws.take i).length) (by intro w hw; simp at hw; subst hw; exact Or.inl ⟨rfl, rfl, rfl⟩)
  have h3 : lineT [⟨4, [], 0, 0⟩] ++ [] = [40, 10] := rfl
  rw [h3, LX.lex_nil] at h2
  rw [h2] at h1
  exact ⟨_, by rw [h1, ren_take]; rfl⟩
end Go.Proofs.YtdlmemalefhgmaaGreatDoor.G
namespace Go.Proofs.YtdlmemalefhgmaaGreatDoor
set_option linter.unusedVariables false
set_option linter.unusedSimpArgs false
open Go.RowKit G

theorem esc_len : ∀ l : List UInt8, (LX.esc l).length ≤ 2 * l.length
  | [] => Nat.le_refl _
  | c :: t => by
    have := esc_len t
    show (if c.toNat = 34 ∨ c.toNat = 92 then 92 :: c :: LX.esc t else if c.toNat = 10 then 92 :: 110 :: LX.esc t else c :: LX.esc t).length ≤ _
    split
    · simp; omega
    · split <;> simp <;> omega
theorem told4_len {x : LX.LW} (h : LX.OkW x) : (LX.toldW x).length ≤ 8194 := by
  obtain ⟨k, s, n, line⟩ := x
  rcases h with ⟨rfl, rfl, rfl⟩ | ⟨rfl, rfl, rfl⟩ | ⟨rfl, rfl, hl⟩ | ⟨rfl, rfl, h1, h2⟩ | ⟨rfl, rfl, hne, hl, hb, hm⟩
  · show 1 ≤ 8194; omega
  · show 1 ≤ 8194; omega
  · show (LX.quotedL s).length ≤ 8194
    have hl : s.length ≤ 4096 := hl
    have := esc_len s
    simp only [LX.quotedL, List.length_cons, List.length_append, List.length_nil]
    omega
  · show (Lib.itoa n).length ≤ 8194
    have := LX.itoa_len n h1 h2
    omega
  · show s.length ≤ 8194
    have hl : s.length ≤ 4096 := hl
    omega
theorem lineT_len : ∀ ws : List LX.LW, (∀ w ∈ ws, LX.OkW w) → (lineT ws).length ≤ 8195 * ws.length
  | [], _ => Nat.le_refl _
  | w :: t, h => by
    have h1 := told4_len (h w (by simp))
    have h2 := lineT_len t fun x hx => h x (by simp [hx])
    simp only [lineT, List.length_append, List.length_cons]
    omega
theorem told4_pos {x : LX.LW} (h : LX.OkW x) : 0 < (LX.toldW x).length := by
  obtain ⟨c, t, e, -⟩ := LX.told_ne h
  rw [e]; simp

set_option maxRecDepth 100000 in
set_option maxHeartbeats 8000000 in
theorem lines_err (s : ByteArray) (w : World) (ht : LTabs w) (hv : VTabs w) (he : ∀ W, LTabs W → ∃ m q, 0 < q ∧ q < 10 ∧ Calls Tryz.prog 9 #[.string s] W fun e w' => e = .returned (.tuple #[.slice none 0 0, .int .i64 (m : Int), .int .i64 (q : Int)]) ∧ Below W.heap.size W w') :
    Calls Tryz.prog 5 #[.string s] w fun e w' => e = .returned (.bool true) ∧ Below w.heap.size w w' := by
  obtain ⟨m, q, q0, q1, h1⟩ := he w ht
  have H1 := Lib.hid h1
  have H2 := Lib.hid (fun W (h : Below w.heap.size w W) => alive_any W (ht.below h ht.gb) (hv.below h))
  have HT : Hid (∀ W W', Below w.heap.size w W → Below W.heap.size W W' → Below w.heap.size w W') := fun W W' h k => h.trans (k.mono h.size)
  have t1 : (q != 0) = true := by rw [bne_iff_ne]; omega
  clear ht he h1 hv
  go_enter Tryz.func5, Tryz.ntmps5
  go_wp2_with fail
  refine H1.out.mono ?_
  rintro e w1 ⟨rfl, hb1⟩
  have HB := Lib.hid hb1
  clear hb1
  go_wp2_with fail
  refine (H2.out _ HB.out).mono ?_
  rintro e w2 ⟨rfl, hb2⟩
  have HC := Lib.hid (HT.out _ _ HB.out hb2)
  clear hb2
  go_wp2_with fail
  refine (H2.out _ HC.out).mono ?_
  rintro e w3 ⟨rfl, hb3⟩
  have HD := Lib.hid (HT.out _ _ HC.out hb3)
  clear hb3
  go_wp2
  go_ret
  exact ⟨rfl, HD.out⟩

set_option maxRecDepth 100000 in
set_option maxHeartbeats 8000000 in
theorem lines_ok (s : ByteArray) (ws : List LX.LW) (w : World) (ht : LTabs w) (hv : VTabs w) (hs : s.size ≤ 65536) (hr : LX.lex 0 s.data.toList = .ok ws) :
    Calls Tryz.prog 5 #[.string s] w fun e w' => e = .returned (.bool true) ∧ Below w.heap.size w w' := by
  have hsnd := LX.lex_sound 0 _ _ hr
  have hlen : s.data.toList.length = s.size := by simp
  have gN : ws.length ≤ 65536 := by omega
  have HOk : Hid (∀ x ∈ ws, LX.OkW x) := fun x hx => (hsnd.1 x hx).1
  have h1 : Calls Tryz.prog 9 #[.string s] w fun e w' => ∃ v, e = .returned (.tuple #[v, .int .i64 0, .int .i64 0]) ∧ Wds w' v ws ∧ Below w.heap.size w w' := (words_any s w hs ht).mono fun e w' hp => by
    unfold PostWords at hp
    rw [hr] at hp
    obtain ⟨⟨v, he, ho⟩, hb⟩ := hp
    exact ⟨v, he, Wds.of_own ho, hb⟩
  have H1 := Lib.hid h1
  have H2 := Lib.hid (fun W (h : Below w.heap.size w W) => alive_any W (ht.below h ht.gb) (hv.below h))
  have HT : Hid (∀ W W', Below w.heap.size w W → Below W.heap.size W W' → Below w.heap.size w W') := fun W W' h k => h.trans (k.mono h.size)
  have HTab : Hid (∀ W, Below w.heap.size w W → LTabs W) := fun W h => ht.below h ht.gb
  have HVab : Hid (∀ W, Below w.heap.size w W → VTabs W) := fun W h => hv.below h
  have HP1 : Hid (∀ W, Below w.heap.size w W → Calls Tryz.prog 8 #[.string s] W fun e w' => ∃ (v : Value) (m q : Nat), e = .returned (.tuple #[v, .int .i64 (m : Int), .int .i64 (q : Int)]) ∧ (q = 0 ∨ q = 5) ∧ (q = 5 ↔ ∃ k, parseP ws = .inl k) ∧ Below W.heap.size W w') := fun W h => (parse_any s W hs (HTab.out W h)).mono fun e w' hp => by
    unfold PostParse at hp
    rw [hr] at hp
    obtain ⟨hp, hb⟩ := hp
    dsimp only at hp
    cases hq : parseP ws with
    | inl k => rw [hq] at hp; exact ⟨_, k, 5, hp, Or.inr rfl, ⟨fun _ => ⟨k, rfl⟩, fun _ => rfl⟩, hb⟩
    | inr l => rw [hq] at hp; obtain ⟨v, he, -⟩ := hp; exact ⟨v, 0, 0, he, Or.inl rfl, ⟨fun h => by omega, fun ⟨k, h⟩ => by cases h⟩, hb⟩
  obtain ⟨N, hN⟩ : ∃ N, ws.length = N := ⟨_, rfl⟩
  have HN := Lib.hid hN
  rw [hN] at gN
  clear ht hr hsnd hlen h1 hN hv
  go_enter Tryz.func5, Tryz.ntmps5
  go_wp2_with fail
  refine H1.out.mono ?_
  rintro e w1 ⟨v, rfl, hw1, hb1⟩
  obtain ⟨ao, cp, rfl, hc1, hc2, -⟩ := id hw1
  have HB1 := Lib.hid (And.intro hb1 hw1)
  rw [HN.out] at hc1 ⊢
  unfold maxLen at hc2
  clear hb1 hw1
  go_wp2_with fail
  refine (H2.out _ HB1.out.1).mono ?_
  rintro e w2 ⟨rfl, hb2⟩
  have HB2 := Lib.hid (And.intro (HT.out _ _ HB1.out.1 hb2) (HB1.out.2.below hb2))
  clear hb2
  by_cases hout : N = 0 ∨ 2000 < N ∨ 20000 < s.size
  · have early : ∀ (g1 : (N : Int) = 0 ∨ (2000 : Int) < N ∨ (20000 : Int) < s.size), True := fun _ => trivial
    clear early
    by_cases x0 : N = 0
    · subst x0
      go_wp2_with fail
      refine (H2.out _ HB2.out.1).mono ?_
      rintro e w3 ⟨rfl, hb3⟩
      have HD := Lib.hid (HT.out _ _ HB2.out.1 hb3)
      clear hb3
      go_wp2
      go_ret
      exact ⟨rfl, HD.out⟩
    · have y0 : ¬ ((N : Int) = 0) := by omega
      by_cases x1 : 2000 < N
      · have y1 : (2000 : Int) < N := by omega
        go_wp2_with fail
        refine (H2.out _ HB2.out.1).mono ?_
        rintro e w3 ⟨rfl, hb3⟩
        have HD := Lib.hid (HT.out _ _ HB2.out.1 hb3)
        clear hb3
        go_wp2
        go_ret
        exact ⟨rfl, HD.out⟩
      · have y1 : ¬ (2000 : Int) < N := by omega
        have y2 : (20000 : Int) < s.size := by omega
        go_wp2_with fail
        refine (H2.out _ HB2.out.1).mono ?_
        rintro e w3 ⟨rfl, hb3⟩
        have HD := Lib.hid (HT.out _ _ HB2.out.1 hb3)
        clear hb3
        go_wp2
        go_ret
        exact ⟨rfl, HD.out⟩
  · have x0 : 0 < N := by omega
    have x1 : N ≤ 2000 := by omega
    have x2 : s.size ≤ 20000 := by omega
    have y0 : ((N : Int) == 0) = false := by rw [beq_eq_false_iff_ne]; omega
    have y1 : ¬ (2000 : Int) < N := by omega
    have y2 : ¬ (20000 : Int) < s.size := by omega
    clear hout
    go_wp2_with fail
    refine (HP1.out _ HB2.out.1).mono ?_
    rintro e w3 ⟨p3, m3, q3, rfl, hq3, hqq3, hb3⟩
    have HQ3 := Lib.hid hqq3
    have HB3 := Lib.hid (And.intro (HT.out _ _ HB2.out.1 hb3) (HB2.out.2.below hb3))
    clear hqq3 hb3
    go_wp2
    go_loopw [9, 10] (fun b i wr => ∃ (k : Nat), k ≤ N ∧ b = .string ⟨(lineT (ws.take k)).toArray⟩ ∧ i = .int .i64 k ∧ Below w.heap.size w wr ∧ Wds wr (.slice ao N cp) ws) (fun _ i _ => N - (intOf i).toNat)
    case atStart => exact ⟨0, Nat.zero_le _, rfl, rfl, HB3.out.1, by have := HB3.out.2; rw [HN.out] at this; exact this⟩
    case round =>
      obtain ⟨k, hk, rfl, rfl, hbr, hwr⟩ := hrel
      have HBR := Lib.hid (And.intro hbr hwr)
      clear hbr hwr
      by_cases hlt : k < N
      · have hkw : k < ws.length := by rw [HN.out]; exact hlt
        have hok := HOk.out _ (List.getElem_mem hkw)
        have KT := Lib.hid (fun W h => told4_any ws[k] W hok (HVab.out W h))
        have HJ := Lib.hid (lineT_succ ws k hkw)
        have hle := told4_len hok
        have hle2 : (lineT (ws.take k)).length ≤ 16390000 := by
          have := lineT_len (ws.take k) fun x hx => HOk.out x (List.mem_of_mem_take hx)
          rw [List.length_take] at this
          omega
        obtain ⟨b1, o1, rfl, c0, c1, c2, c3⟩ := HBR.out.2.at k hkw
        obtain ⟨x, hx⟩ : ∃ x, ws[k]'hkw = x := ⟨_, rfl⟩
        rw [hx] at c0 c1 c2 c3 KT HJ hle
        obtain ⟨kk, sl, nn, ll⟩ := x
        have KT2 : Hid (∀ W, Below w.heap.size w W → Calls Tryz.prog 14 #[.agg #[.int .u8 kk, .string ⟨sl.toArray⟩, .int .i64 nn, .int .i64 ll]] W fun e w' => e = .returned (.string ⟨(LX.toldW ⟨kk, sl, nn, ll⟩).toArray⟩) ∧ Below W.heap.size W w') := KT.out
        generalize (⟨sl.toArray⟩ : ByteArray) = ss at c1 KT2
        obtain ⟨tl, htl⟩ : ∃ tl, LX.toldW ⟨kk, sl, nn, ll⟩ = tl := ⟨_, rfl⟩
        rw [htl] at KT2 HJ hle
        obtain ⟨tb, htb⟩ : ∃ tb : ByteArray, (⟨tl.toArray⟩ : ByteArray) = tb := ⟨_, rfl⟩
        obtain ⟨yb, hyb⟩ : ∃ yb : ByteArray, (⟨(lineT (ws.take k)).toArray⟩ : ByteArray) = yb := ⟨_, rfl⟩
        have htz : tb.size ≤ 8194 := by rw [← htb]; show tl.toArray.size ≤ _; simpa using hle
        have hyz : yb.size ≤ 16390000 := by rw [← hyb]; show (lineT (ws.take k)).toArray.size ≤ _; simpa using hle2
        have HNX : Hid ((yb ++ tb) ++ (⟨#[10]⟩ : ByteArray) = ⟨(lineT (ws.take (k + 1))).toArray⟩) := by
          rw [HJ.out, ← htb, ← hyb]
          apply ByteArray.ext
          simp
        rw [htb] at KT2
        rw [hyb]
        clear KT hx htl htb hyb hok hle hle2 HJ
        have y2 : (0 : Int) ≤ k := by omega
        have y3 : (k : Int) < N := by omega
        have y4 : k < cp := by omega
        go_wp2_with fail
        refine (KT2.out _ HBR.out.1).mono ?_
        rintro e w4 ⟨rfl, hb4⟩
        have HB4 := Lib.hid (And.intro (HT.out _ _ HBR.out.1 hb4) (HBR.out.2.below hb4))
        clear hb4 c0 c1 c2 c3
        go_wp2
        go_roundw
        case rel => exact ⟨k + 1, by omega, by rw [← HNX.out], by go_num, HB4.out.1, HB4.out.2⟩
        case measure => simp [intOf]; try omega
      · obtain rfl : k = N := by omega
        have htk : ws.take k = ws := List.take_of_length_le (by rw [HN.out]; exact Nat.le_refl _)
        rw [htk]
        have hOk := HOk.out
        have hne : ren 0 ws ≠ [] := by intro e; have := ren_length ws 0; rw [e, HN.out] at this; simp at this; omega
        have hle2 : (lineT ws).length ≤ 16390000 := by
          have := lineT_len ws hOk
          have := HN.out
          omega
        have hlex := LX.lex_told
        clear hlex
        have hlexA := lex_ahead ws k hOk
        rw [htk, List.take_of_length_le (by rw [ren_length, HN.out]; exact Nat.le_refl _)] at hlexA
        obtain ⟨yb, hyb⟩ : ∃ yb : ByteArray, (⟨(lineT ws).toArray⟩ : ByteArray) = yb := ⟨_, rfl⟩
        have hyd : yb.data.toList = lineT ws := by rw [← hyb]
        have hyz : yb.size = (lineT ws).length := by rw [← hyd]; simp
        rw [hyb]
        have hsame : (∃ q, parseP ws = .inl q) ↔ ∃ q, parseP (ren 0 ws) = .inl q := parse_same (ren_nol ws 0).symm
        by_cases hbig : 65536 < yb.size
        · have g1 : (65536 : Int) < (yb.size : Int) := by omega
          have g2 : (yb.size : Int) ≤ 16390000 := by omega
          clear hlexA hyd hyz hyb hle2
          go_wp2
          go_ret
          exact ⟨rfl, HBR.out.1⟩
        · have g1 : ¬ (65536 : Int) < (yb.size : Int) := by omega
          have hPT := fun W (h : Below w.heap.size w W) => parse_any yb W (by omega) (HTab.out W h)
          rw [hyd, hlexA] at hPT
          cases hq : parseP (ren 0 ws) with
          | inr l =>
            have hpos := parse_ok_pos hq hne
            have HPT : Hid (∀ W, Below w.heap.size w W → Calls Tryz.prog 8 #[.string yb] W fun e w' => ∃ a n c, 0 < n ∧ e = .returned (.tuple #[.slice a n c, .int .i64 0, .int .i64 0]) ∧ Below W.heap.size W w') := fun W h => (hPT W h).mono fun e w' hp => by
              unfold PostParse at hp
              dsimp only at hp
              rw [hq] at hp
              obtain ⟨⟨v, he, a, n, c, rfl, -, hn, -⟩, hb⟩ := hp
              exact ⟨a, n, c, by omega, he, hb⟩
            have hq0 : q3 = 0 := by
              rcases hq3 with h | h
              · exact h
              · obtain ⟨j, hj⟩ := hsame.1 (HQ3.out.1 h)
                rw [hq] at hj; cases hj
            subst hq0
            have y3 : ¬ ((k : Int) ≤ 0) := by omega
            clear hPT hlexA hyd hyz hyb hle2 hq hpos hsame hne hOk htk hq3
            go_wp2_with fail
            refine (HPT.out _ HBR.out.1).mono ?_
            rintro e w4 ⟨a4, n4, c4, hn4, rfl, hb4⟩
            have HB4 := Lib.hid (HT.out _ _ HBR.out.1 hb4)
            clear hb4
            have y4 : (0 : Int) < n4 := by omega
            go_wp2
            go_ret
            exact ⟨rfl, HB4.out⟩
          | inl ln =>
            obtain ⟨hlt, hto, hend⟩ := parse_lines (ren_lined ws) hne hq
            rw [ren_length, HN.out] at hlt hend
            have HPT : Hid (∀ W, Below w.heap.size w W → Calls Tryz.prog 8 #[.string yb] W fun e w' => e = .returned (.tuple #[.slice none 0 0, .int .i64 (ln : Int), .int .i64 5]) ∧ Below W.heap.size W w') := fun W h => (hPT W h).mono fun e w' hp => by
              unfold PostParse at hp
              dsimp only at hp
              rw [hq] at hp
              exact hp
            have hq5 : q3 = 5 := by
              rcases hq3 with h | h
              · have := HQ3.out.2 (hsame.2 ⟨ln, hq⟩); omega
              · exact h
            subst hq5
            have hsz : ∀ i, i ≤ k → (⟨(lineT (ws.take i)).toArray⟩ : ByteArray).size ≤ 65536 := fun i hi => by
              show (lineT (ws.take i)).toArray.size ≤ _
              have := lineT_le ws i k hi
              rw [htk] at this
              simp only [List.size_toArray]
              omega
            have HSZ := Lib.hid hsz
            have HPA : Hid (∀ i, i ≤ ln → ∀ W, Below w.heap.size w W → Calls Tryz.prog 8 #[.string ⟨(lineT (ws.take i)).toArray⟩] W fun e w' => ∃ (v : Value) (m q : Nat), e = .returned (.tuple #[v, .int .i64 (m : Int), .int .i64 (q : Int)]) ∧ (q = 0 ∨ q = 5 ∧ m = i - 1) ∧ Below W.heap.size W w') := fun i hi W h => (parse_any _ W (hsz i (by omega)) (HTab.out W h)).mono fun e w' hp => by
              unfold PostParse at hp
              dsimp only at hp
              rw [lex_ahead ws i hOk] at hp
              dsimp only at hp
              rcases hto i hi with ⟨l, hl⟩ | hl
              · rw [hl] at hp
                obtain ⟨⟨v, he, -⟩, hb⟩ := hp
                exact ⟨v, 0, 0, he, Or.inl rfl, hb⟩
              · rw [hl] at hp
                exact ⟨_, i - 1, 5, hp.1, Or.inr ⟨rfl, rfl⟩, hp.2⟩
            have HPL : Hid (∀ W, Below w.heap.size w W → Calls Tryz.prog 8 #[.string ((⟨(lineT (ws.take (ln + 1))).toArray⟩ : ByteArray) ++ ⟨#[40, 10]⟩)] W fun e w' => ∃ (v : Value) (m q : Nat), e = .returned (.tuple #[v, .int .i64 (m : Int), .int .i64 (q : Int)]) ∧ (ln + 1 = k ∨ q = 5 ∧ m = ln) ∧ Below W.heap.size W w') := fun W h => by
              have hd : ((⟨(lineT (ws.take (ln + 1))).toArray⟩ : ByteArray) ++ ⟨#[40, 10]⟩).data.toList = lineT (ws.take (ln + 1)) ++ [40, 10] := by simp
              have hz2 : ((⟨(lineT (ws.take (ln + 1))).toArray⟩ : ByteArray) ++ ⟨#[40, 10]⟩).size = (lineT (ws.take (ln + 1))).length + 2 := by
                show _ = _
                rw [ByteArray.size_append]
                show (lineT (ws.take (ln + 1))).toArray.size + 2 = _
                simp
              have hz3 := lineT_le ws (ln + 1) k (by omega)
              rw [htk] at hz3
              by_cases hb2 : 65536 < ((⟨(lineT (ws.take (ln + 1))).toArray⟩ : ByteArray) ++ ⟨#[40, 10]⟩).size
              · have hk1 : ln + 1 = k := by
                  rcases Nat.eq_or_lt_of_le hlt with hc | hc
                  · exact hc
                  · have hl2 : ln + 1 < ws.length := by rw [HN.out]; exact hc
                    have h5 := lineT_le ws (ln + 1 + 1) k (by omega)
                    rw [htk, lineT_succ ws (ln + 1) hl2] at h5
                    have h6 := told4_pos (hOk _ (List.getElem_mem hl2))
                    simp only [List.length_append, List.length_cons, List.length_nil] at h5
                    omega
                exact (parse_big _ W hb2 (by omega)).mono fun e w' ⟨he, hb⟩ => ⟨_, 0, 3, he, Or.inl hk1, hb⟩
              · refine (parse_any _ W (by omega) (HTab.out W h)).mono fun e w' hp => ?_
                unfold PostParse at hp
                obtain ⟨x, hx⟩ := lex_after ws (ln + 1) hOk
                rw [hd, hx] at hp
                dsimp only at hp
                obtain ⟨hp, hb⟩ := hp
                cases hr2 : parseP ((ren 0 ws).take (ln + 1) ++ [x]) with
                | inl j =>
                  rw [hr2] at hp
                  refine ⟨_, j, 5, hp, ?_, hb⟩
                  rcases hend with h7 | h7
                  · exact Or.inl h7
                  · right
                    have := h7 x
                    rw [hr2] at this
                    injection this with this
                    exact ⟨rfl, this⟩
                | inr l =>
                  rw [hr2] at hp
                  obtain ⟨v, he, -⟩ := hp
                  refine ⟨v, 0, 0, he, ?_, hb⟩
                  rcases hend with h7 | h7
                  · exact Or.inl h7
                  · have := h7 x
                    rw [hr2] at this
                    cases this
            have y3 : ¬ ((k : Int) ≤ ln) := by omega
            have y3n : ¬ (k ≤ ln) := by omega
            clear hPT hlexA hyd hyz hyb hle2 hq hsame hne htk hq3 hsz hto hend hbig
            go_wp2_with fail
            refine (HPT.out _ HBR.out.1).mono ?_
            rintro e w4 ⟨rfl, hb4⟩
            have HB4 := Lib.hid (And.intro (HT.out _ _ HBR.out.1 hb4) (HBR.out.2.below hb4))
            clear hb4
            go_wp2
            go_loopw [2, 14, 15] (fun u b i wr => ∃ (j : Nat), j ≤ ln + 1 ∧ b = .string ⟨(lineT (ws.take j)).toArray⟩ ∧ i = .int .i64 j ∧ Below w.heap.size w wr ∧ Wds wr (.slice ao k cp) ws) (fun _ _ i _ => ln + 1 - (intOf i).toNat)
            case atStart => exact ⟨0, Nat.zero_le _, rfl, rfl, HB4.out.1, HB4.out.2⟩
            case round =>
              obtain ⟨j, hj, rfl, rfl, hbr, hwr⟩ := hrel
              have HB5 := Lib.hid (And.intro hbr hwr)
              clear hbr hwr
              by_cases hlt2 : j ≤ ln
              · have hkw : j < ws.length := by rw [HN.out]; omega
                have hok := HOk.out _ (List.getElem_mem hkw)
                have KT := Lib.hid (fun W h => told4_any ws[j] W hok (HVab.out W h))
                have HJ := Lib.hid (lineT_succ ws j hkw)
                have HPJ := Lib.hid (HPA.out j hlt2)
                have hle := told4_len hok
                have hle2 : (lineT (ws.take j)).length ≤ 16390000 := by
                  have := lineT_len (ws.take j) fun x hx => HOk.out x (List.mem_of_mem_take hx)
                  rw [List.length_take] at this
                  omega
                obtain ⟨x, hx⟩ : ∃ x, ws[j]'hkw = x := ⟨_, rfl⟩
                have HAT : Hid (∀ W, Wds W (.slice ao k cp) ws → _) := fun W h => h.at j hkw
                rw [hx] at KT HJ hle HAT
                obtain ⟨kk, sl, nn, ll⟩ := x
                have KT2 : Hid (∀ W, Below w.heap.size w W → Calls Tryz.prog 14 #[.agg #[.int .u8 kk, .string ⟨sl.toArray⟩, .int .i64 nn, .int .i64 ll]] W fun e w' => e = .returned (.string ⟨(LX.toldW ⟨kk, sl, nn, ll⟩).toArray⟩) ∧ Below W.heap.size W w') := KT.out
                generalize (⟨sl.toArray⟩ : ByteArray) = ss at HAT KT2
                obtain ⟨tl, htl⟩ : ∃ tl, LX.toldW ⟨kk, sl, nn, ll⟩ = tl := ⟨_, rfl⟩
                rw [htl] at KT2 HJ hle
                obtain ⟨tb, htb⟩ : ∃ tb : ByteArray, (⟨tl.toArray⟩ : ByteArray) = tb := ⟨_, rfl⟩
                obtain ⟨yc, hyc⟩ : ∃ yc : ByteArray, (⟨(lineT (ws.take j)).toArray⟩ : ByteArray) = yc := ⟨_, rfl⟩
                have htz : tb.size ≤ 8194 := by rw [← htb]; show tl.toArray.size ≤ _; simpa using hle
                have hcz : yc.size ≤ 16390000 := by rw [← hyc]; show (lineT (ws.take j)).toArray.size ≤ _; simpa using hle2
                have HNX : Hid ((yc ++ tb) ++ (⟨#[10]⟩ : ByteArray) = ⟨(lineT (ws.take (j + 1))).toArray⟩) := by
                  rw [HJ.out, ← htb, ← hyc]
                  apply ByteArray.ext
                  simp
                rw [htb] at KT2
                rw [hyc] at HPJ ⊢
                clear KT hx htl htb hyc hok hle hle2 HJ
                have g1 : (j : Int) ≤ ln := by omega
                go_wp2_with fail
                refine (HPJ.out _ HB5.out.1).mono ?_
                rintro e w6 ⟨p6, m6, q6, rfl, hq6, hb6⟩
                have HB6 := Lib.hid (And.intro (HT.out _ _ HB5.out.1 hb6) (HB5.out.2.below hb6))
                clear hb6
                obtain ⟨b1, o1, hao, c0, c1, c2, c3⟩ := HAT.out _ HB6.out.2
                subst hao
                have z2 : (0 : Int) ≤ j := by omega
                have z3 : (j : Int) < k := by omega
                have z4 : j < cp := by omega
                rcases hq6 with rfl | ⟨rfl, rfl⟩
                · clear HAT
                  go_wp2_with fail
                  refine (KT2.out _ HB6.out.1).mono ?_
                  rintro e w8 ⟨rfl, hb8⟩
                  have HB8 := Lib.hid (And.intro (HT.out _ _ HB6.out.1 hb8) (HB6.out.2.below hb8))
                  clear hb8 c0 c1 c2 c3
                  go_wp2
                  go_roundw
                  case rel => exact ⟨j + 1, by omega, by rw [← HNX.out], by go_num, HB8.out.1, HB8.out.2⟩
                  case measure => simp [intOf]; try omega
                · cases j with
                  | zero =>
                    clear HAT
                    simp only [Nat.zero_mul, Nat.add_zero] at c0 c1 c2 c3
                    go_wp2_with fail
                    refine (KT2.out _ HB6.out.1).mono ?_
                    rintro e w8 ⟨rfl, hb8⟩
                    have HB8 := Lib.hid (And.intro (HT.out _ _ HB6.out.1 hb8) (HB6.out.2.below hb8))
                    clear hb8 c0 c1 c2 c3
                    go_wp2
                    go_roundw
                    case rel => exact ⟨0 + 1, by omega, by rw [← HNX.out], by go_num, HB8.out.1, HB8.out.2⟩
                    case measure => simp [intOf]; try omega
                  | succ j =>
                    have z1 : IntKind.i64.wrap ((j : Int) + 1 - 1) = (j : Int) := by rw [show (j : Int) + 1 - 1 = (j : Int) by omega]; exact IntWalk.i64_in _ (by omega)
                    have z5 : (0 : Int) ≤ j := by omega
                    clear HAT
                    go_wp2_with fail
                    refine (KT2.out _ HB6.out.1).mono ?_
                    rintro e w8 ⟨rfl, hb8⟩
                    have HB8 := Lib.hid (And.intro (HT.out _ _ HB6.out.1 hb8) (HB6.out.2.below hb8))
                    clear hb8 c0 c1 c2 c3
                    go_wp2
                    go_roundw
                    case rel => exact ⟨j + 1 + 1, by omega, by rw [← HNX.out], by go_num, HB8.out.1, HB8.out.2⟩
                    case measure => simp [intOf]; try omega
              · obtain rfl : j = ln + 1 := by omega
                have g1 : ¬ ((ln : Int) + 1 ≤ ln) := by omega
                have hzb := HSZ.out (ln + 1) (by omega)
                generalize (⟨(lineT (ws.take (ln + 1))).toArray⟩ : ByteArray) = zb at HPL hzb ⊢
                go_wp2_with fail
                refine (HPL.out _ HB5.out.1).mono ?_
                rintro e w6 ⟨p6, m6, q6, rfl, hq6, hb6⟩
                have HB6 := Lib.hid (HT.out _ _ HB5.out.1 hb6)
                clear hb6
                by_cases hl : ln + 1 = k
                · have y5 : IntKind.i64.wrap ((k : Int) - 1) = (ln : Int) := by rw [show (k : Int) - 1 = (ln : Int) by omega]; exact IntWalk.i64_in _ (by omega)
                  go_wp2
                  go_ret
                  exact ⟨rfl, HB6.out⟩
                · obtain ⟨rfl, rfl⟩ : q6 = 5 ∧ m6 = ln := by rcases hq6 with h | h; exact absurd h hl; exact h
                  obtain ⟨z, hz⟩ : ∃ z, k = z + 1 := ⟨k - 1, by omega⟩
                  have y5 : IntKind.i64.wrap ((k : Int) - 1) = (z : Int) := by rw [show (k : Int) - 1 = (z : Int) by omega]; exact IntWalk.i64_in _ (by omega)
                  have y6 : ((m6 : Int) == (z : Int)) = false := by rw [beq_eq_false_iff_ne]; omega
                  go_wp2
                  go_ret
                  exact ⟨rfl, HB6.out⟩

/-- ParseLines, of any text. -/
theorem plines_any (s : ByteArray) (w : World) (ht : LTabs w) (hv : VTabs w) (hs : s.size ≤ 140737488355328) :
    Calls Tryz.prog 5 #[.string s] w fun e w' => e = .returned (.bool true) ∧ Below w.heap.size w w' := by
  by_cases h1 : s.size ≤ 65536
  · cases hr : LX.lex 0 s.data.toList with
    | err n =>
      refine lines_err s w ht hv (fun W hW => ⟨n, 4, by decide, by decide, (words_any s W h1 hW).mono fun e w' hp => ?_⟩)
      unfold PostWords at hp
      rw [hr] at hp
      exact hp
    | ok ws => exact lines_ok s ws w ht hv h1 hr
  · refine lines_err s w ht hv (fun W hW => ⟨0, 3, by decide, by decide, (words_big s W (by omega) hs).mono fun e w' hp => ?_⟩)
    obtain ⟨rfl, rfl⟩ := hp
    exact ⟨rfl, Below.refl _ _⟩
end Go.Proofs.YtdlmemalefhgmaaGreatDoor
