/-
  Walks: parse.Parse of whatever text ('parse_two'); the print laws' own check ('alive_any'); PrintAgain.
  Conditions: the package's variables hold what the program's text lays in them; the text is no longer than the reach.
-/
import Derived.Test.YtedmmgfnplbkjaaGreatDoorPrT
import Derived.Test.YtedmmgfnplbkjaaGreatDoorParWh
namespace Go.Proofs.YtedmmgfnplbkjaaGreatDoor.PR
set_option linter.unusedVariables false
set_option linter.unusedSimpArgs false
open Go.Proofs.YtedmmgfnplbkjaaGreatDoor Go.RowKit G
set_option maxRecDepth 100000 in
set_option maxHeartbeats 8000000 in
theorem parse_big (s : ByteArray) (W : World) (hs : 65536 < s.size) (hr : s.size ≤ 140737488355328) :
    Calls Tryz.prog 9 #[.string s] W (fun e w' => e = .returned (.tuple #[.slice none 0 0, .int .i64 0, .int .i64 3]) ∧ Below W.heap.size W w') := by
  have hmf : ∀ (fn : Fn) (first cap : Array Value) (w : World), (Instr.makeFunc fn first cap).run Tryz.prog w = .ok (.func fn first cap) w := fun _ _ _ _ => rfl
  have hslen : s.data.toList.length = s.size := by simp
  obtain ⟨n, hn⟩ : ∃ n, W.heap.size = n := ⟨_, rfl⟩
  obtain ⟨Wa, hWa⟩ : ∃ Wa, ((W.alloc (.cells #[.slice none 0 0] 23)).alloc (.cells #[.int .i64 0] 3)).alloc (.cells #[.int .i64 0] 24) = Wa := ⟨_, rfl⟩
  have hza : Wa.heap.size = n + 3 := by rw [← hWa, ← hn]; simp
  have hba : Below n W Wa := by rw [← hWa, ← hn]; exact ((((Below.refl _ _).alloc (Nat.le_refl _) _).alloc (by simp) _).alloc (by simp; omega) _)
  have hp0 : Wa.heap[n]? = some (.cells #[.slice none 0 0] 23 (0, 0)) := by
    rw [← hWa, ← hn, Below.heap_alloc _ _ _ (by simp; omega), Below.heap_alloc _ _ _ (by simp)]; exact heap_alloc_new _ _
  have hl0 : Wa.heap[n + 1]? = some (.cells #[.int .i64 0] 3 (0, 0)) := by
    rw [← hWa, ← hn, Below.heap_alloc _ _ _ (by simp)]; exact new2b _ _ _ _
  have he0 : Wa.heap[n + 1 + 1]? = some (.cells #[.int .i64 0] 24 (0, 0)) := by
    rw [← hWa, ← hn]; have := heap_alloc_new ((W.alloc (.cells #[.slice none 0 0] 23)).alloc (.cells #[.int .i64 0] 3)) (.cells #[.int .i64 0] 24); simpa using this
  have HW := Lib.hid (words_big s Wa hs hr)
  have HP0 := Lib.hid hp0
  have HL0 := Lib.hid hl0
  have HE0 := Lib.hid he0
  have HBA := Lib.hid hba
  obtain ⟨post, hpost⟩ : ∃ p, (fun e w' => e = Ending.returned (.tuple #[.slice none 0 0, .int .i64 0, .int .i64 3]) ∧ Below W.heap.size W w') = p := ⟨_, rfl⟩
  rw [hpost]
  have HPO := Lib.hid hpost
  have HNN := Lib.hid hn
  clear hpost hp0 hl0 he0 hba
  go_enter_defers Tryz.func9, Tryz.ntmps9
  go_upto_region 2 with (go_at_call 23; (with_reducible refine HW.out.mono ?_); rintro e1 w1 hq1; obtain ⟨rfl, hw1⟩ := hq1; have hb1 : Below Wa.heap.size Wa w1 := hw1 ▸ Below.refl _ _; clear hw1; have HB1 := Lib.hid hb1; obtain ⟨p0, fp⟩ := blk1 ((HB1.out.block n (by omega)).trans HP0.out); obtain ⟨l0, fl⟩ := blk1 ((HB1.out.block (n + 1) (by omega)).trans HL0.out); obtain ⟨e0, fe⟩ := blk1 ((HB1.out.block (n + 1 + 1) (by omega)).trans HE0.out))
  go_wp2
  go_region
  go_wp2
  have h3 : Three n (.slice none 0 0) (.int .i64 0) (.int .i64 0) w1 := Three.keep ⟨HP0.out, HL0.out, HE0.out⟩ (fun b hb => HB1.out.block b (by omega))
  have h9 := ((((h3.l (.int .i64 0)).e (.int .i64 3)).p (.slice none 0 0)).l (.int .i64 0)).e (.int .i64 3)
  obtain ⟨⟨z0, z1, z2⟩, -⟩ := h9.cells
  have hb := HBA.out.trans (HB1.out.mono (show n ≤ Wa.heap.size by omega))
  have hb9 : Below n W _ := (((((hb.setCell (p := ⟨n + 1, 0, none⟩) (Nat.le_succ _) (.int .i64 0)).setCell (p := ⟨n + 1 + 1, 0, none⟩) (by show n ≤ n + 1 + 1; omega) (.int .i64 3)).setCell (p := ⟨n, 0, none⟩) (Nat.le_refl _) (.slice none 0 0)).setCell (p := ⟨n + 1, 0, none⟩) (Nat.le_succ _) (.int .i64 0)).setCell (p := ⟨n + 1 + 1, 0, none⟩) (by show n ≤ n + 1 + 1; omega) (.int .i64 3))
  revert z0 z1 z2 hb9
  clear h9 h3 hb
  generalize (World.setCell (World.setCell (World.setCell (World.setCell (World.setCell w1 _ _) _ _) _ _) _ _) _ _) = W9
  intro z0 z1 z2 hb9
  simp [bodyPostD, Leaves, settle, results, Tryz.results9, go_sem, *]
  rw [← HPO.out]
  refine ⟨rfl, ?_⟩
  rw [HNN.out]
  exact hb9.drew
theorem parse_two (s : ByteArray) (hr : s.size ≤ 140737488355328) :
    (∃ n q : Int, q ≠ 0 ∧ ∀ W, LTabs W → Calls Tryz.prog 9 #[.string s] W fun e w' => e = .returned (.tuple #[.slice none 0 0, .int .i64 n, .int .i64 q]) ∧ Below W.heap.size W w') ∨
    (∃ ws l, LX.lex 0 s.data.toList = .ok ws ∧ parseP ws = .inr l ∧ s.size ≤ 65536 ∧ ∀ W, LTabs W → Calls Tryz.prog 9 #[.string s] W fun e w' => ∃ v, e = .returned (.tuple #[v, .int .i64 0, .int .i64 0]) ∧ FSl ShC 46 13 W.heap.size l v w' ∧ Below W.heap.size W w') := by
  rcases Nat.lt_or_ge 65536 s.size with hs | hs
  · exact .inl ⟨0, 3, by decide, fun W _ => parse_big s W hs hr⟩
  · cases hl : LX.lex 0 s.data.toList with
    | err n => exact .inl ⟨n, 4, by decide, fun W ht => parse_none s W hs ht (n := n) (e := 4) (by rw [hl]; exact ⟨rfl, rfl⟩)⟩
    | ok ws =>
      cases hp : parseP ws with
      | inl n => exact .inl ⟨n, 5, by decide, fun W ht => parse_none s W hs ht (n := n) (e := 5) (by rw [hl]; dsimp only; rw [hp]; exact ⟨rfl, rfl⟩)⟩
      | inr l => exact .inr ⟨ws, l, rfl, hp, hs, fun W ht => parse_some s W hs ht hl hp⟩
abbrev PT (l : List (List T)) : T := ofRows 13 l
theorem fsl_rep {B : Nat} {l : List (List T)} {v : Value} {W : World} (h : FSl ShC 46 13 B l v W) : (PT l).Rep W yes v := by
  obtain ⟨a, n, cap, rfl, hf, rfl, h6⟩ := h
  exact hf.rep.keep (Nat.le_refl _) (fun _ _ _ => trivial) (fun _ _ _ => rfl)
theorem rep_below {t : T} {v : Value} {W W' : World} (h : t.Rep W yes v) (hb : Below W.heap.size W W') : t.Rep W' yes v :=
  h.keep hb.size (fun _ _ _ => trivial) (fun b _ hlt => hb.block b hlt)
def rowOf (l : List (List T)) : Nat → Nat → T := fun i j => (l.getD i []).getD j default
theorem rowOf_at {l : List (List T)} {i : Nat} (hi : i < l.length) : rowOf l i = at_ l[i] := by
  funext j
  show (l.getD i []).getD j default = _
  rw [getD_at hi]
  rfl
theorem well_made {ws : List LX.LW} {l : List (List T)} (hw : ∀ w ∈ ws, LX.OkW w) (h : parseP ws = .inr l) : (∀ i, i < l.length → WC (rowOf l i)) ∧ ∀ i, i < l.length → ∀ j, j < 13 → Rg (rowOf l i j) := by
  refine ⟨fun i hi => ?_, fun i hi j _ => ?_⟩
  · rw [rowOf_at hi]
    exact (parse_comps (fun w hm => okw_len (hw w hm)) h _ (List.getElem_mem hi)).2.1
  · rw [rowOf_at hi]
    exact rg_getD (parse_rg hw h _ (List.getElem_mem hi)) j
def srcA : Str := [40, 99, 111, 109, 112, 32, 65, 112, 112, 32, 112, 40, 108, 101, 116, 32, 120, 32, 45, 53, 41, 40, 115, 104, 111, 119, 40, 104, 111, 115, 116, 32, 45, 32, 100, 105, 118, 40, 41, 120, 34, 97, 34, 41, 41, 41]
def dstA : Str := [40, 99, 111, 109, 112, 32, 65, 112, 112, 32, 112, 32, 40, 108, 101, 116, 32, 120, 32, 45, 53, 41, 32, 40, 115, 104, 111, 119, 32, 40, 104, 111, 115, 116, 32, 45, 32, 100, 105, 118, 32, 40, 41, 32, 120, 32, 34, 97, 34, 41, 41, 41, 10]
theorem itoa5 : Lib.itoa (-5) = [45, 53] := by
  have : Lib.decDigits 5 = [UInt8.ofNat (48 + 5)] := by rw [Lib.decDigits, dif_pos (by decide)]
  unfold Lib.itoa
  rw [if_pos (by decide)]
  simpa using this
theorem lex_one {w : LX.LW} (hw : LX.OkW w) (h0 : w.line = 0) (c : UInt8) (r : Str) (hc : LX.isNB c = false) : LX.lex 0 (LX.toldW w ++ c :: r) = (LX.lex 0 (c :: r)).cons w := by
  rw [LX.lex_told 0 hw _ (fun d t e => by injection e with e _; subst e; exact hc)]
  congr 1
  rw [← h0]
theorem okN {s : Str} (h1 : s ≠ []) (h2 : s.length ≤ 4096) (h3 : LX.begNum s = false) (h4 : s.all LX.isNB = true) : LX.OkW (wN s) := .inr (.inr (.inr (.inr ⟨rfl, rfl, h1, h2, h3, List.all_eq_true.1 h4⟩)))
def restA : Str := [41, 40, 115, 104, 111, 119, 40, 104, 111, 115, 116, 32, 45, 32, 100, 105, 118, 40, 41, 120, 34, 97, 34, 41, 41, 41]
def wsA : List LX.LW := [wO, wN [99, 111, 109, 112], wN [65, 112, 112], wN [112], wO, wN [108, 101, 116], wN [120], wI (-5), wC, wO, wN [115, 104, 111, 119], wO, wN [104, 111, 115, 116], wN [45], wN [100, 105, 118], wO, wC, wN [120], wT [97], wC, wC, wC]
set_option maxRecDepth 100000 in
theorem lex_rest : LX.lex 0 restA = .ok (wsA.drop 8) := by rfl
set_option maxRecDepth 100000 in
theorem alive_lex : LX.lex 0 srcA = .ok wsA := by
  have e : srcA = 40 :: (LX.toldW (wN [99, 111, 109, 112]) ++ 32 :: (LX.toldW (wN [65, 112, 112]) ++ 32 :: (LX.toldW (wN [112]) ++ 40 :: (LX.toldW (wN [108, 101, 116]) ++ 32 :: (LX.toldW (wN [120]) ++ 32 :: (LX.toldW (wI (-5)) ++ restA)))))) := by
    have : LX.toldW (wI (-5)) = [45, 53] := itoa5
    rw [this]
    rfl
  rw [e, lex_open, lex_one (okN (by decide) (by decide) (by decide) (by decide)) rfl 32 _ (by decide), LX.lex_blank _ _ _ (.inl rfl), lex_one (okN (by decide) (by decide) (by decide) (by decide)) rfl 32 _ (by decide), LX.lex_blank _ _ _ (.inl rfl),
    lex_one (okN (by decide) (by decide) (by decide) (by decide)) rfl 40 _ (by decide), lex_open, lex_one (okN (by decide) (by decide) (by decide) (by decide)) rfl 32 _ (by decide), LX.lex_blank _ _ _ (.inl rfl), lex_one (okN (by decide) (by decide) (by decide) (by decide)) rfl 32 _ (by decide), LX.lex_blank _ _ _ (.inl rfl)]
  have h := lex_one (w := wI (-5)) (.inr (.inr (.inr (.inl ⟨rfl, rfl, by decide, by decide⟩)))) rfl 41 (restA.drop 1) (by decide)
  rw [show LX.toldW (wI (-5)) ++ restA = LX.toldW (wI (-5)) ++ 41 :: restA.drop 1 from rfl, h, show (41 : UInt8) :: restA.drop 1 = restA from rfl, lex_rest]
  rfl
def compA : List T := cCols [65, 112, 112] [112] [sCols 1 [120] [] (eCols 1 (-5) [] [] [] [] 0 [] [] []) [] [] [] []] (eCols 11 0 [100, 105, 118] [eCols 4 0 [120] [] [] [] 0 [] [] [], eCols 3 0 [97] [] [] [] 0 [] [] []] [] [] 1 [] [] [])
set_option maxRecDepth 100000 in
theorem alive_parse : parseP wsA = .inr [compA] := by rfl
set_option maxRecDepth 100000 in
theorem alive_told : progW (rowOf [compA]) 1 = some [wsA] := by rfl
theorem alive_text : lines [wsA] = dstA := by
  have e : lay false wsA = dstA.take 19 ++ (Lib.itoa (-5) ++ (dstA.drop 21).dropLast) := by rfl
  rw [lines_cons, e, itoa5]
  rfl
def rowY : Nat → Nat → T := fun i j => if j = 1 then .sc (str [121, 101, 115]) else rowOf [compA] i j
set_option maxRecDepth 100000 in
theorem alive_not : progW rowY 1 = none := by rfl
theorem row_one_get {w : World} {ok : Nat → Prop} {x : List T} {vss : List (List Value)} (h : Rows2 w ok 13 [x] vss) : ∃ vs, vss = [vs] ∧ x.length = 13 ∧ Row w ok x vs := by
  cases h with
  | cons h k =>
    cases k
    exact ⟨_, rfl, h.1, h.2⟩
theorem alive_rep {B : Nat} {v : Value} {W : World} (h : FSl ShC 46 13 B [compA] v W) : ∃ g cap, v = .slice (some ⟨g, 0, none⟩) 1 cap ∧ 1 ≤ cap ∧ cap ≤ 9223372036854775807 ∧ B ≤ g ∧ W.frozen? ⟨g, 1, none⟩ = false ∧ (∃ y, W.cell? ⟨g, 1, none⟩ = some y) ∧ (T.ls 1 13 rowY).Rep (W.setCell ⟨g, 1, none⟩ (.string ⟨#[121, 101, 115]⟩)) yes v := by
  obtain ⟨a, n, cap, rfl, ⟨vss, h1, h2, h3⟩, rfl, -⟩ := h
  obtain ⟨vs, rfl, hl, hrow⟩ := row_one_get h2
  rcases id h1.2 with ⟨hv, h0⟩ | ⟨g, cap', cur, hv, hb, hg, k1, k2, k3, k4⟩
  · cases h0
  · cases hv
    have hcells : ∀ j, j < 13 → ∃ y, vs[j]? = some y ∧ (compA.getD j default).Rep W (fun b => B ≤ b ∧ some b ≠ (Value.slice (some ⟨g, 0, none⟩) 1 cap).ownBlock) y := fun j hj => hrow.get j (by rw [hl]; exact hj)
    have hat : ∀ j y, vs[j]? = some y → W.cell? ⟨g, j, none⟩ = some y := fun j y hy => by
      have := h1.cells (g := g) rfl j y (by simpa using hy)
      rw [Go.WideShapes.add_plain] at this
      simpa using this
    have hlt := tr_lt_of_block hg
    have hcap : cap ≤ 9223372036854775807 := by unfold maxLen at k2; exact k2
    obtain ⟨y1, hy1, -⟩ := hcells 1 (by decide)
    refine ⟨g, cap, rfl, k1, hcap, hb, Lib.frozen_of_heap hg 1, ⟨y1, hat 1 y1 hy1⟩, some ⟨g, 0, none⟩, cap, rfl, k1, k2, fun i hi => ?_⟩
    obtain rfl : i = 0 := by omega
    refine ⟨g, 0, rfl, trivial, by simpa [World.setCell] using hlt, fun j hj => ?_⟩
    have hs : W.heap.size ≤ (W.setCell ⟨g, 1, none⟩ (.string ⟨#[121, 101, 115]⟩)).heap.size := by simp [World.setCell]
    by_cases e : j = 1
    · subst e
      refine ⟨.string ⟨#[121, 101, 115]⟩, ?_, rfl⟩
      have h5 := set_row hg 1 (.string ⟨#[121, 101, 115]⟩)
      show (W.setCell ⟨g, 1, none⟩ _).cell? ⟨g, 1, none⟩ = _
      rw [Lib.cell_of_heap h5]
      have k1' : 1 ≤ cap := k1
      have hsz : 1 < cur.size := by omega
      simp [hsz]
    · obtain ⟨y, hy, hr⟩ := hcells j hj
      refine ⟨y, ?_, ?_⟩
      · have h5 := set_row hg 1 (.string ⟨#[121, 101, 115]⟩)
        have h6 := hat j y hy
        rw [Lib.cell_of_heap hg] at h6
        have e0 : 0 + 0 * 13 + j = j := by omega
        rw [e0, Lib.cell_of_heap h5]
        show (cur.setIfInBounds 1 _)[j]? = some y
        rw [Array.getElem?_setIfInBounds_ne (by omega)]
        exact h6
      · have hk : (compA.getD j default).Rep (W.setCell ⟨g, 1, none⟩ (.string ⟨#[121, 101, 115]⟩)) yes y := hr.keep hs (fun _ _ _ => trivial) (fun b hb2 _ => Below.heap_setCell _ _ _ _ (by show b ≠ g; intro e; exact hb2.2 (by rw [e]; rfl)))
        have e2 : rowY 0 j = compA.getD j default := by unfold rowY; rw [if_neg e]; rfl
        rw [e2]
        exact hk
set_option maxRecDepth 100000 in
set_option maxHeartbeats 8000000 in
theorem alive_any (w : World) (ht : LTabs w) : Calls Tryz.prog 10 #[] w fun e w' => e = .returned (.bool true) ∧ Below w.heap.size w w' := by
  have HP := Lib.hid (parse_some ⟨srcA.toArray⟩ w (by decide) ht (ws := wsA) (l := [compA]) (by show LX.lex 0 (⟨srcA.toArray⟩ : ByteArray).data.toList = _; rw [show (⟨srcA.toArray⟩ : ByteArray).data.toList = srcA by simp]; exact alive_lex) alive_parse)
  have hok : ∀ x ∈ wsA, LX.OkW x := fun x hx => ((LX.lex_sound 0 _ _ alive_lex).1 x hx).1
  have hwm := well_made hok alive_parse
  have HT1 : Hid (∀ W v, LTabs W → (PT [compA]).Rep W yes v → Calls Tryz.prog 11 #[v] W fun e w' => e = .returned (.tuple #[.string ⟨dstA.toArray⟩, .int .i64 0]) ∧ Below W.heap.size W w') := fun W v ht hv => by
    have h := text_any W ht 1 (rowOf [compA]) hwm.1 hwm.2 v hv
    rw [alive_told] at h
    refine h.mono fun e w' ⟨hb, he⟩ => ⟨?_, hb⟩
    replace he : (if 65536 < (lines [wsA]).length then e = .returned (.tuple #[.string ⟨#[]⟩, .int .i64 3]) else e = .returned (.tuple #[.string ⟨(lines [wsA]).toArray⟩, .int .i64 0])) := he
    rw [alive_text, if_neg (by decide)] at he
    exact he
  have hwy : ∀ i, i < 1 → WC (rowY i) := fun i hi => by
    obtain rfl : i = 0 := by omega
    have h := hwm.1 0 (by decide)
    exact ⟨h.1, ⟨_, rfl⟩, h.2.2⟩
  have hry : ∀ i, i < 1 → ∀ j, j < 13 → Rg (rowY i j) := fun i hi j hj => by
    unfold rowY
    split
    · exact rg_str _
    · exact hwm.2 i hi j hj
  have HT2 : Hid (∀ W v, LTabs W → (T.ls 1 13 rowY).Rep W yes v → Calls Tryz.prog 11 #[v] W fun e w' => e = .returned (.tuple #[.string ⟨#[]⟩, .int .i64 1]) ∧ Below W.heap.size W w') := fun W v ht hv => by
    have h := text_any W ht 1 rowY hwy hry v hv
    rw [alive_not] at h
    exact h.mono fun e w' ⟨hb, he⟩ => ⟨he, hb⟩
  have HL := Lib.hid (fun W (hb : Below w.heap.size w W) => ht.below hb ht.gb)
  have HR := Lib.hid (fun W v (h : FSl ShC 46 13 w.heap.size [compA] v W) => alive_rep h)
  have HF := Lib.hid (fun W W' v (h : FSl ShC 46 13 w.heap.size [compA] v W) (hb : Below W.heap.size W W') => (show FSl ShC 46 13 w.heap.size [compA] v W' from by
    obtain ⟨a, n, cap, e, hf, h1, h2⟩ := h
    exact ⟨a, n, cap, e, hf.keepB hb, h1, h2⟩))
  have hd : (dstA == [40, 99, 111, 109, 112, 32, 65, 112, 112, 32, 112, 32, 40, 108, 101, 116, 32, 120, 32, 45, 53, 41, 32, 40, 115, 104, 111, 119, 32, 40, 104, 111, 115, 116, 32, 45, 32, 100, 105, 118, 32, 40, 41, 32, 120, 32, 34, 97, 34, 41, 41, 41, 10]) = true := by decide
  clear ht hok hwm hwy hry
  go_enter Tryz.func10, Tryz.ntmps10
  go_wp2_with fail
  refine HP.out.mono ?_
  rintro e1 w1 ⟨v, rfl, hfs, hb1⟩
  have HFS := Lib.hid hfs
  have HB1 := Lib.hid hb1
  have HT := Lib.hid (HT1.out w1 v (HL.out _ hb1) (fsl_rep hfs))
  clear hfs hb1
  go_wp2_with (go_at_call 11; (with_reducible refine HT.out.mono ?_); rintro e2 w2 ⟨rfl, hb2⟩; have HB2 := Lib.hid (HB1.out.trans (hb2.mono HB1.out.size)); have HFS2 := Lib.hid (HF.out _ _ _ HFS.out hb2); obtain ⟨g, cap, rfl, k1, k2, k3, k4, ⟨y, k5⟩, hrep⟩ := HR.out _ _ HFS2.out; have k6 : (0 : Int) < 1 := (by decide))
  have HB3 : Hid (Below w.heap.size w (w2.setCell ⟨g, 1, none⟩ (.string ⟨#[121, 101, 115]⟩))) := HB2.out.setCell (p := ⟨g, 1, none⟩) k3 _
  have HT3 := Lib.hid (HT2.out _ _ (HL.out _ HB3.out) hrep)
  clear hrep
  go_wp2_with (go_at_call 11; (with_reducible refine HT3.out.mono ?_); rintro e3 w3 ⟨rfl, hb3⟩)
  go_ret
  exact ⟨rfl, HB3.out.trans (hb3.mono HB3.out.size)⟩
end Go.Proofs.YtedmmgfnplbkjaaGreatDoor.PR
