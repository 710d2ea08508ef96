/-
  Walks: values that were read, as trees of their own ('V').
  Conditions: the reader lies as 'RD' says; its words are at most 65536.
  Walks: parse.Value: the value of a text, and what is caught.
  Conditions: the reader lies as 'RD' says; its words are at most 65536.
-/
import Derived.Test.YtdlmemalefhgmaaGreatDoorParV6
import Derived.Test.YtdlmemalefhgmaaGreatDoorVtC
namespace Go.Proofs.YtdlmemalefhgmaaGreatDoor
set_option linter.unusedVariables false
set_option linter.unusedSimpArgs false
open Go.RowKit G

/-- What a tree tells, as a row of cells. -/
def VT.V.trees : VT.V → List T
  | .leaf => []
  | .mk k n s _ ll _ L _ fl _ fn F e key hk => [.sc (.int .u8 k), .sc (.int .i64 n), .sc (.string s), .ls ll 8 (fun i j => (if i < ll then (L i).trees else []).getD j default), .ls fl 9 (fun i j => (if i < fl then .sc (.string (fn i)) :: (F i).trees else []).getD j default), .sc (.int .u8 e), .sc (.string key), .sc (.bool hk)]
/-- A value without elements and deeds, as it is read. -/
inductive IsV : List T → Prop
  | mk (k n : Int) (s : Str) (l : List (List T)) (f : List (Str × List T)) (hk : 0 ≤ k ∧ k ≤ 5) (hn : -9223372036854775808 ≤ n ∧ n ≤ 9223372036854775807) (hs : s.length ≤ 70000) (hl : ∀ x ∈ l, IsV x) (hfn : ∀ p ∈ f, p.1.length ≤ 70000) (hf : ∀ p ∈ f, IsV p.2) :
      IsV (vCols k n s l (f.map fun p => .sc (str p.1) :: p.2))
theorem IsV.length {x : List T} (h : IsV x) : x.length = 8 := by cases h; rfl
theorem all2_of {α β : Type} {R : α → β → Prop} : ∀ (l : List α) (g : Nat → β), (∀ i (h : i < l.length), R l[i] (g i)) → All2 R l ((List.range l.length).map g)
  | [], _, _ => .nil
  | a :: l, g, h => by
    rw [List.length_cons, List.range_succ_eq_map, List.map_cons, List.map_map]
    exact .cons (h 0 (by simp)) (all2_of l (fun i => g (i + 1)) (fun i hi => by have := h (i + 1) (by simpa using hi); simpa using this))
/-- A row out of a slice of rows. -/
theorem rep_row {w : World} {ok : Nat → Prop} {n k b o i : Nat} {x : List T} (hx : x.length = k) (h : ∀ j, j < k → ∃ y, w.cell? ⟨b, o + i * k + j, none⟩ = some y ∧ (x.getD j default).Rep w ok y) :
    ∃ vs, Row w ok x vs ∧ VT.At w b (o + i * k) vs ∧ vs.length = k := by
  have hc : ∃ g : Nat → Value, ∀ j, j < k → w.cell? ⟨b, o + i * k + j, none⟩ = some (g j) ∧ (x.getD j default).Rep w ok (g j) :=
    ⟨fun j => if hj : j < k then Classical.choose (h j hj) else default, fun j hj => by simp only [hj, dif_pos]; exact Classical.choose_spec (h j hj)⟩
  obtain ⟨g, hg⟩ := hc
  refine ⟨(List.range x.length).map g, all2_of x g (fun j hj => ?_), fun j hj => ?_, by simp [hx]⟩
  · have := (hg j (by omega)).2
    rwa [List.getD_eq_getElem?_getD, List.getElem?_eq_getElem hj] at this
  · rw [List.length_map, List.length_range] at hj
    rw [(hg j (by omega)).1]
    simp [hj]
theorem getD_map_nil {f : List (Str × List T)} {i : Nat} (h : i < f.length) : (f.map fun p => (T.sc (str p.1) :: p.2)).getD i [] = .sc (str f[i].1) :: f[i].2 := by
  rw [List.getD_eq_getElem?_getD, List.getElem?_map, List.getElem?_eq_getElem h]; rfl
theorem all2_three {w : World} {ok : Nat → Prop} {k n : Int} {s : Str} {l f : List (List T)} {vs : List Value} (h : Row w ok (vCols k n s l f) vs) : ∃ v3 v4, vs = [.int .u8 k, .int .i64 n, .string ⟨s.toArray⟩, v3, v4, .int .u8 0, .string ⟨#[]⟩, .bool false] ∧ (ofRows 8 l).Rep w ok v3 ∧ (ofRows 9 f).Rep w ok v4 := by
  cases h with
  | cons h0 h => cases h with
    | cons h1 h => cases h with
      | cons h2 h => cases h with
        | cons h3 h => cases h with
          | cons h4 h => cases h with
            | cons h5 h => cases h with
              | cons h6 h => cases h with
                | cons h7 h =>
                  cases h
                  exact ⟨_, _, by rw [show _ = _ from h0, show _ = _ from h1, show _ = _ from h2, show _ = _ from h5, show _ = _ from h6, show _ = _ from h7]; rfl, h3, h4⟩
theorem at_keep {w w' : World} {b o : Nat} {cs : List Value} (h : w'.heap[b]? = w.heap[b]?) (ha : VT.At w b o cs) : VT.At w' b o cs := fun i hi => by rw [World.cell?_of_block (w := w) h]; exact ha i hi
theorem rep_V {w : World} {ok : Nat → Prop} {x : List T} (hx : IsV x) : ∀ {vs : List Value}, Row w ok x vs → ∃ v : VT.V, (∀ w' : World, (∀ b, ok b → b < w.heap.size → w'.heap[b]? = w.heap[b]?) → v.In w') ∧ v.cells = vs ∧ v.trees = x := by
  induction hx with
  | mk k n s l f hk hn hs hl hfn hf ihl ihf =>
    intro vs hrow
    obtain ⟨v3, v4, rfl, ⟨la, lc, rfl, hlc1, hlc2, hL⟩, ⟨fa, fc, rfl, hfc1, hfc2, hF⟩⟩ := all2_three hrow
    have hLV : ∀ i, i < l.length → ∃ u : VT.V, (∀ w' : World, (∀ b, ok b → b < w.heap.size → w'.heap[b]? = w.heap[b]?) → (∃ b o, la = some ⟨b, o, none⟩ ∧ VT.At w' b (o + i * 8) u.cells) ∧ u.In w') ∧ u.trees = l.getD i [] := fun i hi => by
      obtain ⟨b, o, e1, hok, hblt, h8⟩ := hL i hi
      have hm : l.getD i [] ∈ l := by rw [List.getD_eq_getElem?_getD, List.getElem?_eq_getElem hi]; exact List.getElem_mem hi
      obtain ⟨us, hr, ha, -⟩ := rep_row (n := 0) ((hl _ hm).length) h8
      obtain ⟨u, h1, h2, h3⟩ := ihl _ hm hr
      exact ⟨u, fun w' hw => ⟨⟨b, o, e1, by rw [h2]; exact at_keep (hw b hok hblt) ha⟩, h1 w' hw⟩, h3⟩
    have hFV : ∀ i, i < f.length → ∃ u : VT.V, (∀ w' : World, (∀ b, ok b → b < w.heap.size → w'.heap[b]? = w.heap[b]?) → (∃ b o, fa = some ⟨b, o, none⟩ ∧ VT.At w' b (o + i * 9) (.string ⟨(f.getD i ([], [])).1.toArray⟩ :: u.cells)) ∧ u.In w') ∧ u.trees = (f.getD i ([], [])).2 := fun i hi => by
      obtain ⟨b, o, e1, hok, hblt, h9⟩ := hF i (by simpa using hi)
      have hg : f.getD i ([], []) = f[i] := by rw [List.getD_eq_getElem?_getD, List.getElem?_eq_getElem hi]; rfl
      have hm : f[i] ∈ f := List.getElem_mem hi
      simp only [getD_map_nil hi] at h9
      obtain ⟨us, hr, ha, -⟩ := rep_row (n := 0) (x := .sc (str f[i].1) :: f[i].2) (by rw [List.length_cons, (hf _ hm).length]) h9
      cases hr with
      | cons h0 hr =>
        obtain ⟨u, h1, h2, h3⟩ := ihf _ hm hr
        rw [hg]
        refine ⟨u, fun w' hw => ⟨⟨b, o, e1, ?_⟩, h1 w' hw⟩, h3⟩
        rw [h2]
        rw [show _ = _ from h0] at ha
        exact at_keep (hw b hok hblt) ha
    have hc : ∃ LL : Nat → VT.V, ∀ i, i < l.length → (∀ w' : World, (∀ b, ok b → b < w.heap.size → w'.heap[b]? = w.heap[b]?) → (∃ b o, la = some ⟨b, o, none⟩ ∧ VT.At w' b (o + i * 8) (LL i).cells) ∧ (LL i).In w') ∧ (LL i).trees = l.getD i [] :=
      ⟨fun i => if h : i < l.length then Classical.choose (hLV i h) else .leaf, fun i hi => by simp only [hi, dif_pos]; exact Classical.choose_spec (hLV i hi)⟩
    have hc2 : ∃ FF : Nat → VT.V, ∀ i, i < f.length → (∀ w' : World, (∀ b, ok b → b < w.heap.size → w'.heap[b]? = w.heap[b]?) → (∃ b o, fa = some ⟨b, o, none⟩ ∧ VT.At w' b (o + i * 9) (.string ⟨(f.getD i ([], [])).1.toArray⟩ :: (FF i).cells)) ∧ (FF i).In w') ∧ (FF i).trees = (f.getD i ([], [])).2 :=
      ⟨fun i => if h : i < f.length then Classical.choose (hFV i h) else .leaf, fun i hi => by simp only [hi, dif_pos]; exact Classical.choose_spec (hFV i hi)⟩
    obtain ⟨LL, hLL⟩ := hc
    obtain ⟨FF, hFF⟩ := hc2
    have hsz : (⟨s.toArray⟩ : ByteArray).size ≤ maxLen := by rw [ba_size]; unfold maxLen; omega
    refine ⟨.mk k n ⟨s.toArray⟩ la l.length lc (fun i => if i < l.length then LL i else .leaf) fa f.length fc (fun i => ⟨(f.getD i ([], [])).1.toArray⟩) (fun i => if i < f.length then FF i else .leaf) 0 ⟨#[]⟩ false, ?_, ?_, ?_⟩
    · intro w' hw
      refine ⟨⟨hk.1, by omega⟩, hn, hsz, ⟨by omega, by omega⟩, by decide, ⟨hlc1, hlc2⟩, ⟨by rw [List.length_map] at hfc1; exact hfc1, hfc2⟩, fun i hi => ?_, fun i hi => ?_⟩
      · simp only [hi, if_pos]
        exact (hLL i hi).1 w' hw
      · simp only [hi, if_pos]
        refine ⟨((hFF i hi).1 w' hw).1, ?_, ((hFF i hi).1 w' hw).2⟩
        have hg : f.getD i ([], []) = f[i] := by rw [List.getD_eq_getElem?_getD, List.getElem?_eq_getElem hi]; rfl
        rw [hg, ba_size]
        have := hfn _ (List.getElem_mem hi)
        unfold maxLen
        omega
    · simp [VT.V.cells]
    · have e1 : (fun i j => (if i < l.length then (if i < l.length then LL i else VT.V.leaf).trees else []).getD j default) = fun i j => (l.getD i []).getD j default := by
        funext i j
        by_cases hi : i < l.length
        · simp only [hi, if_true]; rw [(hLL i hi).2]
        · simp only [hi, if_false]; rw [List.getD_eq_getElem?_getD (l := l), List.getElem?_eq_none (by omega)]; rfl
      have e2 : (fun i j => (if i < f.length then T.sc (.string ⟨(f.getD i ([], [])).1.toArray⟩) :: (if i < f.length then FF i else VT.V.leaf).trees else []).getD j default) = fun i j => ((f.map fun p => (T.sc (str p.1) :: p.2)).getD i []).getD j default := by
        funext i j
        by_cases hi : i < f.length
        · simp only [hi, if_true]
          rw [(hFF i hi).2, getD_map_nil hi]
          have hg : f.getD i ([], []) = f[i] := by rw [List.getD_eq_getElem?_getD, List.getElem?_eq_getElem hi]; rfl
          rw [hg]; rfl
        · simp only [hi, if_false]; rw [List.getD_eq_getElem?_getD (l := f.map _), List.getElem?_eq_none (by rw [List.length_map]; omega)]; rfl
      show [_, _, _, T.ls _ 8 _, T.ls _ 9 _, _, _, _] = _
      rw [e1, e2]
      simp [vCols, ofRows, str]
end Go.Proofs.YtdlmemalefhgmaaGreatDoor
namespace Go.Proofs.YtdlmemalefhgmaaGreatDoor
set_option linter.unusedVariables false
set_option linter.unusedSimpArgs false
open Go.RowKit G

theorem wordV_ok {r : Str} {w : LX.LW} {r' : Str} (h : wordV r = some (w, r')) : LX.OkW w := by
  unfold wordV at h
  split at h
  · rename_i w1 hx
    injection h with h; injection h with h1 h2
    subst h1
    exact ((LX.lex_sound 0 _ _ (lexL_ok hx)).1 w1 (by simp)).1
  · cases h
theorem okw_n {w : LX.LW} (h : LX.OkW w) : -9223372036854775808 ≤ w.n ∧ w.n ≤ 9223372036854775807 := by
  rcases h with ⟨_, _, h⟩ | ⟨_, _, h⟩ | ⟨_, h, _⟩ | ⟨_, _, h1, h2⟩ | ⟨_, h, _⟩ <;> omega
theorem is_one (k n : Int) (s : Str) (hk : 0 ≤ k ∧ k ≤ 5) (hn : -9223372036854775808 ≤ n ∧ n ≤ 9223372036854775807) (hs : s.length ≤ 70000) : IsV (vCols k n s [] []) :=
  .mk k n s [] [] hk hn hs (fun _ h => by cases h) (fun _ h => by cases h) (fun _ h => by cases h)
theorem plainV_is {r : Str} {k : Nat} {x : List T} {r' : Str} {k' : Nat} (h : plainV r k = some (x, r', k')) : IsV x := by
  unfold plainV at h
  cases hw : wordV r with
  | none => rw [hw] at h; cases h
  | some p =>
    obtain ⟨w, r2⟩ := p
    rw [hw] at h
    have ho := wordV_ok hw
    have h1 := okw_n ho
    have h2 := okw_len ho
    simp only at h
    split at h
    · injection h with h; injection h with h _; rw [← h]; exact is_one 1 _ _ (by omega) h1 (by simp)
    · split at h
      · injection h with h; injection h with h _; rw [← h]; exact is_one 3 _ _ (by omega) (by omega) h2
      · split at h
        · injection h with h; injection h with h _; rw [← h]; exact is_one 2 _ _ (by omega) (by omega) (by simp)
        · split at h
          · injection h with h; injection h with h _; rw [← h]; exact is_one 2 _ _ (by omega) (by omega) (by simp)
          · split at h
            · injection h with h; injection h with h _; rw [← h]; exact is_one 0 _ _ (by omega) (by omega) (by simp)
            · cases h
theorem listV_is {vm : Str → Nat → Vr} (hv : ∀ r k x r' k', vm r k = some (x, r', k') → IsV x) : ∀ (m : Nat) (r : Str) (k : Nat) (l : List (List T)) (r' : Str) (k' : Nat), listV vm m r k = some (l, r', k') → ∀ x ∈ l, IsV x
  | 0, _, _, _, _, _, h => by cases h
  | m + 1, r, k, l, r', k', h => by
    unfold listV at h
    split at h
    · injection h with h; injection h with h _; rw [← h]; intro x hx; cases hx
    · split at h
      · cases h
      · rename_i x1 r1 k1 hx1
        cases hl : listV vm m r1 k1 with
        | none => rw [hl] at h; cases h
        | some p =>
          obtain ⟨l2, r2, k2⟩ := p
          rw [hl] at h
          simp only [Option.map_some] at h
          injection h with h; injection h with h _
          rw [← h]
          intro x hx
          rcases List.mem_cons.1 hx with rfl | hx
          · exact hv _ _ _ _ _ hx1
          · exact listV_is hv m r1 k1 l2 r2 k2 hl x hx
theorem recV_is {vm : Str → Nat → Vr} (hv : ∀ r k x r' k', vm r k = some (x, r', k') → IsV x) : ∀ (m : Nat) (r : Str) (k : Nat) (l : List (List T)) (r' : Str) (k' : Nat), recV vm m r k = some (l, r', k') →
    ∃ f : List (Str × List T), l = f.map (fun p => T.sc (str p.1) :: p.2) ∧ (∀ p ∈ f, p.1.length ≤ 70000) ∧ ∀ p ∈ f, IsV p.2
  | 0, _, _, _, _, _, h => by cases h
  | m + 1, r, k, l, r', k', h => by
    unfold recV at h
    split at h
    · injection h with h; injection h with h _; exact ⟨[], h.symm, (fun _ h => by cases h), (fun _ h => by cases h)⟩
    · split at h
      · cases h
      · rename_i w rw1 hw1
        split at h
        · cases h
        · rename_i x1 r1 k1 hx1
          cases hl : recV vm m r1 k1 with
          | none => rw [hl] at h; cases h
          | some p =>
            obtain ⟨l2, r2, k2⟩ := p
            rw [hl] at h
            simp only [Option.map_some] at h
            injection h with h; injection h with h _
            obtain ⟨f, hf, h1, h2⟩ := recV_is hv m r1 k1 l2 r2 k2 hl
            refine ⟨(w.s, x1) :: f, by rw [← h, hf]; rfl, fun p hp => ?_, fun p hp => ?_⟩
            · rcases List.mem_cons.1 hp with rfl | hp
              · exact okw_len (wordV_ok hw1)
              · exact h1 p hp
            · rcases List.mem_cons.1 hp with rfl | hp
              · exact hv _ _ _ _ _ hx1
              · exact h2 p hp
theorem valueV_is : ∀ (f deep : Nat) (r : Str) (k : Nat) (x : List T) (r' : Str) (k' : Nat), valueV f deep r k = some (x, r', k') → IsV x
  | 0, _, _, _, _, _, _, h => by cases h
  | f + 1, deep, r, k, x, r', k', h => by
    unfold valueV at h
    split at h
    · cases h
    · split at h
      · cases hl : listV (valueV f (deep + 1)) 4098 (Lib.trimPrefix r [91]) (k + 1) with
        | none => rw [hl] at h; cases h
        | some p =>
          obtain ⟨l, r2, k2⟩ := p
          rw [hl] at h
          simp only [Option.map_some] at h
          injection h with h; injection h with h _
          rw [← h]
          exact .mk 4 0 [] l [] (by omega) (by omega) (by simp) (listV_is (fun r k x r' k' => valueV_is f (deep + 1) r k x r' k') _ _ _ _ _ _ hl) (fun _ h => by cases h) (fun _ h => by cases h)
      · split at h
        · cases hl : recV (valueV f (deep + 1)) 4098 (Lib.trimPrefix (Lib.trimPrefix r [91]) [123]) (k + 1) with
          | none => rw [hl] at h; cases h
          | some p =>
            obtain ⟨l, r2, k2⟩ := p
            rw [hl] at h
            simp only [Option.map_some] at h
            injection h with h; injection h with h _
            obtain ⟨g, hg, h1, h2⟩ := recV_is (fun r k x r' k' => valueV_is f (deep + 1) r k x r' k') _ _ _ _ _ _ hl
            rw [← h, hg]
            exact .mk 5 0 [] [] g (by omega) (by omega) (by simp) (fun _ h => by cases h) h1 h2
        · exact plainV_is h
theorem put8 {w : World} {n : Nat} {ty : TypeId} {a0 a1 a2 a3 a4 a5 a6 a7 : Value} (h : w.heap[n]? = some (.cells #[a0, a1, a2, a3, a4, a5, a6, a7] ty (0, 0))) (v0 v1 v2 v3 v4 v5 v6 v7 : Value) : ((((((((w.setCell ⟨n, 0, none⟩ (v0)).setCell ⟨n, 1, none⟩ (v1)).setCell ⟨n, 2, none⟩ (v2)).setCell ⟨n, 3, none⟩ (v3)).setCell ⟨n, 4, none⟩ (v4)).setCell ⟨n, 5, none⟩ (v5)).setCell ⟨n, 6, none⟩ (v6)).setCell ⟨n, 7, none⟩ (v7)).heap[n]? = some (.cells #[v0, v1, v2, v3, v4, v5, v6, v7] ty (0, 0)) := by
  have h := set_row h 0 v0
  have h := set_row h 1 v1
  have h := set_row h 2 v2
  have h := set_row h 3 v3
  have h := set_row h 4 v4
  have h := set_row h 5 v5
  have h := set_row h 6 v6
  have h := set_row h 7 v7
  simpa only [List.setIfInBounds_toArray, List.set_cons_zero, List.set_cons_succ] using h
theorem put8_put (w : World) (n : Nat) (v0 v1 v2 v3 v4 v5 v6 v7 : Value) : Put n w ((((((((w.setCell ⟨n, 0, none⟩ (v0)).setCell ⟨n, 1, none⟩ (v1)).setCell ⟨n, 2, none⟩ (v2)).setCell ⟨n, 3, none⟩ (v3)).setCell ⟨n, 4, none⟩ (v4)).setCell ⟨n, 5, none⟩ (v5)).setCell ⟨n, 6, none⟩ (v6)).setCell ⟨n, 7, none⟩ (v7)) := ((((((((Put.refl _ _).set _ _).set _ _).set _ _).set _ _).set _ _).set _ _).set _ _).set _ _
theorem vcatch_idle (p0 p1 : Value) (w : World) :
    CallsD Tryz.prog 40 #[p0, p1] .returning w fun e u' w' => e = .returned (.tuple #[]) ∧ u' = .returning ∧ w' = w := by
  refine callsD_of_wpS Tryz.func40 rfl fun c₀ cs hu => ?_
  apply wpS_seq
  apply wpS_region
  simp [wpOpsS, go_sem, recoverD, hu, Tryz.ntmps40, Exit.thenS]
  refine wpS_cond (t := false) (by simp [Act.eval, Array.replicate]) ?_
  simp only [Bool.false_eq_true, if_false]
  refine wpS_of_wp (wp_skip ?_)
  cases c₀
  simp_all [bodyPostS, results, Tryz.results40]
set_option maxRecDepth 100000 in
set_option maxHeartbeats 4000000 in
theorem vcatch_pz {w : World} (n : Nat) (a0 a1 a2 a3 a4 a5 a6 a7 x1 : Value)
    (cv : w.heap[n]? = some (.cells #[a0, a1, a2, a3, a4, a5, a6, a7] 50 (0, 0))) (ce : w.heap[n + 1]? = some (.cells #[x1] 25 (0, 0))) :
    CallsD Tryz.prog 40 #[.pointer (some ⟨n, 0, none⟩), .pointer (some ⟨n + 1, 0, none⟩)] (.panicking [pz]) w fun e u' w' =>
      e = .returned (.tuple #[]) ∧ u' = .panicking [{ v := .iface 110 (.agg #[]), recovered := true }] ∧ w' = (((((((((w.setCell ⟨n, 0, none⟩ (.int .u8 0)).setCell ⟨n, 1, none⟩ (.int .i64 0)).setCell ⟨n, 2, none⟩ (.string ⟨#[]⟩)).setCell ⟨n, 3, none⟩ (.slice none 0 0)).setCell ⟨n, 4, none⟩ (.slice none 0 0)).setCell ⟨n, 5, none⟩ (.int .u8 0)).setCell ⟨n, 6, none⟩ (.string ⟨#[]⟩)).setCell ⟨n, 7, none⟩ (.bool false)).setCell ⟨n + 1, 0, none⟩ (.int .i64 5)) := by
  obtain ⟨⟨c0, c1, c2, c3, c4, c5, c6, c7⟩, ⟨f0, f1, f2, f3, f4, f5, f6, f7⟩⟩ := blk8 cv
  obtain ⟨e0, fe⟩ := blk1 ce
  clear cv ce
  refine callsD_of_wpS Tryz.func40 rfl fun c₀ cs hu => ?_
  apply wpS_seq
  apply wpS_region
  simp [wpOpsS, go_sem, recoverD, hu, pz, Tryz.ntmps40, Exit.thenS]
  refine wpS_cond (t := true) (by simp [Act.eval, Array.replicate]) ?_
  simp only [if_true]
  refine wpS_of_wp ?_
  go_wp2
  simp [bodyPostS, results, Tryz.results40]
/-- What Value answers, of what is read. -/
def PostValue (r : Vr) (l : Str) (W : World) (e : Ending) (w' : World) : Prop :=
  (match r with
  | none => e = .returned (.tuple #[.agg #[.int .u8 0, .int .i64 0, .string ⟨#[]⟩, .slice none 0 0, .slice none 0 0, .int .u8 0, .string ⟨#[]⟩, .bool false], .int .i64 5])
  | some (x, _, _) => ∃ v : VT.V, v.In w' ∧ v.trees = x ∧ ((v.text.data.toList = l ∧ e = .returned (.tuple #[v.agg, .int .i64 0])) ∨ (¬ v.text.data.toList = l ∧ e = .returned (.tuple #[.agg #[.int .u8 0, .int .i64 0, .string ⟨#[]⟩, .slice none 0 0, .slice none 0 0, .int .u8 0, .string ⟨#[]⟩, .bool false], .int .i64 5])))) ∧ Below W.heap.size W w'
def VTabs (w : World) : Prop := VT.RowsAt w ∧ VT.WordsAt w ∧ Lib.TabIs Tryz.prog w "internal/strconv.uint64pow10" .u64 Lib.pow10Tab
theorem VTabs.below {w w' : World} (h : VTabs w) (hb : Below w.heap.size w w') : VTabs w' := ⟨h.1.below hb, h.2.1.below hb, VT.tab_below h.2.2 hb⟩
theorem below_put {n g : Nat} {W w w' : World} (h : Below n W w) (p : Put g w w') (hg : n ≤ g) : Below n W w' := h.trans ⟨p.os, p.tape, p.output, Nat.le_of_eq p.size.symm, fun b hb => p.block b (by omega)⟩
def Two (n : Nat) (cs : Array Value) (z : Value) (w : World) : Prop := w.heap[n]? = some (.cells cs 50 (0, 0)) ∧ w.heap[n + 1]? = some (.cells #[z] 25 (0, 0))
theorem Two.keep {n : Nat} {cs : Array Value} {z : Value} {w w' : World} (h : Two n cs z w) (hk : ∀ b, b < n + 2 → w'.heap[b]? = w.heap[b]?) : Two n cs z w' := ⟨(hk _ (by omega)).trans h.1, (hk _ (by omega)).trans h.2⟩
theorem Two.put {n : Nat} {a0 a1 a2 a3 a4 a5 a6 a7 z : Value} {w : World} (h : Two n #[a0, a1, a2, a3, a4, a5, a6, a7] z w) (v0 v1 v2 v3 v4 v5 v6 v7 : Value) : Two n #[v0, v1, v2, v3, v4, v5, v6, v7] z ((((((((w.setCell ⟨n, 0, none⟩ (v0)).setCell ⟨n, 1, none⟩ (v1)).setCell ⟨n, 2, none⟩ (v2)).setCell ⟨n, 3, none⟩ (v3)).setCell ⟨n, 4, none⟩ (v4)).setCell ⟨n, 5, none⟩ (v5)).setCell ⟨n, 6, none⟩ (v6)).setCell ⟨n, 7, none⟩ (v7)) :=
  ⟨put8 h.1 _ _ _ _ _ _ _ _, ((put8_put w n _ _ _ _ _ _ _ _).block _ (by omega)).trans h.2⟩
theorem Two.e {n : Nat} {cs : Array Value} {z : Value} {w : World} (h : Two n cs z w) (v : Value) : Two n cs v (w.setCell ⟨n + 1, 0, none⟩ v) :=
  ⟨(Below.heap_setCell _ _ _ _ (by show n ≠ n + 1; omega)).trans h.1, set1 h.2⟩
set_option maxRecDepth 100000 in
set_option maxHeartbeats 8000000 in
theorem pvalue_any (l : Str) (W : World) (ha : Asc l) (hl : l.length ≤ 140737488355328) (htab : LTabs W) (hvt : VTabs W) :
    Calls Tryz.prog 17 #[.string ⟨l.toArray⟩] W (PostValue (valueV 66 1 l 0) l W) := by
  have hmf : ∀ (fn : Fn) (first cap : Array Value) (w : World), (Instr.makeFunc fn first cap).run Tryz.prog w = .ok (.func fn first cap) w := fun _ _ _ _ => rfl
  obtain ⟨n, hn⟩ : ∃ n, W.heap.size = n := ⟨_, rfl⟩
  obtain ⟨W1, hW1⟩ : ∃ W1, (W.alloc (.cells #[.int .u8 0, .int .i64 0, .string ⟨#[]⟩, .slice none 0 0, .slice none 0 0, .int .u8 0, .string ⟨#[]⟩, .bool false] 50)).alloc (.cells #[.int .i64 0] 25) = W1 := ⟨_, rfl⟩
  have hz1 : W1.heap.size = n + 2 := by rw [← hW1, ← hn]; simp
  have hb1 : Below n W W1 := by rw [← hW1, ← hn]; exact ((Below.refl _ _).alloc (Nat.le_refl _) _).alloc (by simp) _
  have h2 : Two n #[.int .u8 0, .int .i64 0, .string ⟨#[]⟩, .slice none 0 0, .slice none 0 0, .int .u8 0, .string ⟨#[]⟩, .bool false] (.int .i64 0) W1 := by rw [← hW1, ← hn]; exact ⟨new2a _ _ _ _ _, new2b _ _ _ _⟩
  have htab1 : LTabs W1 := htab.below hb1 (by rw [← hn]; exact htab.gb)
  obtain ⟨Wb, hWb⟩ : ∃ Wb, W1.alloc (.cells #[.string ⟨l.toArray⟩, .int .i64 0] 107) = Wb := ⟨_, rfl⟩
  have hbb : Below W1.heap.size W1 Wb := by rw [← hWb]; exact (Below.refl _ _).alloc (Nat.le_refl _) _
  have htd : TD W1 l 0 Wb := ⟨by rw [← hWb]; exact heap_alloc_new _ _, hbb⟩
  have h2b : Two n #[.int .u8 0, .int .i64 0, .string ⟨#[]⟩, .slice none 0 0, .slice none 0 0, .int .u8 0, .string ⟨#[]⟩, .bool false] (.int .i64 0) Wb := h2.keep (fun b hb => hbb.block b (by omega))
  have HVL : Hid (Calls Tryz.prog 41 #[rp W1, .int .i64 1] Wb (PostV2 W1 Wb (FT ShV Wb.heap.size) 1 (valueV 66 1 l 0))) := Lib.hid (value_v htab1 66 1 l 0 Wb (by omega) (by omega) htd ha hl (by omega))
  have HT2 := Lib.hid (fun w (hg : Gr W1 Wb w) => h2b.keep (w' := w) (fun b hb => hg.block b (by have := hbb.size; omega) (by intro e; injection e with e; omega)))
  have HBW := Lib.hid (hb1.trans (hbb.mono (show n ≤ W1.heap.size by omega)))
  have HVT := Lib.hid hvt
  have hbbs := hbb.size
  have hz1q := Nat.le_of_eq hz1
  have hz1r := Nat.le_of_eq hz1.symm
  clear hz1
  obtain ⟨post, hpost⟩ : ∃ p, PostValue (valueV 66 1 l 0) l W = p := ⟨_, rfl⟩
  rw [hpost]
  have HPO := Lib.hid hpost
  have HNN := Lib.hid hn
  clear hpost htab hvt htab1 h2 h2b htd hbb hb1
  cases hv : valueV 66 1 l 0 with
  | none =>
    go_enter_defers Tryz.func17, Tryz.ntmps17
    go_wp2_with (go_at_call 41; (with_reducible refine HVL.out.mono ?_); intro e4 w4 hq4; obtain ⟨rfl, hk4⟩ := PostV2.of_none hq4 hv)
    have h4 := HT2.out _ hk4
    refine leaves_cons (f := 40) (args := #[.pointer (some ⟨n, 0, none⟩), .pointer (some ⟨n + 1, 0, none⟩)]) (by simp) (by simp [go_sem]) ?_
    refine (vcatch_pz n _ _ _ _ _ _ _ _ _ h4.1 h4.2).mono ?_
    rintro e u' w'' ⟨rfl, rfl, rfl⟩
    have h9 := (h4.put (.int .u8 0) (.int .i64 0) (.string ⟨#[]⟩) (.slice none 0 0) (.slice none 0 0) (.int .u8 0) (.string ⟨#[]⟩) (.bool false)).e (.int .i64 5)
    have hb := HBW.out.trans (gr_belowB hk4 (by omega) (by omega))
    have hb9 : Below n W _ := (below_put (hb) (put8_put w4 n (.int .u8 0) (.int .i64 0) (.string ⟨#[]⟩) (.slice none 0 0) (.slice none 0 0) (.int .u8 0) (.string ⟨#[]⟩) (.bool false)) (Nat.le_refl _)).setCell (p := ⟨n + 1, 0, none⟩) (Nat.le_succ _) (.int .i64 5)
    obtain ⟨⟨c0, c1, c2, c3, c4, c5, c6, c7⟩, -⟩ := blk8 h9.1
    have y1 := (blk1 h9.2).1
    revert c0 c1 c2 c3 c4 c5 c6 c7 y1 hb9
    clear h9 h4 hb
    generalize (World.setCell _ ⟨n + 1, 0, none⟩ (.int .i64 5)) = W9
    intro hb9 c0 c1 c2 c3 c4 c5 c6 c7 y1
    simp [Leaves, settle, results, Tryz.results17, go_sem, *]
    rw [← HPO.out, hv]
    exact ⟨rfl, by rw [HNN.out]; exact hb9⟩
  | some p =>
    obtain ⟨x4, r4, k4⟩ := p
    have hisv := valueV_is _ _ _ _ _ _ _ hv
    go_enter_defers Tryz.func17, Tryz.ntmps17
    go_upto_region 4 with (go_at_call 41; (with_reducible refine HVL.out.mono ?_); intro e4 w4 hq4; obtain ⟨v4, rfl, ⟨vs4, rfl, ⟨y0, y1, y2, y3, y3l, y3q, y4, y4l, y4q, y5, y6, y7, rfl⟩, hrow4⟩, ht4, hk4, ha4, hl4, hkk4, hkm4⟩ := PostV2.of_some hq4 hv; obtain ⟨⟨c0, c1, c2, c3, c4, c5, c6, c7⟩, ⟨f0, f1, f2, f3, f4, f5, f6, f7⟩⟩ := blk8 (HT2.out _ hk4).1)
    obtain ⟨W5, hW5⟩ : ∃ W5, ((((((((w4.setCell ⟨n, 0, none⟩ (.int .u8 y0)).setCell ⟨n, 1, none⟩ (.int .i64 y1)).setCell ⟨n, 2, none⟩ (.string y2)).setCell ⟨n, 3, none⟩ (.slice y3 y3l y3q)).setCell ⟨n, 4, none⟩ (.slice y4 y4l y4q)).setCell ⟨n, 5, none⟩ (.int .u8 y5)).setCell ⟨n, 6, none⟩ (.string y6)).setCell ⟨n, 7, none⟩ (.bool y7)) = W5 := ⟨_, rfl⟩
    have hp5 : Put n w4 W5 := by rw [← hW5]; exact put8_put _ _ _ _ _ _ _ _ _ _
    have h5 : Two n #[.int .u8 y0, .int .i64 y1, .string y2, .slice y3 y3l y3q, .slice y4 y4l y4q, .int .u8 y5, .string y6, .bool y7] (.int .i64 0) W5 := by rw [← hW5]; exact (HT2.out _ hk4).put _ _ _ _ _ _ _ _
    have hs4 := hk4.size
    have hrow5 : Row W5 (Wb.heap.size ≤ ·) x4 [.int .u8 y0, .int .i64 y1, .string y2, .slice y3 y3l y3q, .slice y4 y4l y4q, .int .u8 y5, .string y6, .bool y7] := hrow4.keep (Nat.le_of_eq hp5.size.symm) (fun _ _ h => h) (fun b h1 _ => hp5.block b (by have : Wb.heap.size ≤ b := h1; omega))
    obtain ⟨u, hu1, hu2, hu3⟩ := rep_V hisv hrow5
    have hb5 : Below n W W5 := below_put (HBW.out.trans (gr_belowB hk4 (by omega) (by omega))) hp5 (Nat.le_refl _)
    have hvt5 : VTabs W5 := HVT.out.below (by rw [HNN.out]; exact hb5)
    have HTX : Hid (Calls Tryz.prog 13 #[.agg #[.int .u8 y0, .int .i64 y1, .string y2, .slice y3 y3l y3q, .slice y4 y4l y4q, .int .u8 y5, .string y6, .bool y7]] W5 fun e w' => e = .returned (.string u.text) ∧ Below W5.heap.size W5 w') := Lib.hid (by
      have := VT.text_any u W5 (hu1 W5 (fun _ _ _ => rfl)) hvt5.1 hvt5.2.1 hvt5.2.2
      rw [show u.agg = .agg #[.int .u8 y0, .int .i64 y1, .string y2, .slice y3 y3l y3q, .slice y4 y4l y4q, .int .u8 y5, .string y6, .bool y7] from by unfold VT.V.agg; rw [hu2]] at this
      exact this)
    have HU := Lib.hid hu1
    have HU2 := Lib.hid hu2
    have HU3 := Lib.hid hu3
    have H5 := Lib.hid h5
    have HB5 := Lib.hid hb5
    have hz5 : n + 2 ≤ W5.heap.size := by have := hp5.size; omega
    try rw [hW5]
    clear c0 c1 c2 c3 c4 c5 c6 c7 f0 f1 f2 f3 f4 f5 f6 f7 hW5 hp5 hrow5 hrow4 hu1 hu2 hu3 hvt5 hb5 hisv ht4
    obtain ⟨⟨c0, c1, c2, c3, c4, c5, c6, c7⟩, ⟨f0, f1, f2, f3, f4, f5, f6, f7⟩⟩ := blk8 h5.1
    obtain ⟨tx, htxe⟩ : ∃ tx, u.text = tx := ⟨_, rfl⟩
    rw [htxe] at HTX
    have HTE := Lib.hid htxe
    clear h5 htxe
    by_cases htx : tx.data.toList = l
    · have q : (tx.toList == l) = true := by rw [ByteArray.toList_eq, htx]; simp
      have HTL := Lib.hid htx
      clear htx
      go_wp2_with (go_at_call 13; (with_reducible refine HTX.out.mono ?_); rintro e6 w6 ⟨rfl, hb6⟩; obtain ⟨⟨m0, m1, m2, m3, m4, m5, m6, m7⟩, ⟨g0, g1, g2, g3, g4, g5, g6, g7⟩⟩ := blk8 ((H5.out.keep (fun b hb => hb6.block b (by omega))).1); obtain ⟨m9, g9⟩ := blk1 ((H5.out.keep (fun b hb => hb6.block b (by omega))).2))
      have h6 : Two n #[.int .u8 y0, .int .i64 y1, .string y2, .slice y3 y3l y3q, .slice y4 y4l y4q, .int .u8 y5, .string y6, .bool y7] (.int .i64 0) w6 := H5.out.keep (fun b hb => hb6.block b (by omega))
      refine leaves_cons (f := 40) (args := #[.pointer (some ⟨n, 0, none⟩), .pointer (some ⟨n + 1, 0, none⟩)]) (by simp) (by simp [go_sem]) ?_
      refine (vcatch_idle _ _ _).mono ?_
      rintro e u' w'' ⟨rfl, rfl, rfl⟩
      have h9 := (h6.put (.int .u8 y0) (.int .i64 y1) (.string y2) (.slice y3 y3l y3q) (.slice y4 y4l y4q) (.int .u8 y5) (.string y6) (.bool y7)).e (.int .i64 0)
      have hb := HB5.out.trans (hb6.mono (show n ≤ W5.heap.size by omega))
      have hb9 : Below n W _ := (below_put hb (put8_put w6 n (.int .u8 y0) (.int .i64 y1) (.string y2) (.slice y3 y3l y3q) (.slice y4 y4l y4q) (.int .u8 y5) (.string y6) (.bool y7)) (Nat.le_refl _)).setCell (p := ⟨n + 1, 0, none⟩) (Nat.le_succ _) (.int .i64 0)
      have hu9 : u.In (World.setCell ((((((((w6.setCell ⟨n, 0, none⟩ (.int .u8 y0)).setCell ⟨n, 1, none⟩ (.int .i64 y1)).setCell ⟨n, 2, none⟩ (.string y2)).setCell ⟨n, 3, none⟩ (.slice y3 y3l y3q)).setCell ⟨n, 4, none⟩ (.slice y4 y4l y4q)).setCell ⟨n, 5, none⟩ (.int .u8 y5)).setCell ⟨n, 6, none⟩ (.string y6)).setCell ⟨n, 7, none⟩ (.bool y7)) ⟨n + 1, 0, none⟩ (.int .i64 0)) := HU.out _ (fun b h1 h2 => by
        have h1' : Wb.heap.size ≤ b := h1
        rw [Below.heap_setCell _ _ _ _ (by show b ≠ n + 1; omega), (put8_put w6 n (.int .u8 y0) (.int .i64 y1) (.string y2) (.slice y3 y3l y3q) (.slice y4 y4l y4q) (.int .u8 y5) (.string y6) (.bool y7)).block b (by omega)]
        exact hb6.block b h2)
      clear c0 c1 c2 c3 c4 c5 c6 c7
      obtain ⟨⟨c0, c1, c2, c3, c4, c5, c6, c7⟩, -⟩ := blk8 h9.1
      have y1' := (blk1 h9.2).1
      revert c0 c1 c2 c3 c4 c5 c6 c7 y1' hb9 hu9
      clear h9 h6 hb m0 m1 m2 m3 m4 m5 m6 m7 g0 g1 g2 g3 g4 g5 g6 g7 m9 g9
      generalize (World.setCell _ ⟨n + 1, 0, none⟩ (.int .i64 0)) = W9
      intro hb9 hu9 c0 c1 c2 c3 c4 c5 c6 c7 y1'
      simp [Leaves, settle, results, Tryz.results17, go_sem, *]
      rw [← HPO.out, hv]
      refine ⟨⟨u, hu9, HU3.out, .inl ⟨by rw [HTE.out]; exact HTL.out, ?_⟩⟩, by rw [HNN.out]; exact hb9⟩
      unfold VT.V.agg
      rw [HU2.out]
    · have q : (tx.toList == l) = false := by rw [ByteArray.toList_eq]; simpa using htx
      have HTL := Lib.hid htx
      clear htx
      go_wp2_with (go_at_call 13; (with_reducible refine HTX.out.mono ?_); rintro e6 w6 ⟨rfl, hb6⟩)
      have h6 : Two n #[.int .u8 y0, .int .i64 y1, .string y2, .slice y3 y3l y3q, .slice y4 y4l y4q, .int .u8 y5, .string y6, .bool y7] (.int .i64 0) w6 := H5.out.keep (fun b hb => hb6.block b (by omega))
      refine leaves_cons (f := 40) (args := #[.pointer (some ⟨n, 0, none⟩), .pointer (some ⟨n + 1, 0, none⟩)]) (by simp) (by simp [go_sem]) ?_
      refine (vcatch_pz n _ _ _ _ _ _ _ _ _ h6.1 h6.2).mono ?_
      rintro e u' w'' ⟨rfl, rfl, rfl⟩
      have h9 := (h6.put (.int .u8 0) (.int .i64 0) (.string ⟨#[]⟩) (.slice none 0 0) (.slice none 0 0) (.int .u8 0) (.string ⟨#[]⟩) (.bool false)).e (.int .i64 5)
      have hb := HB5.out.trans (hb6.mono (show n ≤ W5.heap.size by omega))
      have hb9 : Below n W _ := (below_put hb (put8_put w6 n (.int .u8 0) (.int .i64 0) (.string ⟨#[]⟩) (.slice none 0 0) (.slice none 0 0) (.int .u8 0) (.string ⟨#[]⟩) (.bool false)) (Nat.le_refl _)).setCell (p := ⟨n + 1, 0, none⟩) (Nat.le_succ _) (.int .i64 5)
      have hu9 : u.In (World.setCell ((((((((w6.setCell ⟨n, 0, none⟩ (.int .u8 0)).setCell ⟨n, 1, none⟩ (.int .i64 0)).setCell ⟨n, 2, none⟩ (.string ⟨#[]⟩)).setCell ⟨n, 3, none⟩ (.slice none 0 0)).setCell ⟨n, 4, none⟩ (.slice none 0 0)).setCell ⟨n, 5, none⟩ (.int .u8 0)).setCell ⟨n, 6, none⟩ (.string ⟨#[]⟩)).setCell ⟨n, 7, none⟩ (.bool false)) ⟨n + 1, 0, none⟩ (.int .i64 5)) := HU.out _ (fun b h1 h2 => by
        have h1' : Wb.heap.size ≤ b := h1
        rw [Below.heap_setCell _ _ _ _ (by show b ≠ n + 1; omega), (put8_put w6 n (.int .u8 0) (.int .i64 0) (.string ⟨#[]⟩) (.slice none 0 0) (.slice none 0 0) (.int .u8 0) (.string ⟨#[]⟩) (.bool false)).block b (by omega)]
        exact hb6.block b h2)
      clear c0 c1 c2 c3 c4 c5 c6 c7
      obtain ⟨⟨c0, c1, c2, c3, c4, c5, c6, c7⟩, -⟩ := blk8 h9.1
      have y1' := (blk1 h9.2).1
      revert c0 c1 c2 c3 c4 c5 c6 c7 y1' hb9 hu9
      clear h9 h6 hb
      generalize (World.setCell _ ⟨n + 1, 0, none⟩ (.int .i64 5)) = W9
      intro hb9 hu9 c0 c1 c2 c3 c4 c5 c6 c7 y1'
      simp [Leaves, settle, results, Tryz.results17, go_sem, *]
      rw [← HPO.out, hv]
      exact ⟨⟨u, hu9, HU3.out, .inr ⟨by rw [HTE.out]; exact HTL.out, rfl⟩⟩, by rw [HNN.out]; exact hb9⟩
end Go.Proofs.YtdlmemalefhgmaaGreatDoor
