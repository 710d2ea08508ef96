/-
  Plain: the children that values are rendered as, as a function of what is gone through ('kidsM'); what Kids keeps between two yields ('KS', 'KAt').
  Conditions: none.
-/
import Derived.Test.YtpmkkgndpfbkdaaDoorNkI
namespace Go.Proofs.YtpmkkgndpfbkdaaDoor
set_option linter.unusedVariables false
set_option linter.unusedSimpArgs false
open Go.RowKit Go.Deep Go.WideShapes
open Go.Maps hiding size

theorem snocInd {α : Type} {P : List α → Prop} (h0 : P []) (h1 : ∀ l a, P l → P (l ++ [a])) : ∀ l, P l := fun l => by
  have : ∀ m : List α, P m.reverse := by
    intro m
    induction m with
    | nil => exact h0
    | cons a m ih => rw [List.reverse_cons]; exact h1 _ _ ih
  have := this l.reverse
  rwa [List.reverse_reverse] at this

/-- What has come of the values so far. -/
structure St where
  place : Nat
  seen : List (List UInt8)
  out : List C
def stepK (st : St) (v : V) : St :=
  match v.kid with
  | none => ⟨st.place + 1, st.seen, st.out⟩
  | some c => ⟨st.place + 1, (keyM st.seen v (wrap64 st.place)).2, st.out ++ [⟨(keyM st.seen v (wrap64 st.place)).1, c.kind, c.name, c.val⟩]⟩
def stOf (l : List V) : St := l.foldl stepK ⟨0, [], []⟩
theorem stOf_snoc (l : List V) (v : V) : stOf (l ++ [v]) = stepK (stOf l) v := by simp [stOf, List.foldl_append]
theorem place_step (st : St) (v : V) : (stepK st v).place = st.place + 1 := by
  unfold stepK; cases v.kid <;> rfl
theorem stOf_place (l : List V) : (stOf l).place = l.length := by
  induction l using snocInd with
  | h0 => rfl
  | h1 l v ih => rw [stOf_snoc, place_step, ih, List.length_append]; rfl
/-- On, till there are as many as there may be. -/
def runK (st : St) : List V → St
  | [] => st
  | v :: r => if (stepK st v).out.length = 4096 then stepK st v else runK (stepK st v) r
/-- The children of values that are gone through. -/
def kidsM (l : List V) : List C := (runK ⟨0, [], []⟩ l).out

theorem runK_pre (st : St) (p r : List V) (h : ∀ q v, q ++ [v] <+: p → (q.foldl stepK st |> fun s => (stepK s v).out.length ≠ 4096)) : runK st (p ++ r) = runK (p.foldl stepK st) r := by
  induction p generalizing st with
  | nil => rfl
  | cons v p ih =>
    have h0 := h [] v ⟨p, rfl⟩
    simp only [List.foldl_nil] at h0
    rw [List.cons_append, runK, if_neg h0, List.foldl_cons]
    exact ih _ fun q u hq => h (v :: q) u (by simpa using hq)

theorem out_step (st : St) (v : V) : (stepK st v).out.length = st.out.length ∨ (stepK st v).out.length = st.out.length + 1 := by
  unfold stepK; cases v.kid <;> simp

theorem out_le (l : List V) (r : List V) : (stOf l).out.length ≤ (stOf (l ++ r)).out.length := by
  induction r using snocInd with
  | h0 => simp
  | h1 r v ih =>
    rw [← List.append_assoc, stOf_snoc]
    rcases out_step (stOf (l ++ r)) v with h | h <;> omega

/-- All has come, and there are fewer than there may be. -/
theorem kids_all {l : List V} (h : (stOf l).out.length < 4096) : kidsM l = (stOf l).out := by
  have := runK_pre ⟨0, [], []⟩ l [] (fun q v hq => by
    obtain ⟨r, rfl⟩ := hq
    have h1 := out_le (q ++ [v]) r
    rw [stOf_snoc] at h1
    show (stepK (stOf q) v).out.length ≠ 4096
    omega)
  rw [List.append_nil] at this
  rw [kidsM, this]
  rfl
/-- There are as many as there may be. -/
theorem kids_full {l q : List V} {v : V} (hq : q ++ [v] <+: l) (h0 : (stOf q).out.length < 4096) (h1 : (stOf (q ++ [v])).out.length = 4096) : kidsM l = (stOf (q ++ [v])).out := by
  obtain ⟨r, rfl⟩ := hq
  rw [List.append_assoc]
  have := runK_pre ⟨0, [], []⟩ q ([v] ++ r) (fun p u hp => by
    obtain ⟨r', rfl⟩ := hp
    have h2 := out_le (p ++ [u]) r'
    rw [stOf_snoc] at h2
    show (stepK (stOf p) u).out.length ≠ 4096
    omega)
  rw [kidsM, this]
  rw [stOf_snoc] at h1 ⊢
  show (runK (stOf q) (v :: r)).out = _
  rw [runK, if_pos h1]

/-- A value lies where its lists' blocks are as they were. -/
theorem in_blocks {w w' : World} : ∀ {v : V}, v.In w → (∀ g ∈ v.blocks, w'.heap[g]? = w.heap[g]?) → v.In w' := by
  intro v
  induction v with
  | leaf => exact fun h _ => h
  | mk k n s la ll lc L fa fl fc fn F e key hk ihL ihF =>
    rintro ⟨h1, h2, h3, h4, h5, h6, h7, hL, hF⟩ hb
    have atb : ∀ {b o : Nat} {cs : List Value}, w'.heap[b]? = w.heap[b]? → At w b o cs → At w' b o cs := fun he ha j hj => by
      rw [World.cell?_of_block (a := ⟨_, _, none⟩) he]
      exact ha j hj
    refine ⟨h1, h2, h3, h4, h5, h6, h7, fun i hi => ?_, fun i hi => ?_⟩
    · obtain ⟨⟨b, o, rfl, ha⟩, hi'⟩ := hL i hi
      exact ⟨⟨b, o, rfl, atb (hb b (by simp [V.blocks, addrs])) ha⟩, ihL i hi' fun g hg => hb g (by
        rw [V.blocks, List.mem_append, List.mem_append]
        exact .inr (.inl (joinTo_mem.2 ⟨i, hi, hg⟩)))⟩
    · obtain ⟨⟨b, o, rfl, ha⟩, hs, hi'⟩ := hF i hi
      exact ⟨⟨b, o, rfl, atb (hb b (by simp [V.blocks, addrs])) ha⟩, hs, ihF i hi' fun g hg => hb g (by
        rw [V.blocks, List.mem_append, List.mem_append, List.mem_append]
        exact .inr (.inr (.inr (joinTo_mem.2 ⟨i, hi, hg⟩))))⟩

/-- What Kids keeps: the box of the slice, the set of keys, the children in a row of their own. -/
structure KS (w0 : World) (Lo : Obj) (v : Value) (cs : List C) (seen : List (List UInt8)) (n : Nat) (W : World) : Prop where
  box : W.heap[w0.heap.size]? = some (.cells #[v] 31 (0, 0))
  map : W.ownsMap Tryd.prog 9 (unitElem (H := Unit)) (w0.heap.size + 1) n (Sm seen)
  sbox : W.heap[w0.heap.size + 2]? = some (.cells #[.map (some (w0.heap.size + 1))] 43 (0, 0))
  K : W.heap[w0.heap.size + 6]? = some (.deferred (some []))
  L : W.heap[w0.heap.size + 7]? = some Lo
  row : W.ownsRow (w0.heap.size + 8) 35 11 v cs.length (cs.flatMap C.cells)
  vals : ∀ c ∈ cs, c.val.In W ∧ ∀ g ∈ c.val.blocks, w0.heap.size + 8 ≤ g ∧ some g ≠ v.ownBlock ∧ g < W.heap.size
  low : Below w0.heap.size w0 W
  big : w0.heap.size + 8 ≤ W.heap.size

/-- A block that Kids turns. -/
def KO (w0 : World) (W : World) (g : Nat) : Prop := g = w0.heap.size ∨ g = w0.heap.size + 1 ∨ g = w0.heap.size + 7 ∨ ∃ v, W.heap[w0.heap.size]? = some (.cells #[v] 31 (0, 0)) ∧ v.ownBlock = some g

theorem KS.grown {w0 : World} {Lo : Obj} {v : Value} {cs : List C} {seen : List (List UInt8)} {n r : Nat} {W W' : World} (h : KS w0 Lo v cs seen n W) (hg : W.grownBy W' (some r)) (h0 : w0.heap.size ≤ r) (h1 : ∀ j, j < 8 → j ≠ 3 → j ≠ 4 → j ≠ 5 → r ≠ w0.heap.size + j) (hv : some r ≠ v.ownBlock) (hb : ∀ c ∈ cs, r ∉ c.val.blocks) : KS w0 Lo v cs seen n W' := by
  have hlt : ∀ {g : Nat} {o : Obj}, W.heap[g]? = some o → g < W.heap.size := fun h => (Array.getElem?_eq_some_iff.1 h).1
  have kp : ∀ {g : Nat} {o : Obj}, W.heap[g]? = some o → g ≠ r → W'.heap[g]? = some o := fun h hn => (hg.block _ (hlt h) (fun e => hn (by cases e; rfl))).trans h
  refine ⟨kp h.box (fun e => h1 0 (by decide) (by decide) (by decide) (by decide) e.symm), h.map.kept hg (fun e => h1 1 (by decide) (by decide) (by decide) (by decide) (by cases e; rfl)), kp h.sbox (fun e => h1 2 (by decide) (by decide) (by decide) (by decide) e.symm), kp h.K (fun e => h1 6 (by decide) (by decide) (by decide) (by decide) e.symm), kp h.L (fun e => h1 7 (by decide) (by decide) (by decide) (by decide) e.symm), h.row.kept hg ?_, fun c hc => ?_, h.low.grown hg h.low.size (fun k e => by cases e; exact h0), Nat.le_trans h.big hg.size⟩
  · cases hq : v.ownBlock with
    | none => exact .inl rfl
    | some g => exact .inr (fun e => hv (by rw [hq]; exact e.symm))
  · obtain ⟨q1, q2⟩ := h.vals c hc
    refine ⟨in_blocks q1 fun g hgm => hg.block g (q2 g hgm).2.2 (fun e => hb c hc (by cases e; exact hgm)), fun g hgm => ⟨(q2 g hgm).1, (q2 g hgm).2.1, Nat.lt_of_lt_of_le (q2 g hgm).2.2 hg.size⟩⟩
/-- .. where nothing that was there is turned. -/
theorem KS.below {w0 : World} {Lo : Obj} {v : Value} {cs : List C} {seen : List (List UInt8)} {n : Nat} {W W' : World} (h : KS w0 Lo v cs seen n W) (hb : Below W.heap.size W W') : KS w0 Lo v cs seen n W' :=
  h.grown (r := W.heap.size) (grown_of_below hb _) (by have := h.big; omega) (fun j hj _ _ _ e => by have := h.big; omega) (fun e => by have := (h.row.lt _ e.symm).2; omega) (fun c hc hm => by have := ((h.vals c hc).2 _ hm).2.2; omega)
/-- .. where the way's own box is turned. -/
theorem KS.way {w0 : World} {Lo : Obj} {v : Value} {cs : List C} {seen : List (List UInt8)} {n : Nat} {W W' : World} (h : KS w0 Lo v cs seen n W) (hg : W.grownBy W' (some (w0.heap.size + 3))) : KS w0 Lo v cs seen n W' :=
  h.grown hg (by omega) (fun j _ h3 _ _ e => h3 (by omega)) (fun e => by have := (h.row.lt _ e.symm).1; omega) (fun c hc hm => by have := ((h.vals c hc).2 _ hm).1; omega)
theorem KS.lt {w0 : World} {Lo : Obj} {v : Value} {cs : List C} {seen : List (List UInt8)} {n : Nat} {W : World} (h : KS w0 Lo v cs seen n W) {g : Nat} (hg : KO w0 W g) : g < W.heap.size ∧ w0.heap.size ≤ g := by
  have := h.big
  rcases hg with rfl | rfl | rfl | ⟨v', hb, hv⟩
  · omega
  · omega
  · omega
  · rw [h.box] at hb
    cases hb
    have := h.row.lt _ hv
    omega
theorem KO.way {w0 : World} {Lo : Obj} {v : Value} {cs : List C} {seen : List (List UInt8)} {n : Nat} {W W' : World} (h : KS w0 Lo v cs seen n W) (hg : W.grownBy W' (some (w0.heap.size + 3))) {g : Nat} (hk : KO w0 W' g) : KO w0 W g := by
  rcases hk with h' | h' | h' | ⟨v', hb, hv⟩
  · exact .inl h'
  · exact .inr (.inl h')
  · exact .inr (.inr (.inl h'))
  · rw [hg.block _ (Array.getElem?_eq_some_iff.1 h.box).1 (fun e => by have := Option.some.inj e; omega)] at hb
    exact .inr (.inr (.inr ⟨v', hb, hv⟩))
end Go.Proofs.YtpmkkgndpfbkdaaDoor
